/- leaf.Right, gleaningref12.Right, cut, part, joined, glued. -/
import Derived.Test.YtahpdifneajblaaNode
namespace Go.Proofs.Ytahpdifneajblaa
set_option linter.unusedVariables false
open Go.RowKit
/-- A node's block, and two of its keys. -/
structure NK (B : Nat) (w0 : World) (g : Nat) (x : Nd) (b i j : Nat) (p q : Nat) (W : World) : Prop extends NC g x W where
  k0 : W.cell? ⟨b, i, none⟩ = some (.int .u64 p)
  k1 : W.cell? ⟨b, j, none⟩ = some (.int .u64 q)
  bl : Below B w0 W
theorem NK.drew {B : Nat} {w0 : World} {g : Nat} {x : Nd} {b i j p q : Nat} {W : World} (h : NK B w0 g x b i j p q W) : NK B w0 g x b i j p q W.drew := ⟨h.toNC.drew, h.k0, h.k1, h.bl.drew⟩
set_option maxHeartbeats 1000000 in
theorem right_any (x : Nd) (hl : x.ks.length ≤ 100000) (r : Bool) (hr : r = true ↔ rightP x) (W : World) (hx : NR W x) :
    Calls Try.prog 14 #[ndV x] W fun e w' => e = .returned (.bool r) ∧ Below W.heap.size W w' := by
  obtain ⟨inner, ks, vs, link, A1, c1, A2, c2⟩ := x
  have HB := Lib.hid (nl1 W (ndRow ⟨inner, ks, vs, link, A1, c1, A2, c2⟩))
  cases inner with
  | true =>
    obtain rfl : r = false := by
      cases r with
      | false => rfl
      | true => have := (hr.1 rfl).1; cases this
    clear hr hx
    go_enter Try.func14, Try.ntmps14
    go_wp2
    go_ret
    exact ⟨rfl, HB.out⟩
  | false =>
    by_cases hlen : ks.length = vs.length
    · have hk : RL W A1 c1 ks := hx.k
      have HX := Lib.hid hk
      have HN := Lib.hid (show NC W.heap.size ⟨false, ks, vs, link, A1, c1, A2, c2⟩ (W.alloc (ndRow ⟨false, ks, vs, link, A1, c1, A2, c2⟩)) from NC.alloc W _)
      have hr' : r = true ↔ ris ks := ⟨fun h => (hr.1 h).2.2, fun h => hr.2 ⟨rfl, hlen, h⟩⟩
      have HR := Lib.hid hr'
      have hl' : ks.length ≤ 100000 := hl
      have hne : ((ks.length : Int) != (vs.length : Int)) = false := by simp; omega
      have hmx : ks.length ≤ maxLen := by unfold maxLen; omega
      clear hr hx hr' hk hlen hl
      go_enter Try.func14, Try.ntmps14
      go_wp2
      go_loopg [3] (ks.length + 1) (fun g i wr => ∃ j : Nat, 1 ≤ j ∧ (j ≤ ks.length ∨ j = 1) ∧ g = ks.length + 2 - j ∧ i = .int .i64 j ∧ NC W.heap.size ⟨false, ks, vs, link, A1, c1, A2, c2⟩ wr ∧ Below W.heap.size W wr ∧ ∀ i, i + 1 < j → ks.getD i 0 < ks.getD (i + 1) 0)
      case atStart => exact ⟨1, by omega, .inr rfl, by omega, rfl, HN.out, HB.out, fun i hi => by omega⟩
      case round =>
        obtain ⟨j, hj1, hj, hg, rfl, hc, hb, hs⟩ := hrel
        clear HN HB
        have d1 := hc.c1
        by_cases hlt : j < ks.length
        · have hjl := hlt
          obtain ⟨b, off, rfl, hle, hcm, hcell⟩ := (HX.out.next hb).at (by omega)
          have hk0 := hcell j hjl
          have hk1 := hcell (j - 1) (by omega)
          have hs1 : ks.getD (j - 1) 0 < ks.getD j 0 → ∀ i, i + 1 < j + 1 → ks.getD i 0 < ks.getD (i + 1) 0 := fun h i hi => by
            by_cases hij : i + 1 < j
            · exact hs i hij
            · obtain rfl : j = i + 1 := by omega
              exact h
          have hno : ¬ ks.getD (j - 1) 0 < ks.getD j 0 → r = false := fun h => by
            cases r with
            | false => rfl
            | true => exact absurd (HR.out.1 rfl (j - 1) (by omega)) (by rw [show j - 1 + 1 = j by omega]; exact h)
          generalize ks.getD j 0 = p at hk0 hs1 hno
          generalize ks.getD (j - 1) 0 = q at hk1 hs1 hno
          have HK := Lib.hid (show NK W.heap.size W W.heap.size ⟨false, ks, vs, link, some ⟨b, off, none⟩, c1, A2, c2⟩ b (off + j) (off + (j - 1)) p q wr from ⟨hc, hk0, hk1, hb⟩)
          have HK1 := Lib.hid HK.out.drew
          have HNC := Lib.hid hc
          have HS := Lib.hid hs1
          obtain ⟨m, rfl⟩ : ∃ m, j = m + 1 := ⟨j - 1, by omega⟩
          have hj1' : ((m : Int) + 1) - 1 = m := by omega
          have hm0 : (0 : Int) ≤ (m : Int) := by omega
          have hmn : (m : Int) < ks.length := by omega
          have hmn1 : (m : Int) + 1 < ks.length := by omega
          have e1 : m + 1 - 1 = m := by omega
          rw [e1] at HK1
          clear hs hc hb hk0 hk1 hcell HK hjl hs1
          by_cases hpq : q < p
          · have hf : ¬ ((p : Int) ≤ q) := by omega
            have hf2 : (q : Int) < p := by omega
            clear hno
            go_wp2
            refine wp_region_class (C := NK W.heap.size W W.heap.size ⟨false, ks, vs, link, some ⟨b, off, none⟩, c1, A2, c2⟩ b (off + (m + 1)) (off + m) p q) (by kernel_rfl) (by kernel_rfl) (HK1.out) ?_
            repeat (first
              | go_big_quiet_skip
              | (go_big_quiet_want; go_big_quiet_op; go_big_quiet_on)
              | (go_big_quiet_want; go_big_quiet_op; refine ⟨_, fun _ _ => rfl, ?_⟩; go_big_quiet_on)
              | (go_big_quiet_want
                 apply quiet_mk
                 · intro u hu
                   have c0 := hu.c0; have c1 := hu.c1; have c2 := hu.c2; have c3 := hu.c3; have k0 := hu.k0; have k1 := hu.k1
                   have HU := Lib.hid hu
                   clear hu
                   go_simp
                   first
                     | with_reducible rfl
                 simp only [Act.put, List.setIfInBounds_toArray, List.set_cons_zero, List.set_cons_succ]
                 go_big_quiet_on))
            refine wpQuiet_nil ?_
            intro u hu
            have HB2 := Lib.hid hu.bl
            have HC2 := Lib.hid hu.toNC
            clear hu HK1
            go_wp2
            go_roundg (ks.length + 2 - (m + 1 + 1))
            case rel => exact ⟨m + 1 + 1, by omega, .inl (by omega), rfl, by go_num, HC2.out, HB2.out, HS.out hpq⟩
            case measure => omega
          · have hf : (p : Int) ≤ q := by omega
            have hr0 := Lib.hid (hno hpq)
            clear hno
            go_wp2
            refine wp_region_class (C := NK W.heap.size W W.heap.size ⟨false, ks, vs, link, some ⟨b, off, none⟩, c1, A2, c2⟩ b (off + (m + 1)) (off + m) p q) (by kernel_rfl) (by kernel_rfl) (HK1.out) ?_
            repeat (first
              | go_big_quiet_skip
              | (go_big_quiet_want; go_big_quiet_op; go_big_quiet_on)
              | (go_big_quiet_want; go_big_quiet_op; refine ⟨_, fun _ _ => rfl, ?_⟩; go_big_quiet_on)
              | (go_big_quiet_want
                 apply quiet_mk
                 · intro u hu
                   have c0 := hu.c0; have c1 := hu.c1; have c2 := hu.c2; have c3 := hu.c3; have k0 := hu.k0; have k1 := hu.k1
                   have HU := Lib.hid hu
                   clear hu
                   go_simp
                   first
                     | with_reducible rfl
                 simp only [Act.put, List.setIfInBounds_toArray, List.set_cons_zero, List.set_cons_succ]
                 go_big_quiet_on))
            refine wpQuiet_nil ?_
            intro u hu
            have HB2 := Lib.hid hu.bl
            clear hu HK1
            go_wp2
            go_ret
            exact ⟨by rw [hr0.out]; rfl, HB2.out⟩
        · have hrt := Lib.hid (HR.out.2 (fun i hi => hs i (by omega)))
          have HB2 := Lib.hid hb
          clear hs hc hb
          go_wp2
          go_ret
          exact ⟨by rw [hrt.out]; rfl, HB2.out⟩
    · obtain rfl : r = false := by
        cases r with
        | false => rfl
        | true => exact absurd (hr.1 rfl).2.1 hlen
      have hne : ((ks.length : Int) != (vs.length : Int)) = true := by simp; omega
      clear hr hx hlen
      go_enter Try.func14, Try.ntmps14
      go_wp2
      go_ret
      exact ⟨rfl, HB.out⟩
set_option maxHeartbeats 1000000 in
theorem rright_any (x : Nd) (hl : x.ks.length ≤ 100000) (r : Bool) (hr : r = true ↔ rightP x) (W : World) (hx : NR W x) :
    Calls Try.prog 13 #[ndV x] W fun e w' => e = .returned (.bool r) ∧ Below W.heap.size W w' := by
  obtain ⟨inner, ks, vs, link, A1, c1, A2, c2⟩ := x
  have HB := Lib.hid (nl1 W (ndRow ⟨inner, ks, vs, link, A1, c1, A2, c2⟩))
  cases inner with
  | true =>
    obtain rfl : r = false := by
      cases r with
      | false => rfl
      | true => have := (hr.1 rfl).1; cases this
    clear hr hx
    go_enter Try.func13, Try.ntmps13
    go_wp2
    go_ret
    exact ⟨rfl, HB.out⟩
  | false =>
    by_cases hlen : ks.length = vs.length
    · have hk : RL W A1 c1 ks := hx.k
      have HX := Lib.hid hk
      have HN := Lib.hid (show NC W.heap.size ⟨false, ks, vs, link, A1, c1, A2, c2⟩ (W.alloc (ndRow ⟨false, ks, vs, link, A1, c1, A2, c2⟩)) from NC.alloc W _)
      have hr' : r = true ↔ ris ks := ⟨fun h => (hr.1 h).2.2, fun h => hr.2 ⟨rfl, hlen, h⟩⟩
      have HR := Lib.hid hr'
      have hl' : ks.length ≤ 100000 := hl
      have hne : ((ks.length : Int) != (vs.length : Int)) = false := by simp; omega
      have hmx : ks.length ≤ maxLen := by unfold maxLen; omega
      clear hr hx hr' hk hlen hl
      go_enter Try.func13, Try.ntmps13
      go_wp2
      go_loopg [3] (ks.length + 1) (fun g i wr => ∃ j : Nat, 1 ≤ j ∧ (j ≤ ks.length ∨ j = 1) ∧ g = ks.length + 2 - j ∧ i = .int .i64 j ∧ NC W.heap.size ⟨false, ks, vs, link, A1, c1, A2, c2⟩ wr ∧ Below W.heap.size W wr ∧ ∀ i, i + 1 < j → ks.getD i 0 < ks.getD (i + 1) 0)
      case atStart => exact ⟨1, by omega, .inr rfl, by omega, rfl, HN.out, HB.out, fun i hi => by omega⟩
      case round =>
        obtain ⟨j, hj1, hj, hg, rfl, hc, hb, hs⟩ := hrel
        clear HN HB
        have d1 := hc.c1
        by_cases hlt : j < ks.length
        · have hjl := hlt
          obtain ⟨b, off, rfl, hle, hcm, hcell⟩ := (HX.out.next hb).at (by omega)
          have hk0 := hcell j hjl
          have hk1 := hcell (j - 1) (by omega)
          have hs1 : ks.getD (j - 1) 0 < ks.getD j 0 → ∀ i, i + 1 < j + 1 → ks.getD i 0 < ks.getD (i + 1) 0 := fun h i hi => by
            by_cases hij : i + 1 < j
            · exact hs i hij
            · obtain rfl : j = i + 1 := by omega
              exact h
          have hno : ¬ ks.getD (j - 1) 0 < ks.getD j 0 → r = false := fun h => by
            cases r with
            | false => rfl
            | true => exact absurd (HR.out.1 rfl (j - 1) (by omega)) (by rw [show j - 1 + 1 = j by omega]; exact h)
          generalize ks.getD j 0 = p at hk0 hs1 hno
          generalize ks.getD (j - 1) 0 = q at hk1 hs1 hno
          have HK := Lib.hid (show NK W.heap.size W W.heap.size ⟨false, ks, vs, link, some ⟨b, off, none⟩, c1, A2, c2⟩ b (off + j) (off + (j - 1)) p q wr from ⟨hc, hk0, hk1, hb⟩)
          have HK1 := Lib.hid HK.out.drew
          have HNC := Lib.hid hc
          have HS := Lib.hid hs1
          obtain ⟨m, rfl⟩ : ∃ m, j = m + 1 := ⟨j - 1, by omega⟩
          have hj1' : ((m : Int) + 1) - 1 = m := by omega
          have hm0 : (0 : Int) ≤ (m : Int) := by omega
          have hmn : (m : Int) < ks.length := by omega
          have hmn1 : (m : Int) + 1 < ks.length := by omega
          have e1 : m + 1 - 1 = m := by omega
          rw [e1] at HK1
          clear hs hc hb hk0 hk1 hcell HK hjl hs1
          by_cases hpq : q < p
          · have hf : ¬ ((p : Int) ≤ q) := by omega
            have hf2 : (q : Int) < p := by omega
            clear hno
            go_wp2
            refine wp_region_class (C := NK W.heap.size W W.heap.size ⟨false, ks, vs, link, some ⟨b, off, none⟩, c1, A2, c2⟩ b (off + (m + 1)) (off + m) p q) (by kernel_rfl) (by kernel_rfl) (HK1.out) ?_
            repeat (first
              | go_big_quiet_skip
              | (go_big_quiet_want; go_big_quiet_op; go_big_quiet_on)
              | (go_big_quiet_want; go_big_quiet_op; refine ⟨_, fun _ _ => rfl, ?_⟩; go_big_quiet_on)
              | (go_big_quiet_want
                 apply quiet_mk
                 · intro u hu
                   have c0 := hu.c0; have c1 := hu.c1; have c2 := hu.c2; have c3 := hu.c3; have k0 := hu.k0; have k1 := hu.k1
                   have HU := Lib.hid hu
                   clear hu
                   go_simp
                   first
                     | with_reducible rfl
                 simp only [Act.put, List.setIfInBounds_toArray, List.set_cons_zero, List.set_cons_succ]
                 go_big_quiet_on))
            refine wpQuiet_nil ?_
            intro u hu
            have HB2 := Lib.hid hu.bl
            have HC2 := Lib.hid hu.toNC
            clear hu HK1
            go_wp2
            go_roundg (ks.length + 2 - (m + 1 + 1))
            case rel => exact ⟨m + 1 + 1, by omega, .inl (by omega), rfl, by go_num, HC2.out, HB2.out, HS.out hpq⟩
            case measure => omega
          · have hf : (p : Int) ≤ q := by omega
            have hr0 := Lib.hid (hno hpq)
            clear hno
            go_wp2
            refine wp_region_class (C := NK W.heap.size W W.heap.size ⟨false, ks, vs, link, some ⟨b, off, none⟩, c1, A2, c2⟩ b (off + (m + 1)) (off + m) p q) (by kernel_rfl) (by kernel_rfl) (HK1.out) ?_
            repeat (first
              | go_big_quiet_skip
              | (go_big_quiet_want; go_big_quiet_op; go_big_quiet_on)
              | (go_big_quiet_want; go_big_quiet_op; refine ⟨_, fun _ _ => rfl, ?_⟩; go_big_quiet_on)
              | (go_big_quiet_want
                 apply quiet_mk
                 · intro u hu
                   have c0 := hu.c0; have c1 := hu.c1; have c2 := hu.c2; have c3 := hu.c3; have k0 := hu.k0; have k1 := hu.k1
                   have HU := Lib.hid hu
                   clear hu
                   go_simp
                   first
                     | with_reducible rfl
                 simp only [Act.put, List.setIfInBounds_toArray, List.set_cons_zero, List.set_cons_succ]
                 go_big_quiet_on))
            refine wpQuiet_nil ?_
            intro u hu
            have HB2 := Lib.hid hu.bl
            clear hu HK1
            go_wp2
            go_ret
            exact ⟨by rw [hr0.out]; rfl, HB2.out⟩
        · have hrt := Lib.hid (HR.out.2 (fun i hi => hs i (by omega)))
          have HB2 := Lib.hid hb
          clear hs hc hb
          go_wp2
          go_ret
          exact ⟨by rw [hrt.out]; rfl, HB2.out⟩
    · obtain rfl : r = false := by
        cases r with
        | false => rfl
        | true => exact absurd (hr.1 rfl).2.1 hlen
      have hne : ((ks.length : Int) != (vs.length : Int)) = true := by simp; omega
      clear hr hx hlen
      go_enter Try.func13, Try.ntmps13
      go_wp2
      go_ret
      exact ⟨rfl, HB.out⟩
abbrev cutA (A : Option Addr) (f t : Nat) : Option Addr := if t = f then A else A.map (fun x => x.add f)
abbrev cutL (us : List Nat) (f t : Nat) : List Nat := (us.drop f).take (t - f)
theorem cutL_len (us : List Nat) (f t : Nat) (ht : t ≤ us.length) : (cutL us f t).length = t - f := by simp; omega
theorem RL.cut {W : World} {A : Option Addr} {c : Nat} {us : List Nat} (h : RL W A c us) (f t : Nat) (hf : f ≤ t) (ht : t ≤ us.length) : RL W (cutA A f t) (t - f) (cutL us f t) := by
  rcases h with ⟨rfl, rfl, rfl⟩ | ⟨a, rfl, rfl, h2⟩ | ⟨b, o, rfl, h1, h2, h3⟩
  · obtain rfl : t = 0 := by simpa using ht
    obtain rfl : f = 0 := by omega
    exact .inl ⟨rfl, rfl, by simp⟩
  · obtain rfl : t = 0 := by simpa using ht
    obtain rfl : f = 0 := by omega
    exact .inr (.inl ⟨a, by simp [cutA], by simp, by omega⟩)
  · by_cases e : t = f
    · subst e
      exact .inr <| .inr ⟨b, o, by simp [cutA], by simp, by omega, fun j hj => by simp at hj⟩
    · refine .inr <| .inr ⟨b, o + f, by simp [cutA, e, add_plain'], by rw [cutL_len us f t ht]; omega, by omega, fun j hj => ?_⟩
      rw [cutL_len us f t ht] at hj
      have := h3 (f + j) (by omega)
      rw [Nat.add_assoc, this]
      have e2 : (cutL us f t).getD j 0 = us.getD (f + j) 0 := by
        simp only [List.getD, cutL]
        rw [List.getElem?_take_of_lt hj, List.getElem?_drop]
      rw [e2]
theorem cut_any (us : List Nat) (A : Option Addr) (c f t : Nat) (hf : f ≤ t) (ht : t ≤ us.length) (hl : us.length ≤ c) (hc : c ≤ maxLen) (W : World) : Calls Try.prog 37 #[.slice A us.length c, .int .i64 f, .int .i64 t] W fun e w' => e = .returned (.slice (cutA A f t) (cutL us f t).length (t - f)) ∧ w' = W := by
  have hlen := cutL_len us f t ht
  rw [hlen]
  have h1 : (f : Int) ≤ t := by omega
  have h2 : (t : Int) ≤ us.length := by omega
  have h3 : (t : Int) ≤ c := by omega
  have h0 : (0 : Int) ≤ (f : Int) := by omega
  have h5 : (0 : Int) ≤ (t : Int) := by omega
  by_cases e : t = f
  · subst e
    rw [show cutA A t t = A by simp [cutA], Nat.sub_self]
    clear hlen
    go_enter Try.func37, Try.ntmps37
    go_wp2
    go_ret
    exact ⟨rfl, rfl⟩
  · rw [show cutA A f t = A.map (fun x => x.add f) by simp [cutA, e]]
    clear hlen
    go_enter Try.func37, Try.ntmps37
    go_wp2
    all_goals first | contradiction | (go_ret; exact ⟨rfl, rfl⟩)
abbrev Nd.part (x : Nd) (f t : Nat) : Nd := ⟨false, cutL x.ks f t, cutL x.vs f t, 0, cutA x.A1 f t, t - f, cutA x.A2 f t, t - f⟩
theorem RL.max {W : World} {A : Option Addr} {c : Nat} {us : List Nat} (h : RL W A c us) : c ≤ maxLen := by
  rcases h with ⟨_, rfl, _⟩ | ⟨_, _, _, h⟩ | ⟨_, _, _, _, h, _⟩
  · exact Nat.zero_le _
  · exact h
  · exact h
theorem NR.part {W : World} {x : Nd} (h : NR W x) (f t : Nat) (hf : f ≤ t) (h1 : t ≤ x.ks.length) (h2 : t ≤ x.vs.length) : NR W (x.part f t) := ⟨h.k.cut f t hf h1, h.v.cut f t hf h2⟩
/-- A node's block, and another one that waits. -/
structure NP (B : Nat) (w0 : World) (g : Nat) (x : Nd) (r : Nat) (W : World) : Prop extends NC g x W where
  z : NC r Nd.zero W
  bl : Below B w0 W
theorem NP.drew {B : Nat} {w0 : World} {g : Nat} {x : Nd} {r : Nat} {W : World} (h : NP B w0 g x r W) : NP B w0 g x r W.drew := ⟨h.toNC.drew, h.z.drew, h.bl.drew⟩
set_option maxHeartbeats 1000000 in
theorem part_any (x : Nd) (f t : Nat) (hf : f ≤ t) (h1 : t ≤ x.ks.length) (h2 : t ≤ x.vs.length) (k1 : x.ks.length ≤ x.c1) (k2 : x.vs.length ≤ x.c2) (m1 : x.c1 ≤ maxLen) (m2 : x.c2 ≤ maxLen) (W : World) :
    Calls Try.prog 28 #[ndV x, .int .i64 f, .int .i64 t] W fun e w' => e = .returned (ndV (x.part f t)) ∧ Below W.heap.size W w' := by
  have C1 := Lib.hid (cut_any x.ks x.A1 x.c1 f t hf h1 k1 m1)
  have C2 := Lib.hid (cut_any x.vs x.A2 x.c2 f t hf h2 k2 m2)
  have HK := Lib.hid (show NP W.heap.size W W.heap.size x (W.heap.size + 1) ((W.alloc (ndRow x)).alloc (ndRow Nd.zero)) from ⟨(NC.alloc W x).next (nl1 _ _), by have := NC.alloc (W.alloc (ndRow x)) Nd.zero; simpa using this, nl2 _ _ _⟩)
  have HK1 := Lib.hid HK.out.drew
  clear hf h1 h2 k1 k2 m1 m2 HK
  show Calls _ _ _ _ fun e w' => e = .returned (.agg #[.bool false, .slice (cutA x.A1 f t) (cutL x.ks f t).length (t - f), .slice (cutA x.A2 f t) (cutL x.vs f t).length (t - f), .int .u64 0]) ∧ _
  generalize cutA x.A1 f t = B1 at C1 ⊢
  generalize cutA x.A2 f t = B2 at C2 ⊢
  generalize (cutL x.ks f t).length = n1 at C1 ⊢
  generalize (cutL x.vs f t).length = n2 at C2 ⊢
  generalize t - f = d at C1 C2 ⊢
  go_enter Try.func28, Try.ntmps28
  go_wp2
  refine wp_region_class_tail (C := NP W.heap.size W W.heap.size x (W.heap.size + 1)) 11 (by kernel_rfl) (by kernel_rfl) (HK1.out) ?_
  simp only [List.take_succ_cons, List.take_zero, List.drop_succ_cons, List.drop_zero]
  repeat (first
    | go_big_quiet_skip
    | (go_big_quiet_want; go_big_quiet_op; go_big_quiet_on)
    | (go_big_quiet_want; go_big_quiet_op; refine ⟨_, fun _ _ => rfl, ?_⟩; go_big_quiet_on)
    | (go_big_quiet_want
       apply quiet_mk
       · intro u hu
         have c0 := hu.c0; have c1 := hu.c1; have c2 := hu.c2; have c3 := hu.c3
         have HU := Lib.hid hu
         clear hu
         go_simp
         first
           | with_reducible rfl
           | (go_at_call 37; with_reducible refine (C1.out _).mono ?_; rintro e w' ⟨rfl, rfl⟩; exact ⟨rfl, HU.out⟩) | (go_at_call 37; with_reducible refine (C2.out _).mono ?_; rintro e w' ⟨rfl, rfl⟩; exact ⟨rfl, HU.out⟩)
       simp only [Act.put, List.setIfInBounds_toArray, List.set_cons_zero, List.set_cons_succ]
       go_big_quiet_on))
  refine wpQuiet_nil ?_
  intro u hu
  have e0 := hu.z.c0
  have e1 := hu.z.c1
  have e2 := hu.z.c2
  have e3 := hu.z.c3
  have fz := hu.z.fz
  have BL := Lib.hid hu.bl
  clear hu HK1
  go_wp2
  exact bodyPost_ret (v := .agg #[.bool false, .slice B1 n1 d, .slice B2 n2 d, .int .u64 0]) (by simp [results, Try.results28, go_sem, e0, e1, e2, e3]) rfl ⟨rfl, below_put4 BL.out (by omega) _ _ _ _⟩
set_option maxHeartbeats 1000000 in
theorem joined_any (us1 us2 : List Nat) (A1 A2 : Option Addr) (c1 c2 h : Nat) (W : World) (hl : us1.length + us2.length ≤ 100000) (d0 : W.cell? ⟨h, 0, none⟩ = some (.slice A1 us1.length c1)) (d1 : W.cell? ⟨h, 1, none⟩ = some (.slice A2 us2.length c2)) (R1 : RL W A1 c1 us1) (R2 : RL W A2 c2 us2) :
    Calls Try.prog 36 #[.slice (some ⟨h, 0, none⟩) 2 2] W fun e w' => ∃ v, e = .returned v ∧ w'.ownsRow W.heap.size 23 1 v (us1 ++ us2).length (nw (us1 ++ us2)) ∧ Below W.heap.size W w' := by
  have Q1 := Lib.hid R1
  have Q2 := Lib.hid R2
  have D1 := Lib.hid d1
  have hlt : h < W.heap.size := World.block_lt_of_cell? W _ d0
  clear R1 R2 d1
  go_enter Try.func36, Try.ntmps36
  go_wp2
  refine wp_loop_rounds 3 ?_
  rw [rounds_succ]
  go_wp2_with (at_builtin; refine wpList_append_RL rfl _ _ rfl W.heap.size (.slice none 0 0) [] us1 A1 c1 rfl rfl (World.ownsRow_nil _ _ _ _) Q1.out (by simp; omega) (Nat.le_refl _) ?_; intro v1 w1 own1 grow1 hat1; have HB1 := Lib.hid ((Below.refl W.heap.size W).grown grow1 (Nat.le_refl _) (fun k e => by simp [Value.ownBlock] at e)); have O1 := Lib.hid own1; clear own1 grow1 hat1)
  have d1 : w1.cell? ⟨h, 1, none⟩ = some (.slice A2 us2.length c2) := (HB1.out.cell (p := ⟨h, 1, none⟩) hlt).trans D1.out
  rw [rounds_succ]
  go_wp2_with (at_builtin; refine wpList_append_RL rfl _ _ rfl W.heap.size v1 ([] ++ us1) us2 A2 c2 rfl rfl O1.out (Q2.out.next HB1.out) (by simpa using hl) HB1.out.size ?_; intro v2 w2 own2 grow2 hat2; have HB2 := Lib.hid (HB1.out.grown grow2 HB1.out.size (fun k e => (O1.out.lt k e).1)); have O2 := Lib.hid own2; clear own2 grow2 hat2)
  rw [rounds_succ]
  go_wp2
  go_ret
  exact ⟨_, rfl, by simpa using O2.out, HB2.out⟩
end Go.Proofs.Ytahpdifneajblaa
