/- leaf.Find of a leaf that may be. -/
import Derived.Test.YtahpdifneajblaaFind2
import Derived.Deep.QuietTactic
import Derived.BigQuiet
namespace Go.Proofs.Ytahpdifneajblaa
set_option linter.unusedVariables false
open Go.RowKit
theorem sof_cnt (x : Nd) (q : Nat) (hl : x.ks.length ≤ 1000) (hr : ris x.ks) (W : World) (hx : NR W x) :
    Calls Try.prog 26 #[.int .i64 1, .slice x.A1 x.ks.length x.c1, .int .u64 (q : Nat)] W fun e w' => e = .returned (.int .i64 (cnt x.ks q : Nat)) ∧ Below W.heap.size W w' := by
  have hm : x.ks.length ≤ maxLen := by unfold maxLen; omega
  by_cases h0 : 0 < x.ks.length
  · obtain ⟨b, o, hA, _, _, hc⟩ := hx.k.at h0
    have hb := World.block_lt_of_cell? W _ (hc 0 h0)
    have := sof_any 1 (q : Int) (x.ks.map (fun x : Nat => (x : Int))) x.A1 b o x.c1 (by simpa using hm) W (fun _ => ⟨hA, hb⟩) (fun i hi => by rw [castD]; exact hc i (by simpa using hi))
    rw [of_cnt x.ks q hr, List.length_map] at this
    exact this
  · have := sof_any 1 (q : Int) (x.ks.map (fun x : Nat => (x : Int))) x.A1 0 0 x.c1 (by simpa using hm) W (fun h => absurd (by simpa using h) h0) (fun i hi => absurd (by simp at hi; omega) h0)
    rw [of_cnt x.ks q hr, List.length_map] at this
    exact this
structure QF (w0 : World) (A : Option Addr) (n c : Nat) (W : World) : Prop where
  c1 : W.cell? ⟨w0.heap.size, 1, none⟩ = some (.slice A n c)
  bl : Below w0.heap.size w0 W
set_option maxHeartbeats 2000000 in
theorem find_yes (x : Nd) (q : Nat) (hl : x.ks.length ≤ 1000) (hr : rightP x) (W : World) (hx : NR W x) :
    Calls Try.prog 10 #[ndV x, .int .u64 (q : Nat)] W fun e w' => e = .returned (.tuple #[.int .i64 (cnt x.ks q : Nat), .bool (hasB x.ks q)]) ∧ Below W.heap.size W w' := by
  have RT := Lib.hid (fun W' h => right_any x (by omega) true (by simp [hr]) W' h)
  have SO := Lib.hid (fun W' h => sof_cnt x q hl hr.2.2 W' h)
  have HA := Lib.hid (has_at x.ks q hr.2.2)
  have HL := Lib.hid (cnt_le x.ks q)
  have K0 := Lib.hid (L0.start W x hx)
  have HX := Lib.hid hx
  have hmx : x.ks.length ≤ maxLen := by unfold maxLen; omega
  generalize cnt x.ks q = n0 at SO HA HL ⊢
  generalize hasB x.ks q = hb at HA ⊢
  have hn0 : (0 : Int) ≤ (n0 : Int) := by omega
  by_cases hlt : n0 < x.ks.length
  · obtain ⟨b, o, hA1, qk⟩ := HX.out.at1 n0 hlt
    have KC := Lib.hid (fun W' (h : Below W.heap.size W W') => (h.cell (p := ⟨b, o + n0, none⟩) (World.block_lt_of_cell? W _ qk)).trans qk)
    generalize x.ks.getD n0 0 = kv at KC HA
    have hli : (n0 : Int) < (x.ks.length : Int) := by omega
    clear hx hr qk
    obtain ⟨inner, ks, vs, lk, A1, c1, A2, c2⟩ := x
    simp only at hA1 hlt hli hmx hl HA
    subst hA1
    by_cases hk : kv = q
    · obtain rfl : hb = true := HA.out.2 ⟨hlt, hk⟩
      subst hk
      clear HA
      go_enter Try.func10, Try.ntmps10
      go_wp2_with (first
        | (go_at_call 14; refine (RT.out _ K0.out.r).mono ?_; rintro e w1 ⟨rfl, hn⟩; have K1 := Lib.hid (K0.out.next hn); clear hn; have d1 := K1.out.n.c1)
        | (go_at_call 26; refine (SO.out _ K1.out.r).mono ?_; rintro e w2 ⟨rfl, hn⟩; have K2 := Lib.hid ((K1.out.next hn).next (Below.refl _ _).drew); clear hn d1))
      have hs : (fun w' => w'.cell? ⟨W.heap.size, 1, none⟩ = some (.slice (some ⟨b, o, none⟩) ks.length c1) ∧ w'.cell? ⟨b, o + n0, none⟩ = some (.int .u64 (kv : Nat)) ∧ Below W.heap.size W w') _ := ⟨K2.out.n.c1, KC.out _ K2.out.bl, K2.out.bl⟩
      go_region_held3 (fun w' => w'.cell? ⟨W.heap.size, 1, none⟩ = some (.slice (some ⟨b, o, none⟩) ks.length c1) ∧ w'.cell? ⟨b, o + n0, none⟩ = some (.int .u64 (kv : Nat)) ∧ Below W.heap.size W w') (first | with_reducible exact hs | exact hs) (fail)
      all_goals (
        have BL := Lib.hid K2.out.bl
        clear hs
        go_wp2
        exact bodyPost_ret (v := .tuple #[.int .i64 (n0 : Nat), .bool true]) (by simp [results, Try.results10, go_sem]) rfl ⟨rfl, BL.out⟩)
    · obtain rfl : hb = false := by
        cases hb with
        | false => rfl
        | true => exact absurd (HA.out.1 rfl).2 hk
      have hki : ¬ (kv : Int) = (q : Int) := by omega
      clear HA hk
      go_enter Try.func10, Try.ntmps10
      go_wp2_with (first
        | (go_at_call 14; refine (RT.out _ K0.out.r).mono ?_; rintro e w1 ⟨rfl, hn⟩; have K1 := Lib.hid (K0.out.next hn); clear hn; have d1 := K1.out.n.c1)
        | (go_at_call 26; refine (SO.out _ K1.out.r).mono ?_; rintro e w2 ⟨rfl, hn⟩; have K2 := Lib.hid ((K1.out.next hn).next (Below.refl _ _).drew); clear hn d1))
      have hs : (fun w' => w'.cell? ⟨W.heap.size, 1, none⟩ = some (.slice (some ⟨b, o, none⟩) ks.length c1) ∧ w'.cell? ⟨b, o + n0, none⟩ = some (.int .u64 (kv : Nat)) ∧ Below W.heap.size W w') _ := ⟨K2.out.n.c1, KC.out _ K2.out.bl, K2.out.bl⟩
      go_region_held3 (fun w' => w'.cell? ⟨W.heap.size, 1, none⟩ = some (.slice (some ⟨b, o, none⟩) ks.length c1) ∧ w'.cell? ⟨b, o + n0, none⟩ = some (.int .u64 (kv : Nat)) ∧ Below W.heap.size W w') (first | with_reducible exact hs | exact hs) (fail)
      all_goals (
        have BL := Lib.hid K2.out.bl
        clear hs
        go_wp2
        exact bodyPost_ret (v := .tuple #[.int .i64 (n0 : Nat), .bool false]) (by simp [results, Try.results10, go_sem, hki]) rfl ⟨rfl, BL.out⟩)
  · have hge : n0 = x.ks.length := by have := HL.out; omega
    obtain rfl : hb = false := by
      cases hb with
      | false => rfl
      | true => exact absurd (HA.out.1 rfl).1 hlt
    clear hx hr HA hlt
    obtain ⟨inner, ks, vs, lk, A1, c1, A2, c2⟩ := x
    simp only at hge hmx hl
    subst hge
    go_enter Try.func10, Try.ntmps10
    go_wp2_with (first
      | (go_at_call 14; refine (RT.out _ K0.out.r).mono ?_; rintro e w1 ⟨rfl, hn⟩; have K1 := Lib.hid (K0.out.next hn); clear hn; have d1 := K1.out.n.c1)
      | (go_at_call 26; refine (SO.out _ K1.out.r).mono ?_; rintro e w2 ⟨rfl, hn⟩; have K2 := Lib.hid ((K1.out.next hn).next (Below.refl _ _).drew); clear hn d1))
    have HQ := Lib.hid (show QF W A1 ks.length c1 _ from ⟨K2.out.n.c1, K2.out.bl⟩)
    clear K2
    refine wp_region_class (C := QF W A1 ks.length c1) (by kernel_rfl) (by kernel_rfl) (HQ.out) ?_
    repeat (first
      | go_big_quiet_skip
      | (go_big_quiet_want; go_big_quiet_op; go_big_quiet_on)
      | (go_big_quiet_want; go_big_quiet_op; refine ⟨_, fun _ _ => rfl, ?_⟩; go_big_quiet_on)
      | (go_big_quiet_want
         apply quiet_mk
         · intro u hu
           have c1 := hu.c1
           have HU := Lib.hid hu
           clear hu
           go_simp
           first
             | with_reducible rfl
             | (fail)
         simp only [Act.put, List.setIfInBounds_toArray, List.set_cons_zero, List.set_cons_succ]
         go_big_quiet_on))
    refine wpQuiet_nil ?_
    intro u hu
    have BL := Lib.hid hu.bl
    clear hu HQ
    go_wp2
    exact bodyPost_ret (v := .tuple #[.int .i64 (ks.length : Nat), .bool false]) (by simp [results, Try.results10, go_sem]) rfl ⟨rfl, BL.out⟩
end Go.Proofs.Ytahpdifneajblaa
