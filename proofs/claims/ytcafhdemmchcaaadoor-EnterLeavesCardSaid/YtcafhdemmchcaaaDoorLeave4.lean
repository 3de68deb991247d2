/- The document's answer for a thread that leaves; both alike. -/
import Derived.Maps.AppendAt
import Derived.OwnWalk
import Derived.Test.YtcafhdemmchcaaaDoorLeave2
namespace Go.Proofs.YtcafhdemmchcaaaDoor
set_option linter.unusedVariables false
open Go.RowKit Go.Extern.Stop Go.Stop Go.Extern
abbrev askC (x : Int) : List Value := [.int .i64 2, .int .i64 x, .int .u64 0, .int .u64 0]
def askL (xs : List Int) : List Value := xs.flatMap askC
theorem askL_snoc (xs : List Int) (x : Int) : askL (xs ++ [x]) = askL xs ++ askC x := by simp [askL]
theorem infoA : (Tryd.prog.info? 39).map (fun i => (i.zero, i.size, i.bytes)) = some (some (.agg #[.int .i64 0, .int .i64 0, .int .u64 0, .int .u64 0]), 4, 32) := by kernel_rfl
theorem sliceA : Tryd.prog.underlying 45 = some (.slice 39) := by kernel_rfl
theorem own_below4 {B base n : Nat} {e : TypeId} {sz : Nat} {v : Value} {xs : List Value} {W W' : World} (h : W.ownsRow base e sz v n xs) (hb : Below W.heap.size W W') : W'.ownsRow base e sz v n xs :=
  h.kept (row := none) ⟨hb.os, hb.tape, hb.output, hb.size, fun k hk _ => hb.block k hk⟩ (by by_cases e : v.ownBlock = none; exact .inl e; exact .inr e)
theorem rhazard_any (s t f l p th i : Int) (h0 : 0 ≤ th) (h1 : th < 64) (ht : 0 ≤ t) (ht2 : t ≤ 64) (hi : 0 ≤ i) (hi2 : i < 2) (W : World) :
    Calls Tryd.prog 33 #[cfgV s t f l p, .int .i64 th, .int .i64 i] W fun e w' => e = .returned (.int .i64 (3 + t + 2 * th + i)) ∧ Below W.heap.size W w' := by
  have HB := Lib.hid (below1 W)
  go_enter Tryd.func33, Tryd.ntmps33
  go_wp2
  go_ret
  exact ⟨ret_i (by omega), HB.out _⟩
theorem rleaves_no (s t f l p th : Int) (sl : Bool) (hH : ∀ W : World, Calls Tryd.prog 23 #[cfgV s t f l p, .int .i64 th] W fun e w' => e = .returned (.bool false) ∧ Below W.heap.size W w') (W : World) :
    Calls Tryd.prog 15 #[cfgV s t f l p, .int .i64 th, .bool sl] W fun e w' => ∃ v, e = .returned v ∧ w'.ownsRow W.heap.size 39 4 v 0 (askL []) ∧ Below W.heap.size W w' := by
  have H := Lib.hid hH
  have HB := Lib.hid (below1 W)
  clear hH
  go_enter Tryd.func15, Tryd.ntmps15
  go_wp2_with (go_at_call 23; refine (H.out _).mono ?_; rintro e w1 ⟨rfl, hn⟩; have HN := Lib.hid hn; clear hn)
  go_ret
  exact ⟨_, rfl, World.ownsRow_nil _ _ _ _, (HB.out _).trans (HN.out.mono (HB.out _).size)⟩
theorem k5_start (W : World) (s t f l p : Int) : K5 W.heap.size W W.heap.size s t f l p (W.alloc (.cells #[.int .i64 s, .int .i64 t, .int .i64 f, .int .i64 l, .int .i64 p] 23)) := ⟨by simp, by simp, by simp, by simp, by simp, below1 _ _, by simp⟩
theorem own_ask1 {base : Nat} (W : World) (x : Int) (hb : base ≤ W.heap.size) : (W.alloc (.cells #[.int .i64 2, .int .i64 x, .int .u64 0, .int .u64 0] 39)).ownsRow base 39 4 (.slice (some ⟨W.heap.size, 0, none⟩) 1 1) 1 (askL [x]) := by
  have := World.ownsRow_lit (base := base) (e := 39) (size := 4) W #[.int .i64 2, .int .i64 x, .int .u64 0, .int .u64 0] 1 hb (by simp [maxLen]) (by simp)
  simpa [askL] using this
set_option maxHeartbeats 2000000 in
theorem rleaves_1 (s t f l p th : Int) (h0 : 0 ≤ th) (h1 : th < 64) (hH : ∀ W : World, Calls Tryd.prog 23 #[cfgV s t f l p, .int .i64 th] W fun e w' => e = .returned (.bool true) ∧ Below W.heap.size W w') (W : World) :
    Calls Tryd.prog 15 #[cfgV s t f l p, .int .i64 th, .bool false] W fun e w' => ∃ v, e = .returned v ∧ w'.ownsRow W.heap.size 39 4 v 1 (askL [3 + th]) ∧ Below W.heap.size W w' := by
  have H := Lib.hid hH
  have HK := Lib.hid (k5_start W s t f l p)
  have A := Lib.hid (rannounce_any s t f l p th h0 h1)
  generalize 3 + th = a at A ⊢
  clear hH
  go_enter Tryd.func15, Tryd.ntmps15
  go_wp2_with (first
    | (go_at_call 23; refine (H.out _).mono ?_; rintro e w1 ⟨rfl, hn⟩; have h9 := HK.out.next hn; clear hn; have c0 := h9.c0; have c1 := h9.c1; have c2 := h9.c2; have c3 := h9.c3; have c4 := h9.c4)
    | (go_at_call 29; refine (A.out _).mono ?_; rintro e w2 ⟨rfl, hn⟩; have h8 := Lib.hid (h9.next hn); clear hn h9))
  go_ret
  exact ⟨_, rfl, own_ask1 w2 a h8.out.le, h8.out.bl.alloc h8.out.le _⟩
theorem cut_bounds (t : Nat) (e : TypeId) : 3 ≤ (Question.appendCap 3 1 e).cut t ∧ (Question.appendCap 3 1 e).cut t ≤ maxLen := by
  show 3 ≤ 3 + t % (2 ^ 63 - 3) ∧ 3 + t % (2 ^ 63 - 3) ≤ maxLen
  have := Nat.mod_lt t (show 0 < 2 ^ 63 - 3 by decide)
  unfold maxLen
  omega
theorem own_raw {base : Nat} (u : World) (gb c : Nat) (a q1 q2 : Int) (hgb : gb = u.heap.size) (hb : base ≤ u.heap.size) (h1 : 3 ≤ c) (h2 : c ≤ maxLen) :
    (u.alloc (.cells (#[.int .i64 2, .int .i64 a, .int .u64 0, .int .u64 0] ++ (#[.int .i64 2, .int .i64 q1, .int .u64 0, .int .u64 0, .int .i64 2, .int .i64 q2, .int .u64 0, .int .u64 0] ++ Builtin.zeroCells #[.int .i64 0, .int .i64 0, .int .u64 0, .int .u64 0] (c - 3))) 39)).ownsRow base 39 4 (.slice (some ⟨gb, 0, none⟩) 3 c) 3 (askL [a, q1, q2]) := by
  subst hgb
  exact ⟨by simp [askL], .inr ⟨_, c, _, rfl, hb, heap_alloc_new u _, h1, h2, by simp [size_zeroCells]; omega, by simp [askL]⟩⟩
/-- The configuration's block, and the row that is grown. -/
structure KH (B : Nat) (w0 : World) (g : Nat) (s t f l p : Int) (v : Value) (xs : List Value) (W : World) : Prop extends K5 B w0 g s t f l p W where
  own : W.ownsRow B 39 4 v 1 xs
theorem KH.next {B : Nat} {w0 : World} {g : Nat} {s t f l p : Int} {v : Value} {xs : List Value} {W W' : World} (h : KH B w0 g s t f l p v xs W) (hb : Below W.heap.size W W') : KH B w0 g s t f l p v xs W' := ⟨h.toK5.next hb, own_below4 (B := 0) h.own hb⟩
theorem KH.drew {B : Nat} {w0 : World} {g : Nat} {s t f l p : Int} {v : Value} {xs : List Value} {W : World} (h : KH B w0 g s t f l p v xs W) : KH B w0 g s t f l p v xs W.drew := ⟨⟨h.c0, h.c1, h.c2, h.c3, h.c4, h.bl.drew, h.le⟩, h.own⟩
set_option maxRecDepth 100000 in
set_option maxHeartbeats 4000000 in
theorem rleaves_3 (s t f l p th : Int) (h0 : 0 ≤ th) (h1 : th < 64) (ht : 0 ≤ t) (ht2 : t ≤ 64) (hH : ∀ W : World, Calls Tryd.prog 23 #[cfgV s t f l p, .int .i64 th] W fun e w' => e = .returned (.bool true) ∧ Below W.heap.size W w') (W : World) :
    Calls Tryd.prog 15 #[cfgV s t f l p, .int .i64 th, .bool true] W fun e w' => ∃ v, e = .returned v ∧ w'.ownsRow W.heap.size 39 4 v 3 (askL [3 + th, 3 + t + 2 * th, 3 + t + 2 * th + 1]) ∧ Below W.heap.size W w' := by
  obtain ⟨i0, hi, hz0, hz1, hz2⟩ := info_parts infoA
  have H := Lib.hid hH
  have HK := Lib.hid (k5_start W s t f l p)
  have A := Lib.hid (rannounce_any s t f l p th h0 h1)
  have Z0 : RowKit.Hid (∀ W : World, Calls Tryd.prog 33 #[cfgV s t f l p, .int .i64 th, .int .i64 0] W fun e w' => e = .returned (.int .i64 (3 + t + 2 * th)) ∧ Below W.heap.size W w') := Lib.hid (fun W => by have := rhazard_any s t f l p th 0 h0 h1 ht ht2 (by omega) (by omega) W; rw [Int.add_zero] at this; exact this)
  have Z1 : RowKit.Hid (∀ W : World, Calls Tryd.prog 33 #[cfgV s t f l p, .int .i64 th, .int .i64 1] W fun e w' => e = .returned (.int .i64 (3 + t + 2 * th + 1)) ∧ Below W.heap.size W w') := Lib.hid (fun W => rhazard_any s t f l p th 1 h0 h1 ht ht2 (by omega) (by omega) W)
  generalize 3 + t + 2 * th + 1 = q2 at Z1 ⊢
  generalize 3 + t + 2 * th = q1 at Z0 ⊢
  generalize 3 + th = a at A ⊢
  have HI := Lib.hid (And.intro hi (And.intro hz0 (And.intro hz1 hz2)))
  clear hH hi hz0 hz1 hz2
  go_enter Tryd.func15, Tryd.ntmps15
  go_wp2_with (first
    | (go_at_call 23; refine (H.out _).mono ?_; rintro e w1 ⟨rfl, hn⟩; have h9 := HK.out.next hn; clear hn; have c0 := h9.c0; have c1 := h9.c1; have c2 := h9.c2; have c3 := h9.c3; have c4 := h9.c4)
    | (go_at_call 29; refine (A.out _).mono ?_; rintro e w2 ⟨rfl, hn⟩; have h8 := Lib.hid (h9.next hn); clear hn h9 c0 c1 c2 c3 c4))
  have HH := Lib.hid (KH.drew (show KH W.heap.size W W.heap.size s t f l p (.slice (some ⟨w2.heap.size, 0, none⟩) 1 1) (askL [a]) (w2.alloc (.cells #[.int .i64 2, .int .i64 a, .int .u64 0, .int .u64 0] 39)) from ⟨h8.out.next (below1 _ _), own_ask1 w2 a h8.out.le⟩))
  clear HK h8
  have t1 : True := trivial
  have t2 : True := trivial
  have hh := HH.out
  have c0 := hh.c0
  have c1 := hh.c1
  have c2 := hh.c2
  have c3 := hh.c3
  have c4 := hh.c4
  clear hh
  have dz : w2.heap.size < (w2.alloc (.cells #[.int .i64 2, .int .i64 a, .int .u64 0, .int .u64 0] 39)).drew.heap.size := by show w2.heap.size < (w2.alloc _).heap.size; simp
  have d0 : (w2.alloc (.cells #[.int .i64 2, .int .i64 a, .int .u64 0, .int .u64 0] 39)).drew.cell? ⟨w2.heap.size, 0, none⟩ = some (.int .i64 2) := by show (w2.alloc _).cell? _ = _; simp
  have d1 : (w2.alloc (.cells #[.int .i64 2, .int .i64 a, .int .u64 0, .int .u64 0] 39)).drew.cell? ⟨w2.heap.size, 1, none⟩ = some (.int .i64 a) := by show (w2.alloc _).cell? _ = _; simp
  have d2 : (w2.alloc (.cells #[.int .i64 2, .int .i64 a, .int .u64 0, .int .u64 0] 39)).drew.cell? ⟨w2.heap.size, 2, none⟩ = some (.int .u64 0) := by show (w2.alloc _).cell? _ = _; simp
  have d3 : (w2.alloc (.cells #[.int .i64 2, .int .i64 a, .int .u64 0, .int .u64 0] 39)).drew.cell? ⟨w2.heap.size, 3, none⟩ = some (.int .u64 0) := by show (w2.alloc _).cell? _ = _; simp
  have DD := Lib.hid (And.intro dz (And.intro d0 (And.intro d1 (And.intro d2 d3))))
  clear dz d0 d1 d2 d3
  have hnx : Builtin.nextslicecap 3 1 = 3 := by decide
  go_region_with (first
    | (go_at_call 33; have _t := t1; with_reducible refine (Z0.out _).mono ?_; rintro e k1 ⟨rfl, hn⟩; clear t1; have H1 := Lib.hid (HH.out.next hn); have D1 := Lib.hid (And.intro (Nat.lt_of_lt_of_le DD.out.1 hn.size) (And.intro ((hn.cell (p := ⟨w2.heap.size, 0, none⟩) DD.out.1).trans DD.out.2.1) (And.intro ((hn.cell (p := ⟨w2.heap.size, 1, none⟩) DD.out.1).trans DD.out.2.2.1) (And.intro ((hn.cell (p := ⟨w2.heap.size, 2, none⟩) DD.out.1).trans DD.out.2.2.2.1) ((hn.cell (p := ⟨w2.heap.size, 3, none⟩) DD.out.1).trans DD.out.2.2.2.2))))); clear hn c0 c1 c2 c3 c4; have c0 := H1.out.c0; have c1 := H1.out.c1; have c2 := H1.out.c2; have c3 := H1.out.c3; have c4 := H1.out.c4)
    | (go_at_call 33; have _t := t2; with_reducible refine (Z1.out _).mono ?_; rintro e k2 ⟨rfl, hn⟩; clear t2; have HU := Lib.hid (H1.out.next hn); have hm := below1 k2 (.cells #[.int .i64 2, .int .i64 q1, .int .u64 0, .int .u64 0, .int .i64 2, .int .i64 q2, .int .u64 0, .int .u64 0] 39); have hl2 := Nat.lt_of_lt_of_le D1.out.1 hn.size; have d0 := (hm.cell (p := ⟨w2.heap.size, 0, none⟩) hl2).trans ((hn.cell (p := ⟨w2.heap.size, 0, none⟩) D1.out.1).trans D1.out.2.1); have d1 := (hm.cell (p := ⟨w2.heap.size, 1, none⟩) hl2).trans ((hn.cell (p := ⟨w2.heap.size, 1, none⟩) D1.out.1).trans D1.out.2.2.1); have d2 := (hm.cell (p := ⟨w2.heap.size, 2, none⟩) hl2).trans ((hn.cell (p := ⟨w2.heap.size, 2, none⟩) D1.out.1).trans D1.out.2.2.2.1); have d3 := (hm.cell (p := ⟨w2.heap.size, 3, none⟩) hl2).trans ((hn.cell (p := ⟨w2.heap.size, 3, none⟩) D1.out.1).trans D1.out.2.2.2.2); clear hn hm c0 c1 c2 c3 c4))
  all_goals (
    have hcb := cut_bounds (k2.tape k2.drawn (Question.appendCap 3 1 39)) 39
    generalize (Question.appendCap 3 1 39).cut (k2.tape k2.drawn (Question.appendCap 3 1 39)) = cc at hcb ⊢
    have hb1 := HU.out.bl.alloc HU.out.le (.cells #[.int .i64 2, .int .i64 q1, .int .u64 0, .int .u64 0, .int .i64 2, .int .i64 q2, .int .u64 0, .int .u64 0] 39)
    have hbl := (hb1.alloc hb1.size (.cells (#[.int .i64 2, .int .i64 a, .int .u64 0, .int .u64 0] ++ (#[.int .i64 2, .int .i64 q1, .int .u64 0, .int .u64 0, .int .i64 2, .int .i64 q2, .int .u64 0, .int .u64 0] ++ Builtin.zeroCells #[.int .i64 0, .int .i64 0, .int .u64 0, .int .u64 0] (cc - 3))) 39)).drew
    have hown := (own_raw (base := W.heap.size) (k2.alloc (.cells #[.int .i64 2, .int .i64 q1, .int .u64 0, .int .u64 0, .int .i64 2, .int .i64 q2, .int .u64 0, .int .u64 0] 39)) (k2.heap.size + 1) cc a q1 q2 (by simp) hb1.size hcb.1 hcb.2).drew
    have HF := Lib.hid (And.intro hown hbl)
    clear hown hbl hb1 hcb d0 d1 d2 d3
    go_wp2
    go_ret
    exact ⟨_, rfl, HF.out.1, HF.out.2⟩)
end Go.Proofs.YtcafhdemmchcaaaDoor
