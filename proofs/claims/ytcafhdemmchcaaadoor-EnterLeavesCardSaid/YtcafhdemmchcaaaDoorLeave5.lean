/- A thread that leaves: the program's and the document's are alike; enter.Leaves. -/
import Derived.Test.YtcafhdemmchcaaaDoorLeave3
import Derived.Test.YtcafhdemmchcaaaDoorLeave4
namespace Go.Proofs.YtcafhdemmchcaaaDoor
set_option linter.unusedVariables false
open Go.RowKit Go.Extern.Stop Go.Stop Go.Extern
def lst1 (s t f l p th : Int) : Nat → Lv
  | 0 => ⟨s, t, f, l, p, 4, th, 0, false⟩
  | _ => Lv.zero
def lst3 (s t f l p th : Int) : Nat → Lv
  | 0 => ⟨s, t, f, l, p, 4, th, 0, true⟩
  | 1 => ⟨s, t, f, l, p, 5, th, 0, true⟩
  | 2 => ⟨s, t, f, l, p, 5, th, 1, true⟩
  | _ => Lv.zero
def q3 (t th : Int) : Nat → Int
  | 0 => 3 + th
  | 1 => 3 + t + 2 * th
  | _ => 3 + t + 2 * th + 1
theorem lseq_zero (s t f l p : Int) (sl : Bool) : LSeq 0 (fun _ => ⟨s, t, f, l, p, 0, 0, 0, sl⟩) (fun _ => 0) :=
  ⟨by omega, fun k hk => absurd hk (by omega), fun W => ldone_yes s t f l p sl W, fun k hk => absurd hk (by omega), fun W => lwant_none s t f l p sl W, fun k hk => absurd hk (by omega), fun n W => ltook_done s t f l p sl n W⟩
theorem atL_ann {s t f th : Int} (h0 : 0 ≤ th) (h1 : th < t) : atL s t f 4 th 0 = 3 + th := by unfold atL; rw [if_neg (by omega), if_pos rfl, if_neg (by omega)]
theorem atL_haz {s t f th i : Int} (h0 : 0 ≤ th) (h1 : th < t) (i0 : 0 ≤ i) (i1 : i < 2) : atL s t f 5 th i = 3 + t + 2 * th + i := by
  unfold atL
  rw [if_neg (by omega), if_neg (by omega), if_pos rfl, if_neg (by omega)]
  try omega
theorem lseq_one (s t f l p th : Int) (h : okC s t f l p) (h0 : 0 ≤ th) (h1 : th < t) : LSeq 1 (lst1 s t f l p th) (fun _ => 3 + th) := by
  refine ⟨by omega, fun k hk W => ?_, fun W => ldone_yes 0 0 0 0 0 false W, fun k hk W => ?_, fun W => lwant_none 0 0 0 0 0 false W, fun k hk n W => ?_, fun n W => ltook_done 0 0 0 0 0 false n W⟩
  · obtain rfl : k = 0 := by omega
    exact ldone_no s t f l p 4 th 0 false rfl W
  · obtain rfl : k = 0 := by omega
    have := lwant_yes s t f l p 4 th 0 false rfl (.inl h) W; rw [atL_ann h0 h1] at this; exact this
  · obtain rfl : k = 0 := by omega
    exact ltook_4n s t f l p th n W
theorem lseq_three (s t f l p th : Int) (h : okC s t f l p) (h0 : 0 ≤ th) (h1 : th < t) : LSeq 3 (lst3 s t f l p th) (q3 t th) := by
  refine ⟨by omega, fun k hk W => ?_, fun W => ldone_yes 0 0 0 0 0 false W, fun k hk W => ?_, fun W => lwant_none 0 0 0 0 0 false W, fun k hk n W => ?_, fun n W => ltook_done 0 0 0 0 0 false n W⟩
  · obtain rfl | rfl | rfl : k = 0 ∨ k = 1 ∨ k = 2 := by omega
    · exact ldone_no s t f l p 4 th 0 true rfl W
    · exact ldone_no s t f l p 5 th 0 true rfl W
    · exact ldone_no s t f l p 5 th 1 true rfl W
  · obtain rfl | rfl | rfl : k = 0 ∨ k = 1 ∨ k = 2 := by omega
    · have := lwant_yes s t f l p 4 th 0 true rfl (.inl h) W; rw [atL_ann h0 h1] at this; exact this
    · have := lwant_yes s t f l p 5 th 0 true rfl (.inl h) W; rw [atL_haz h0 h1 (by omega) (by omega), Int.add_zero] at this; exact this
    · have := lwant_yes s t f l p 5 th 1 true rfl (.inl h) W; rw [atL_haz h0 h1 (by omega) (by omega)] at this; exact this
  · obtain rfl | rfl | rfl : k = 0 ∨ k = 1 ∨ k = 2 := by omega
    · exact ltook_4y s t f l p th n W
    · exact ltook_50 s t f l p th n W
    · exact ltook_51 s t f l p th n W
theorem leave_new (s t f l p th : Int) (sl : Bool) : ∃ (s' t' f' l' p' : Int) (N : Nat) (lst : Nat → Lv) (q : Nat → Int), LSeq N lst q ∧
    (∀ W, GL W → Calls Tryd.prog 8 #[cfgV s t f l p] W fun e w' => e = .returned (layV s' t' f' l' p') ∧ Below W.heap.size W w') ∧
    (∀ W : World, Calls Tryd.prog 17 #[layV s' t' f' l' p', .int .i64 th, .bool sl] W fun e w' => e = .returned (lvV (lst 0)) ∧ Below W.heap.size W w') ∧
    (∀ W : World, Calls Tryd.prog 15 #[cfgV s t f l p, .int .i64 th, .bool sl] W fun e w' => ∃ v, e = .returned v ∧ w'.ownsRow W.heap.size 39 4 v N (askL (qs q N)) ∧ Below W.heap.size W w') := by
  by_cases hok : okC s t f l p
  · by_cases ht : 0 ≤ th ∧ th < t
    · have t64 : t ≤ 64 := hok.2.1.2
      cases sl
      · exact ⟨s, t, f, l, p, 1, _, _, lseq_one s t f l p th hok ht.1 ht.2, fun W hG => new_yes s t f l p W hG hok, fun W => lnew_any s t f l p th 4 th 0 false (fun W => ann_ok hok ht.1 ht.2 W) W, fun W => rleaves_1 s t f l p th ht.1 (by omega) (fun W => rhas_yes s t f l p th hok ht.1 ht.2 W) W⟩
      · exact ⟨s, t, f, l, p, 3, _, _, lseq_three s t f l p th hok ht.1 ht.2, fun W hG => new_yes s t f l p W hG hok, fun W => lnew_any s t f l p th 4 th 0 true (fun W => ann_ok hok ht.1 ht.2 W) W, fun W => rleaves_3 s t f l p th ht.1 (by omega) (by omega) t64 (fun W => rhas_yes s t f l p th hok ht.1 ht.2 W) W⟩
    · exact ⟨s, t, f, l, p, 0, _, _, lseq_zero s t f l p sl, fun W hG => new_yes s t f l p W hG hok, fun W => lnew_any s t f l p th 0 0 0 sl (fun W => ann_out hok (by omega) W) W, fun W => rleaves_no s t f l p th sl (fun W => rhas_out s t f l p th hok (by omega) W) W⟩
  · exact ⟨0, 0, 0, 0, 0, 0, _, _, lseq_zero 0 0 0 0 0 sl, fun W hG => new_no s t f l p W hG hok, fun W => lnew_any 0 0 0 0 0 th 0 0 0 sl (fun W => ann_zero th W) W, fun W => rleaves_no s t f l p th sl (fun W => rhas_no s t f l p th hok W) W⟩
/-- The iterator's value. -/
abbrev itL (Bl Bt Bs : Nat) : Value := .func (.func 34) #[] #[.pointer (some ⟨Bl, 0, none⟩), .pointer (some ⟨Bt, 0, none⟩), .pointer (some ⟨Bs, 0, none⟩)]
theorem leaves_any (s t f l p th : Int) (sl : Bool) (W : World) :
    Calls Tryd.prog 16 #[layV s t f l p, .int .i64 th, .bool sl] W fun e w' => ∃ Bl Bt Bs, e = .returned (itL Bl Bt Bs) ∧ w'.heap[Bl]? = some (.cells #[.int .i64 s, .int .i64 t, .int .i64 f, .int .i64 l, .int .i64 p] 27) ∧ w'.cell? ⟨Bt, 0, none⟩ = some (.int .i64 th) ∧ w'.cell? ⟨Bs, 0, none⟩ = some (.bool sl) ∧ Below W.heap.size W w' := by
  have HB := Lib.hid (below3 W)
  go_enter Tryd.func16, Tryd.ntmps16
  go_wp2
  go_ret
  refine ⟨W.heap.size, W.heap.size + 1, W.heap.size + 2, rfl, ?_, ?_, ?_, HB.out _ _ _⟩
  · exact (Below.heap_alloc _ _ _ (by first | (simp; done) | (simp; omega))).trans ((Below.heap_alloc _ _ _ (by first | (simp; done) | (simp; omega))).trans (World.alloc_heap_new W _))
  · have h := World.alloc_heap_new (W.alloc (.cells #[.int .i64 s, .int .i64 t, .int .i64 f, .int .i64 l, .int .i64 p] 27)) (.cells #[.int .i64 th] 3)
    rw [World.size_alloc] at h
    exact (Go.Joins.cell_of_block ((Below.heap_alloc _ _ _ (by first | (simp; done) | (simp; omega))).trans h) 0).trans rfl
  · have h := World.alloc_heap_new ((W.alloc (.cells #[.int .i64 s, .int .i64 t, .int .i64 f, .int .i64 l, .int .i64 p] 27)).alloc (.cells #[.int .i64 th] 3)) (.cells #[.bool sl] 4)
    rw [World.size_alloc, World.size_alloc] at h
    exact (Go.Joins.cell_of_block h 0).trans rfl
theorem leaves_stops (n : Nat) (hn : 1 ≤ n) (Bl Bt Bs : Nat) (s t f l p th : Int) (sl : Bool) (N : Nat) (lst : Nat → Lv) (q : Nat → Int) (hS : LSeq N lst q)
    (hNew : ∀ W : World, Calls Tryd.prog 17 #[layV s t f l p, .int .i64 th, .bool sl] W fun e w' => e = .returned (lvV (lst 0)) ∧ Below W.heap.size W w') (W0 : World)
    (hL : W0.heap[Bl]? = some (.cells #[.int .i64 s, .int .i64 t, .int .i64 f, .int .i64 l, .int .i64 p] 27)) (hBt : W0.cell? ⟨Bt, 0, none⟩ = some (.int .i64 th)) (hBs : W0.cell? ⟨Bs, 0, none⟩ = some (.bool sl)) :
    SeqStopsK Fence.wide n Tryd.prog 34 #[.pointer (some ⟨Bl, 0, none⟩), .pointer (some ⟨Bt, 0, none⟩), .pointer (some ⟨Bs, 0, none⟩)] (fun x : Int => #[askV 2 x 0 0]) KpL (fun ys => ys = qs q N) (fun pre => ∃ k, k ≤ N ∧ pre = qs q k) N W0 := fun yl J Jx W hW hJ _ hY h0 =>
  itL_in n hn yl Bl Bt Bs s t f l p th sl N lst q hS hNew J Jx W.heap.size hJ hY W ((hW.block Bl (Array.getElem?_eq_some_iff.1 hL).1).trans hL)
    ((hW.cell (p := ⟨Bt, 0, none⟩) (World.block_lt_of_cell? W0 _ hBt)).trans hBt) ((hW.cell (p := ⟨Bs, 0, none⟩) (World.block_lt_of_cell? W0 _ hBs)).trans hBs) h0
theorem itL_nil (Bl Bt Bs : Nat) (w : World) : (binOp .eql 48 (itL Bl Bt Bs) Value.nilFunc).run Tryd.prog w = .ok (.bool false) w := by
  first | kernel_rfl | rfl | (simp [binOp, go_sem]; done)
end Go.Proofs.YtcafhdemmchcaaaDoor
