/- Contract of field.Bytes. -/
import Derived.Test.YtjhhmghdgcmcoaaBytes
namespace Go.Proofs.Ytjhhmghdgcmcoaa
set_option linter.unusedVariables false
open Go.RowKit
theorem byte_wrap (w k d : Nat) (hd : d = 2 ^ k) : IntKind.u8.wrap ((w : Int) / (d : Int)) = (M.get w k 8 : Nat) := by
  subst hd
  rw [IntKind.wrap_u8]
  unfold M.get
  omega
theorem byte_wrap0 (w : Nat) : IntKind.u8.wrap (w : Int) = (M.get w 0 8 : Nat) := by
  rw [IntKind.wrap_u8]
  simp [M.get]
set_option maxHeartbeats 1000000 in
theorem bytes_any (w : Nat) (hw : w < 18446744073709551616) (W : World) :
    Calls Try.prog 21 #[.int .u64 w] W fun e w' => e = .returned (.agg #[.int .u8 (M.get w 0 8 : Nat), .int .u8 (M.get w 8 8 : Nat), .int .u8 (M.get w 16 8 : Nat), .int .u8 (M.get w 24 8 : Nat), .int .u8 (M.get w 32 8 : Nat), .int .u8 (M.get w 40 8 : Nat), .int .u8 (M.get w 48 8 : Nat), .int .u8 (M.get w 56 8 : Nat)]) ∧ Below W.heap.size W w' := by
  have e0 := byte_wrap0 w
  have e1 : IntKind.u8.wrap ((w : Int) / 256) = (M.get w 8 8 : Nat) := byte_wrap w 8 256 rfl
  have e2 : IntKind.u8.wrap ((w : Int) / 65536) = (M.get w 16 8 : Nat) := byte_wrap w 16 65536 rfl
  have e3 : IntKind.u8.wrap ((w : Int) / 16777216) = (M.get w 24 8 : Nat) := byte_wrap w 24 16777216 rfl
  have e4 : IntKind.u8.wrap ((w : Int) / 4294967296) = (M.get w 32 8 : Nat) := byte_wrap w 32 4294967296 rfl
  have e5 : IntKind.u8.wrap ((w : Int) / 1099511627776) = (M.get w 40 8 : Nat) := byte_wrap w 40 1099511627776 rfl
  have e6 : IntKind.u8.wrap ((w : Int) / 281474976710656) = (M.get w 48 8 : Nat) := byte_wrap w 48 281474976710656 rfl
  have e7 : IntKind.u8.wrap ((w : Int) / 72057594037927936) = (M.get w 56 8 : Nat) := byte_wrap w 56 72057594037927936 rfl
  go_enter Try.func21, Try.ntmps21
  go_wp2
  refine wp_loop_rounds 9 ?_
  rw [rounds_succ]
  go_wp2
  rw [rounds_succ]
  go_wp2
  rw [rounds_succ]
  go_wp2
  rw [rounds_succ]
  go_wp2
  rw [rounds_succ]
  go_wp2
  rw [rounds_succ]
  go_wp2
  rw [rounds_succ]
  go_wp2
  rw [rounds_succ]
  go_wp2
  rw [rounds_succ]
  go_wp2
  exact bodyPost_ret (v := .agg #[.int .u8 (M.get w 0 8 : Nat), .int .u8 (M.get w 8 8 : Nat), .int .u8 (M.get w 16 8 : Nat), .int .u8 (M.get w 24 8 : Nat), .int .u8 (M.get w 32 8 : Nat), .int .u8 (M.get w 40 8 : Nat), .int .u8 (M.get w 48 8 : Nat), .int .u8 (M.get w 56 8 : Nat)]) (by simp [results, Try.results21, go_sem]) rfl ⟨rfl, by repeat (first | exact Below.refl _ _ | assumption | refine Below.alloc ?_ (by first | omega | (simp; done) | (simp; omega)) _ | refine Below.setCell ?_ (by first | omega | (simp; done) | (simp; omega)) _)⟩
theorem word_zero (A : Option Addr) (c : Nat) (W : World) :
    Calls Try.prog 23 #[.slice A 0 c] W fun e w' => e = .returned (.int .u64 0) ∧ W = w' := by
  go_enter Try.func23, Try.ntmps23
  go_wp2
  refine wp_loop_rounds 1 ?_
  rw [rounds_succ]
  go_wp2
  go_ret
  exact ⟨rfl, rfl⟩
theorem own_cells (W : World) (cs : Array Value) (t : TypeId) (i : Nat) : (W.alloc (.cells cs t)).cell? ⟨W.heap.size, i, none⟩ = cs[i]? := cell_of_row _ _ _ _ _ _ (heap_alloc_new W _)
/-- A word's own bytes make it. -/
theorem word_own (w g : Nat) (hw : w < 18446744073709551616) (W : World)
    (h0 : W.cell? ⟨g, 0, none⟩ = some (.int .u8 (M.get w 0 8 : Nat))) (h1 : W.cell? ⟨g, 1, none⟩ = some (.int .u8 (M.get w 8 8 : Nat))) (h2 : W.cell? ⟨g, 2, none⟩ = some (.int .u8 (M.get w 16 8 : Nat))) (h3 : W.cell? ⟨g, 3, none⟩ = some (.int .u8 (M.get w 24 8 : Nat))) (h4 : W.cell? ⟨g, 4, none⟩ = some (.int .u8 (M.get w 32 8 : Nat))) (h5 : W.cell? ⟨g, 5, none⟩ = some (.int .u8 (M.get w 40 8 : Nat))) (h6 : W.cell? ⟨g, 6, none⟩ = some (.int .u8 (M.get w 48 8 : Nat))) (h7 : W.cell? ⟨g, 7, none⟩ = some (.int .u8 (M.get w 56 8 : Nat))) :
    Calls Try.prog 23 #[.slice (some ⟨g, 0, none⟩) 8 8] W fun e w' => e = .returned (.int .u64 w) ∧ W = w' := by
  have h := word_any [((M.get w 0 8 : Nat) : Int), ((M.get w 8 8 : Nat) : Int), ((M.get w 16 8 : Nat) : Int), ((M.get w 24 8 : Nat) : Int), ((M.get w 32 8 : Nat) : Int), ((M.get w 40 8 : Nat) : Int), ((M.get w 48 8 : Nat) : Int), ((M.get w 56 8 : Nat) : Int)] g 0 8 (by simp) (by simp) (by simp [maxLen]) W (fun i hi => by
    have hi : i < 8 := hi
    obtain rfl | rfl | rfl | rfl | rfl | rfl | rfl | rfl : i = 0 ∨ i = 1 ∨ i = 2 ∨ i = 3 ∨ i = 4 ∨ i = 5 ∨ i = 6 ∨ i = 7 := by omega
    all_goals assumption) (fun n hn => by
    have hl : ∀ k, (Lit.int .u8 (M.get w k 8 : Nat)).wf = true := fun k => by
      have := M.get_lt w k 8
      have e : (2 : Nat) ^ 8 = 256 := rfl
      have h1 : IntKind.u8.min = 0 := rfl
      have h2 : IntKind.u8.max = 255 := rfl
      simp only [Lit.wf, Bool.and_eq_true, decide_eq_true_eq]
      omega
    simp only [List.mem_cons, List.not_mem_nil, or_false] at hn
    rcases hn with rfl | rfl | rfl | rfl | rfl | rfl | rfl | rfl <;> exact hl _)
  have e : wN (fun i => (([((M.get w 0 8 : Nat) : Int), ((M.get w 8 8 : Nat) : Int), ((M.get w 16 8 : Nat) : Int), ((M.get w 24 8 : Nat) : Int), ((M.get w 32 8 : Nat) : Int), ((M.get w 40 8 : Nat) : Int), ((M.get w 48 8 : Nat) : Int), ((M.get w 56 8 : Nat) : Int)] : List Int).getD i 0).toNat) (min ([((M.get w 0 8 : Nat) : Int), ((M.get w 8 8 : Nat) : Int), ((M.get w 16 8 : Nat) : Int), ((M.get w 24 8 : Nat) : Int), ((M.get w 32 8 : Nat) : Int), ((M.get w 40 8 : Nat) : Int), ((M.get w 48 8 : Nat) : Int), ((M.get w 56 8 : Nat) : Int)] : List Int).length 8) = w := by
    have a := wN_all w hw
    show wN _ 8 = w
    simp only [wN] at a ⊢
    simpa using a
  rw [e] at h
  exact h
end Go.Proofs.Ytjhhmghdgcmcoaa
