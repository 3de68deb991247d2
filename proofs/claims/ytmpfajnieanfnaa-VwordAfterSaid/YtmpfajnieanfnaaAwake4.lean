/- Contract of handle.Make; chapter 4's example holds. -/
import Derived.Test.YtmpfajnieanfnaaVmake
namespace Go.Proofs.Ytmpfajnieanfnaa
set_option linter.unusedVariables false
open Go.RowKit
theorem hdmake_in (g s : Nat) (hg : g < 18446744073709551616) (h1 : 1 ≤ s) (h2 : s ≤ 65535) (W : World) :
    Calls Try.prog 67 #[.int .u64 g, .int .i64 s] W fun e w' => e = .returned (.int .u64 (g % 16777216 * 65536 + s : Nat)) ∧ W = w' := by
  have C : ∀ W : World, Calls Try.prog 64 #[.int .u64 s, .int .i64 16, .int .i64 24, .int .u64 g] W fun e w' => e = .returned (.int .u64 (g % 16777216 * 65536 + s : Nat)) ∧ W = w' := fun W => by
    have h := put_any s g (by omega) hg 16 24 W
    have e : M.fput s 16 24 g = 1099511627776 * (s / 1099511627776) + (65536 * (g % 16777216) + s % 65536) := M.fput_eq s 16 24 g (by omega) (by omega) (by omega)
    rw [show M.fput s 16 24 g = g % 16777216 * 65536 + s by rw [e]; omega] at h
    exact h
  have C := Lib.hid C
  go_enter Try.func67, Try.ntmps67
  go_wp2_with (go_at_call 64; refine (C.out _).mono ?_; rintro e w' ⟨rfl, rfl⟩)
  go_ret
  exact ⟨rfl, rfl⟩
theorem awake4_any (w : World) :
    Calls Try.prog 19 #[] w fun e w' => e = .returned (.bool true) ∧ Below w.heap.size w w' := by
  have C1 := Lib.hid (show ∀ W : World, Calls Try.prog 12 #[.int .u64 1, .int .u64 2, .bool false, .bool true] W fun e w' => e = .returned (.int .u64 1099511627785) ∧ Below W.heap.size W w' from fun W => vmake_any 1 2 false true (by omega) (by omega) W)
  have C2 := Lib.hid (show ∀ W : World, Calls Try.prog 24 #[.int .u64 1099511627785] W fun e w' => e = .returned (.int .u64 1099511627788) ∧ Below W.heap.size W w' from fun W => bump_any 1099511627785 (by omega) W)
  have C3 := Lib.hid (show ∀ W : World, Calls Try.prog 26 #[.int .u64 1099511627785] W fun e w' => e = .returned (.int .u64 1099511627790) ∧ Below W.heap.size W w' from fun W => kill_any 1099511627785 (by omega) W)
  have C4 := Lib.hid (show ∀ W : World, Calls Try.prog 67 #[.int .u64 1, .int .i64 7] W fun e w' => e = .returned (.int .u64 65543) ∧ W = w' from fun W => hdmake_in 1 7 (by omega) (by omega) (by omega) W)
  have C5 := Lib.hid (show ∀ W : World, Calls Try.prog 30 #[.int .u64 65543, .int .u64 1099511627790] W fun e w' => e = .returned (.int .i64 1) ∧ ∃ n, w' = W.drewN n from fun W => begin_any 65543 1099511627790 (by omega) (by omega) W)
  have hb : Below w.heap.size w w := Below.refl _ _
  go_enter Try.func19, Try.ntmps19
  go_wp2_with (first | (go_at_call 12; refine (C1.out _).mono ?_; rintro e w1 ⟨rfl, hn⟩; replace hb : Below w.heap.size w w1 := (by first | exact hb.trans (hn.mono hb.size) | exact (below_drewN hb _).trans (hn.mono hb.size)); clear hn) | (go_at_call 24; refine (C2.out _).mono ?_; rintro e w1 ⟨rfl, hn⟩; replace hb : Below w.heap.size w w1 := (by first | exact hb.trans (hn.mono hb.size) | exact (below_drewN hb _).trans (hn.mono hb.size)); clear hn) | (go_at_call 26; refine (C3.out _).mono ?_; rintro e w1 ⟨rfl, hn⟩; replace hb : Below w.heap.size w w1 := (by first | exact hb.trans (hn.mono hb.size) | exact (below_drewN hb _).trans (hn.mono hb.size)); clear hn) | (go_at_call 67; refine (C4.out _).mono ?_; rintro e w' ⟨rfl, rfl⟩) | (go_at_call 30; refine (C5.out _).mono ?_; rintro e w' ⟨rfl, n, rfl⟩))
  go_ret
  exact ⟨rfl, below_drewN hb _⟩
end Go.Proofs.Ytmpfajnieanfnaa
