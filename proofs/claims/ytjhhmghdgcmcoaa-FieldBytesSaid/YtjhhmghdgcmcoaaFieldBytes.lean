/- gleaninglaw01.FieldBytes: for every input the law returns true, and leaves its arguments as they were. No condition. -/
import Derived.Test.YtjhhmghdgcmcoaaRows
import Derived.WalkKit
import Derived.Deep.LoopGhost
import Derived.Test.YtjhhmghdgcmcoaaAwake1
import Derived.Test.YtjhhmghdgcmcoaaBytes2
import Derived.Test.YtjhhmghdgcmcoaaFrame
import Derived.ProofKit
import Derived.OpenShut
namespace Go.Proofs.Ytjhhmghdgcmcoaa.fieldBytes
open Go.ChangeShapes Go.WideShapes Go.ChangeAt Go.RowKit
set_option linter.unusedVariables false

theorem own : ownKnob Try.prog.godebug = none := by kernel_rfl
theorem laidOut : laidOutB Try.prog = true := by kernel_rfl
theorem cells5 : Try.prog.cellsOf 5 = 1 := by kernel_rfl
theorem byte_cell (w : Nat) (g : Nat) (W : World) (h : W.cell? ⟨g, 0, none⟩ = some (.int .u8 (M.get w 0 8 : Nat)) ∧ W.cell? ⟨g, 1, none⟩ = some (.int .u8 (M.get w 8 8 : Nat)) ∧ W.cell? ⟨g, 2, none⟩ = some (.int .u8 (M.get w 16 8 : Nat)) ∧ W.cell? ⟨g, 3, none⟩ = some (.int .u8 (M.get w 24 8 : Nat)) ∧ W.cell? ⟨g, 4, none⟩ = some (.int .u8 (M.get w 32 8 : Nat)) ∧ W.cell? ⟨g, 5, none⟩ = some (.int .u8 (M.get w 40 8 : Nat)) ∧ W.cell? ⟨g, 6, none⟩ = some (.int .u8 (M.get w 48 8 : Nat)) ∧ W.cell? ⟨g, 7, none⟩ = some (.int .u8 (M.get w 56 8 : Nat))) : ∀ k, k < 8 → W.cell? ⟨g, k, none⟩ = some (.int .u8 (M.get w (8 * k) 8 : Nat)) := by
  intro k hk
  obtain rfl | rfl | rfl | rfl | rfl | rfl | rfl | rfl : k = 0 ∨ k = 1 ∨ k = 2 ∨ k = 3 ∨ k = 4 ∨ k = 5 ∨ k = 6 ∨ k = 7 := by omega
  all_goals first | exact h.1 | exact h.2.1 | exact h.2.2.1 | exact h.2.2.2.1 | exact h.2.2.2.2.1 | exact h.2.2.2.2.2.1 | exact h.2.2.2.2.2.2.1 | exact h.2.2.2.2.2.2.2
theorem below_dn {B : Nat} {a w : World} (h : Below B a w) (n : Nat) : Below B a (w.drewN n) := ⟨h.os, h.tape, h.output, h.size, h.block⟩

set_option maxHeartbeats 4000000 in
theorem walk (w : World) (a0 : Int) (w0 : (Lit.int .u64 a0).wf = true) (A1 : Option Addr) (len1 cap1 b1 off1 : Nat) (zs1 : List Int) (hl1 : zs1.length = len1) (hm1 : len1 ≤ cap1 ∧ len1 ≤ maxLen) (hA1 : 0 < len1 → A1 = some ⟨b1, off1, none⟩ ∧ b1 < w.heap.size) (hc1 : ∀ i, i < len1 → w.cell? ⟨b1, off1 + i, none⟩ = some (.int .u8 (zs1.getD i 0))) (hw1 : ∀ n ∈ zs1, (Lit.int .u8 n).wf = true) :
    Calls Try.prog 7 #[.int .u64 a0, .slice A1 len1 cap1] w fun e w' => e = .returned (.bool true) ∧ Below w.heap.size w w' := by
  obtain ⟨x0, rfl⟩ : ∃ x : Nat, a0 = x := ⟨a0.toNat, by have := u64_lo w0; omega⟩
  have hx0 := u64_hi w0
  subst hl1
  have AW := Lib.hid (fun W => awake1_any W)
  have BY := Lib.hid (fun W => bytes_any x0 (by omega) W)
  by_cases hlen : (zs1.length : Int) ≤ 20
  · by_cases hz : 0 < zs1.length
    · obtain ⟨rfl, hbl⟩ := hA1 hz
      have HC := Lib.hid hc1
      have HB : Hid (∀ i, 0 ≤ zs1.getD i 0 ∧ zs1.getD i 0 ≤ 255) := by
        intro i
        by_cases h : i < zs1.length
        · have := hw1 (zs1.getD i 0) (by rw [List.getD_eq_getElem?_getD, List.getElem?_eq_getElem h]; exact List.getElem_mem h)
          simp only [Lit.wf, Bool.and_eq_true, decide_eq_true_eq] at this
          exact this
        · rw [List.getD_eq_getElem?_getD, List.getElem?_eq_none (by omega)]; decide
      obtain ⟨N, hN⟩ : ∃ N : Nat, N = min zs1.length 8 := ⟨_, rfl⟩
      have hN1 : N ≤ zs1.length := by omega
      have hN2 : N ≤ 8 := by omega
      have hN3 : zs1.length ≤ N ∨ 8 ≤ N := by omega
      clear hA1 hc1
      go_enter Try.func7, Try.ntmps7
      go_wp2_with (go_at_call 21; refine (BY.out _).mono ?_; rintro e wn ⟨rfl, hn⟩; have HN := Lib.hid hn; clear hn)
      obtain ⟨wq, hwq⟩ : ∃ wq : World, wq = wn.alloc (Obj.cells #[Value.int IntKind.u8 ↑(M.get x0 0 8), Value.int IntKind.u8 ↑(M.get x0 8 8), Value.int IntKind.u8 ↑(M.get x0 16 8), Value.int IntKind.u8 ↑(M.get x0 24 8), Value.int IntKind.u8 ↑(M.get x0 32 8), Value.int IntKind.u8 ↑(M.get x0 40 8), Value.int IntKind.u8 ↑(M.get x0 48 8), Value.int IntKind.u8 ↑(M.get x0 56 8)] 35) := ⟨_, rfl⟩
      have HQ : Hid (∀ k, k < 8 → wq.cell? ⟨wn.heap.size, k, none⟩ = some (.int .u8 (M.get x0 (8 * k) 8 : Nat))) := by
        rw [hwq]
        refine byte_cell x0 _ _ ⟨?_, ?_, ?_, ?_, ?_, ?_, ?_, ?_⟩ <;> go_simp
      have HXQ0 : Below w.heap.size w wq → ∀ i, i < zs1.length → wq.cell? ⟨b1, off1 + i, none⟩ = some (.int .u8 (zs1.getD i 0)) := fun h i hi => ((bcell h).1 _ _ hbl).trans (HC.out i hi)
      have HBQ : Hid (Below w.heap.size w wq) := by rw [hwq]; exact HN.out.alloc HN.out.size _
      have HXQ := Lib.hid (HXQ0 HBQ.out)
      have CB : Hid (∀ n, Calls Try.prog 23 #[.slice (some ⟨b1, off1, none⟩) zs1.length cap1] (wq.drewN n) fun e w' => e = .returned (.int .u64 (wN (fun i => (zs1.getD i 0).toNat) N : Nat)) ∧ wq.drewN n = w') := fun n => by
        rw [hN]; exact word_any zs1 b1 off1 cap1 hz hm1.1 hm1.2 (wq.drewN n) HXQ.out hw1
      rw [← hwq]
      clear hwq hN HXQ0
      generalize wn.heap.size = g at HQ ⊢
      go_loopg [6] 8 (fun g i wr => ∃ k : Nat, k ≤ 8 ∧ g = 8 - k ∧ i = .int .i64 k ∧ ∃ n, wr = wq.drewN n)
      case atStart => exact ⟨0, by omega, by omega, rfl, 0, rfl⟩
      case round =>
        obtain ⟨k, hk, hg, rfl, n, rfl⟩ := hrel
        by_cases hlt : k < 8
        · have hx := HQ.out k hlt
          have hy := M.get_lt x0 (8 * k) 8
          have e256 : (2 : Nat) ^ 8 = 256 := rfl
          rw [e256] at hy
          have hr : ∀ W : World, Calls Try.prog 10 #[.int .u64 x0, .int .i64 (8 * (k : Int)), .int .i64 8] W fun e w' => e = .returned (.int .u64 (M.get x0 (8 * k) 8 : Nat)) ∧ W = w' := fun W => by
            have h := rget_any x0 (by omega) (8 * (k : Int)) 8 W
            rw [show M.fget x0 (8 * (k : Int)) 8 = M.get x0 (8 * k) 8 by unfold M.fget; rw [if_pos (by omega)]; congr 1] at h
            exact h
          generalize M.get x0 (8 * k) 8 = y at hx hy hr
          have HR := Lib.hid hr
          have c1 : IntKind.i64.wrap (8 * (k : Int)) = 8 * (k : Int) := IntWalk.i64_in _ (by omega)
          have c2 : IntKind.u64.wrap (y : Int) = (y : Int) := IntWalk.u64_in _ (by omega)
          clear hr e256
          go_wp2
          go_quiet ((go_at_call 10; first | exact quiet_left (HR.out _) | exact quiet_add_left (HR.out _)))
          go_wp2
          go_roundg (8 - (k + 1))
          case rel => exact ⟨k + 1, by omega, rfl, by go_num, _, rfl⟩
          case measure => omega
        · obtain rfl : k = 8 := by omega
          go_wp2
          go_loopg [7, 8] N (fun g t7 t8 wr => ∃ k : Nat, k ≤ N ∧ g = N - k ∧ t8 = .int .i64 k ∧ t7 = .int .u64 (wN (fun i => (zs1.getD i 0).toNat) k : Nat) ∧ ∃ n, wr = wq.drewN n)
          case atStart => exact ⟨0, by omega, by omega, rfl, rfl, n, rfl⟩
          case round =>
            obtain ⟨k, hk, hg, rfl, rfl, n2, rfl⟩ := hrel
            by_cases hlt : k < N
            · have hx := HXQ.out k (by omega)
              have hb := HB.out k
              obtain ⟨y, hy⟩ : ∃ y : Nat, zs1.getD k 0 = (y : Int) := ⟨(zs1.getD k 0).toNat, by omega⟩
              rw [hy] at hx hb
              have hf : (zs1.getD k 0).toNat = y := by omega
              have hstep : wN (fun i => (zs1.getD i 0).toNat) (k + 1) = 2 ^ (8 * k) * y + wN (fun i => (zs1.getD i 0).toNat) k := by
                show 2 ^ (8 * k) * (zs1.getD k 0).toNat + _ = _
                rw [hf]
              have hl := wN_lt (fun i => (zs1.getD i 0).toNat) (fun i => by have := HB.out i; omega) (k + 1)
              have hl2 : 2 ^ (8 * (k + 1)) ≤ 2 ^ 64 := M.pow_le (by omega)
              have e64 : (2 : Nat) ^ 64 = 18446744073709551616 := rfl
              rw [e64] at hl2
              have hl3 : wN (fun i => (zs1.getD i 0).toNat) (k + 1) < 18446744073709551616 := by omega
              have hp : ∀ W : World, Calls Try.prog 22 #[.int .i64 (8 * (k : Int))] W fun e w' => e = .returned (.int .u64 (M.pw (8 * k) : Nat)) ∧ W = w' := fun W => by
                have h := power_any (8 * k) (by omega) W
                rw [show ((8 * k : Nat) : Int) = 8 * (k : Int) by omega] at h
                exact h
              have hpw : 2 ^ (8 * k) = M.pw (8 * k) := rfl
              rw [hpw] at hstep
              clear hf hy hl hl2 e64 hpw
              generalize M.pw (8 * k) = p at hp hstep
              obtain ⟨q, hq⟩ : ∃ q : Nat, q = p * y := ⟨_, rfl⟩
              rw [← hq] at hstep
              have c1 : IntKind.i64.wrap (8 * (k : Int)) = 8 * (k : Int) := IntWalk.i64_in _ (by omega)
              have c2 : IntKind.u64.wrap (y : Int) = (y : Int) := IntWalk.u64_in _ (by omega)
              have c3 : IntKind.u64.wrap ((y : Int) * (p : Int)) = (q : Int) := by
                have e : (y : Int) * (p : Int) = (q : Int) := by rw [hq, Nat.mul_comm]; norm_cast
                rw [e]; exact IntWalk.u64_in _ (by omega)
              have HSTEP := Lib.hid hstep
              generalize hU : wN (fun i => (zs1.getD i 0).toNat) (k + 1) = U at hstep hl3 HSTEP
              generalize wN (fun i => (zs1.getD i 0).toNat) k = u at hstep HSTEP ⊢
              have c4 : IntKind.u64.wrap ((u : Int) + (q : Int)) = (U : Int) := by
                rw [IntWalk.u64_in _ (by omega)]; omega
              have HU := Lib.hid hU
              have HP := Lib.hid hp
              clear hp hstep hq hU
              go_wp2
              go_quiet ((go_at_call 22; first | exact quiet_left (HP.out _) | exact quiet_add_left (HP.out _)))
              go_wp2
              go_roundg (N - (k + 1))
              case rel => exact ⟨k + 1, by omega, rfl, by go_num, int_v (by rw [HU.out]), _, rfl⟩
              case measure => omega
            · have hkN : k = N := by omega
              subst hkN
              have tq : True := trivial
              have q0 : wq.cell? ⟨g, 0, none⟩ = some (.int .u8 (M.get x0 0 8 : Nat)) := HQ.out 0 (by omega)
              have q1 : wq.cell? ⟨g, 1, none⟩ = some (.int .u8 (M.get x0 8 8 : Nat)) := HQ.out 1 (by omega)
              have q2 : wq.cell? ⟨g, 2, none⟩ = some (.int .u8 (M.get x0 16 8 : Nat)) := HQ.out 2 (by omega)
              have q3 : wq.cell? ⟨g, 3, none⟩ = some (.int .u8 (M.get x0 24 8 : Nat)) := HQ.out 3 (by omega)
              have q4 : wq.cell? ⟨g, 4, none⟩ = some (.int .u8 (M.get x0 32 8 : Nat)) := HQ.out 4 (by omega)
              have q5 : wq.cell? ⟨g, 5, none⟩ = some (.int .u8 (M.get x0 40 8 : Nat)) := HQ.out 5 (by omega)
              have q6 : wq.cell? ⟨g, 6, none⟩ = some (.int .u8 (M.get x0 48 8 : Nat)) := HQ.out 6 (by omega)
              have q7 : wq.cell? ⟨g, 7, none⟩ = some (.int .u8 (M.get x0 56 8 : Nat)) := HQ.out 7 (by omega)
              go_wp2_with (first | (go_at_call 23; have _t := tq; refine (CB.out _).mono ?_; rintro e w' ⟨rfl, rfl⟩; clear tq _t) | (go_at_call 23; refine (word_own x0 _ (by omega) _ (own_cells _ _ _ 0) (own_cells _ _ _ 1) (own_cells _ _ _ 2) (own_cells _ _ _ 3) (own_cells _ _ _ 4) (own_cells _ _ _ 5) (own_cells _ _ _ 6) (own_cells _ _ _ 7)).mono ?_; rintro e w' ⟨rfl, rfl⟩) | (go_at_call 15; refine (AW.out _).mono ?_; rintro e w' ⟨rfl, nn, rfl⟩))
              all_goals
                go_ret
                refine ⟨rfl, ?_⟩
                repeat (first | exact HBQ.out | refine below_dn ?_ _ | refine Below.alloc ?_ (by have := HBQ.out.size; first | omega | (simp; done) | (simp; omega)) _)
    · have hz0 : zs1.length = 0 := by omega
      rw [hz0]
      clear hA1 hc1 hz hlen
      have CB := Lib.hid (fun W => word_zero A1 cap1 W)
      go_enter Try.func7, Try.ntmps7
      go_wp2_with (go_at_call 21; refine (BY.out _).mono ?_; rintro e wn ⟨rfl, hn⟩; have HN := Lib.hid hn; clear hn)
      obtain ⟨wq, hwq⟩ : ∃ wq : World, wq = wn.alloc (Obj.cells #[Value.int IntKind.u8 ↑(M.get x0 0 8), Value.int IntKind.u8 ↑(M.get x0 8 8), Value.int IntKind.u8 ↑(M.get x0 16 8), Value.int IntKind.u8 ↑(M.get x0 24 8), Value.int IntKind.u8 ↑(M.get x0 32 8), Value.int IntKind.u8 ↑(M.get x0 40 8), Value.int IntKind.u8 ↑(M.get x0 48 8), Value.int IntKind.u8 ↑(M.get x0 56 8)] 35) := ⟨_, rfl⟩
      have HQ : Hid (∀ k, k < 8 → wq.cell? ⟨wn.heap.size, k, none⟩ = some (.int .u8 (M.get x0 (8 * k) 8 : Nat))) := by
        rw [hwq]
        refine byte_cell x0 _ _ ⟨?_, ?_, ?_, ?_, ?_, ?_, ?_, ?_⟩ <;> go_simp
      have HBQ : Hid (Below w.heap.size w wq) := by rw [hwq]; exact HN.out.alloc HN.out.size _
      rw [← hwq]
      clear hwq
      generalize wn.heap.size = g at HQ ⊢
      go_loopg [6] 8 (fun g i wr => ∃ k : Nat, k ≤ 8 ∧ g = 8 - k ∧ i = .int .i64 k ∧ ∃ n, wr = wq.drewN n)
      case atStart => exact ⟨0, by omega, by omega, rfl, 0, rfl⟩
      case round =>
        obtain ⟨k, hk, hg, rfl, n, rfl⟩ := hrel
        by_cases hlt : k < 8
        · have hx := HQ.out k hlt
          have hy := M.get_lt x0 (8 * k) 8
          have e256 : (2 : Nat) ^ 8 = 256 := rfl
          rw [e256] at hy
          have hr : ∀ W : World, Calls Try.prog 10 #[.int .u64 x0, .int .i64 (8 * (k : Int)), .int .i64 8] W fun e w' => e = .returned (.int .u64 (M.get x0 (8 * k) 8 : Nat)) ∧ W = w' := fun W => by
            have h := rget_any x0 (by omega) (8 * (k : Int)) 8 W
            rw [show M.fget x0 (8 * (k : Int)) 8 = M.get x0 (8 * k) 8 by unfold M.fget; rw [if_pos (by omega)]; congr 1] at h
            exact h
          generalize M.get x0 (8 * k) 8 = y at hx hy hr
          have HR := Lib.hid hr
          have c1 : IntKind.i64.wrap (8 * (k : Int)) = 8 * (k : Int) := IntWalk.i64_in _ (by omega)
          have c2 : IntKind.u64.wrap (y : Int) = (y : Int) := IntWalk.u64_in _ (by omega)
          clear hr e256
          go_wp2
          go_quiet ((go_at_call 10; first | exact quiet_left (HR.out _) | exact quiet_add_left (HR.out _)))
          go_wp2
          go_roundg (8 - (k + 1))
          case rel => exact ⟨k + 1, by omega, rfl, by go_num, _, rfl⟩
          case measure => omega
        · obtain rfl : k = 8 := by omega
          go_wp2
          refine wp_loop_rounds 1 ?_
          rw [rounds_succ]
          have tq : True := trivial
          have q0 : wq.cell? ⟨g, 0, none⟩ = some (.int .u8 (M.get x0 0 8 : Nat)) := HQ.out 0 (by omega)
          have q1 : wq.cell? ⟨g, 1, none⟩ = some (.int .u8 (M.get x0 8 8 : Nat)) := HQ.out 1 (by omega)
          have q2 : wq.cell? ⟨g, 2, none⟩ = some (.int .u8 (M.get x0 16 8 : Nat)) := HQ.out 2 (by omega)
          have q3 : wq.cell? ⟨g, 3, none⟩ = some (.int .u8 (M.get x0 24 8 : Nat)) := HQ.out 3 (by omega)
          have q4 : wq.cell? ⟨g, 4, none⟩ = some (.int .u8 (M.get x0 32 8 : Nat)) := HQ.out 4 (by omega)
          have q5 : wq.cell? ⟨g, 5, none⟩ = some (.int .u8 (M.get x0 40 8 : Nat)) := HQ.out 5 (by omega)
          have q6 : wq.cell? ⟨g, 6, none⟩ = some (.int .u8 (M.get x0 48 8 : Nat)) := HQ.out 6 (by omega)
          have q7 : wq.cell? ⟨g, 7, none⟩ = some (.int .u8 (M.get x0 56 8 : Nat)) := HQ.out 7 (by omega)
          go_wp2_with (first | (go_at_call 23; have _t := tq; refine (CB.out _).mono ?_; rintro e w' ⟨rfl, rfl⟩; clear tq _t) | (go_at_call 23; refine (word_own x0 _ (by omega) _ (own_cells _ _ _ 0) (own_cells _ _ _ 1) (own_cells _ _ _ 2) (own_cells _ _ _ 3) (own_cells _ _ _ 4) (own_cells _ _ _ 5) (own_cells _ _ _ 6) (own_cells _ _ _ 7)).mono ?_; rintro e w' ⟨rfl, rfl⟩) | (go_at_call 15; refine (AW.out _).mono ?_; rintro e w' ⟨rfl, nn, rfl⟩))
          go_ret
          refine ⟨rfl, ?_⟩
          repeat (first | exact HBQ.out | refine below_dn ?_ _ | refine Below.alloc ?_ (by have := HBQ.out.size; first | omega | (simp; done) | (simp; omega)) _)
  · have h20 : 20 < (zs1.length : Int) := by omega
    clear hlen hc1 hA1
    go_enter Try.func7, Try.ntmps7
    go_wp2_with (go_at_call 15; refine (AW.out _).mono ?_; rintro e un ⟨rfl, n, rfl⟩)
    go_ret
    exact ⟨rfl, ⟨rfl, rfl, rfl, Nat.le_refl _, fun _ _ => rfl⟩⟩

set_option maxRecDepth 100000 in
theorem lifted (os : Os) (started : os.Started) (H : Type) (enc : TypeId × Value → H) :
    ReturnsInHanded {} Try.checked os 7 .any (Rows.fieldBytesSpec.pre6 enc Try.prog Try.f7 Rows.fieldBytesRow.domain false) (Rows.fieldBytesSpec.post enc Try.prog Try.f7 false true false false) := by
  refine returnsInHanded_of_change (C := Try.checked) own started (by kernel_rfl) Try.func7
    (ChangeSpec.witness6 (enc := enc) (C := Try.checked) false ⟨#[], #[.int .u64 0, .slice none 0 0], []⟩ 8 (by kernel_rfl) (by kernel_rfl) (by kernel_rfl) (by kernel_rfl)) ?_
  intro W base args ds gs before hval0 hW hcnd _
  have hval : ∀ (j : Nat) t v, Try.f7.params[j]? = some t → args[j]? = some v → Value.okWide Try.prog W .any base t v := hval0
  have hW' := hW
  obtain ⟨p, q, hA0, hV, rfl, hfz, hnd⟩ := hW
  have hA : DataW.TrodAll enc Try.prog W 0 (fun _ => true) true Try.f7.params.toList args.toList ds p := hA0
  rw [Try.params7] at hA hval
  obtain ⟨v0, vs0, d0, ds0, p0, q0, hargs, rfl, rfl, h0, r0⟩ := trodAll_cons hA
  obtain ⟨v1, vs1, d1, ds1, p1, q1, rfl, rfl, rfl, h1, r1⟩ := trodAll_cons r0
  obtain ⟨rfl, rfl, rfl⟩ := trodAll_nil r1
  obtain rfl : args = #[v0, v1] := by cases args; simp_all
  obtain ⟨rfl, rfl⟩ := trodVars_none hV
  obtain ⟨a0, rfl, rfl, rfl, w0⟩ := open_int Try.underlying22 (hval 0 22 v0 rfl rfl) h0
  obtain ⟨A1, len1, cap1, rfl⟩ := okWide_slice Try.underlying34 (hval 1 34 v1 rfl rfl)
  have k1 := h1
  obtain ⟨b1, off1, zs1, hl1, hm1, hA1, hc1, hw1⟩ := open_slice Try.underlying34 Try.underlying5 cells5 h1
  clear hA0 hval0
  simp only [List.append_nil, List.nil_append] at hW'
  have hlt1 : ∀ x ∈ p1, x.block < W.heap.size := fun x hx => by simpa using hW'.lt x (by simp [hx])
  refine (walk W a0 w0 A1 len1 cap1 b1 off1 zs1 hl1 hm1 hA1 hc1 hw1).mono fun e W' ⟨he, hg⟩ => ?_
  subst he
  exact ⟨_, rfl, post_of_below2 (pv := []) hW' (fun _ _ _ => (trodAll_cons_mk (shut_bool Try.underlying4 _) trodAll_mk0)) (trodAll_cons_mk (shut_int Try.underlying22 w0) (trodAll_cons_mk (Below.trod laidOut (by kernel_rfl) (of_decide_eq_true (by kernel_rfl)) k1 hg hlt1) trodAll_mk0)) rfl (by simp) (hg.frame _)⟩

theorem over : Rows.fieldBytesRow.holds Try.pinned (OpenSpec.ofChange Rows.fieldBytesSpec) :=
  OpenClaim.holds_of_wide 7 Try.f7 rfl rfl rfl rfl rfl rfl rfl ⟨rfl, rfl, rfl, rfl, rfl⟩ rfl rfl rfl rfl rfl (by kernel_rfl) Try.func7 (by kernel_rfl)
    (of_decide_eq_true (by kernel_rfl)) (by unfold Func.isWrapper; first | (rw [if_pos (by decide +kernel)]; kernel_rfl) | (rw [if_neg (by decide +kernel)]; exact ⟨rfl, rfl⟩))
    (fun os started H enc _ => lifted os started H enc)

theorem proved : Rows.FieldBytesSaid :=
  over
#print axioms proved
end Go.Proofs.Ytjhhmghdgcmcoaa.fieldBytes
