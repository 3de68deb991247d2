/- limbo.Ripe, limbo.Room, gleaningref16.Ripe, gleaningref16.Same. -/
import Derived.Test.YtdljnfioponegaaRec
namespace Go.Proofs.Ytdljnfioponegaa
set_option linter.unusedVariables false
open Go.RowKit
def ripeB (e ep : Nat) : Bool := decide (e ≤ ep ∧ 2 ≤ ep - e)
theorem ripe_any (h e ep : Nat) (he : e < 18446744073709551616) (hp : ep < 18446744073709551616) (W : World) :
    Calls Try.prog 10 #[.agg #[.int .u64 (h : Nat), .int .u64 (e : Nat)], .int .u64 (ep : Nat)] W fun x w' => x = .returned (.bool (ripeB e ep)) ∧ Below W.heap.size W w' := by
  have hB := Lib.hid (bel1 W)
  by_cases h1 : e ≤ ep
  · by_cases h2 : 2 ≤ ep - e
    · have hr : ripeB e ep = true := by unfold ripeB; simp; omega
      rw [hr]; clear hr
      have g1 : (e : Int) ≤ ep := by omega
      have g2 : (2 : Int) ≤ (ep : Int) - e := by omega
      clear h1 h2
      go_enter Try.func10, Try.ntmps10
      go_wp2
      go_ret
      exact ⟨rfl, hB.out _⟩
    · have hr : ripeB e ep = false := by unfold ripeB; simp; omega
      rw [hr]; clear hr
      have g1 : (e : Int) ≤ ep := by omega
      have g2 : (ep : Int) - e < 2 := by omega
      have g3 : (0 : Int) ≤ (ep : Int) - e := by omega
      clear h1 h2
      go_enter Try.func10, Try.ntmps10
      go_wp2
      go_ret
      exact ⟨by show Ending.returned (.bool (decide ((2 : Int) ≤ (ep : Int) - e))) = _; rw [decide_eq_false (by omega)], hB.out _⟩
  · have hr : ripeB e ep = false := by unfold ripeB; simp; omega
    rw [hr]; clear hr
    have g1 : (ep : Int) < e := by omega
    clear h1
    go_enter Try.func10, Try.ntmps10
    go_wp2
    go_ret
    exact ⟨rfl, hB.out _⟩
theorem room_any (A : Option Addr) (n cap : Nat) (s t f l p : Int) (W : World) :
    Calls Try.prog 16 #[.slice A n cap, .agg #[.int .i64 s, .int .i64 t, .int .i64 f, .int .i64 l, .int .i64 p]] W fun x w' => x = .returned (.bool (decide ((n : Int) < l))) ∧ Below W.heap.size W w' := by
  have hB := Lib.hid (bel1 W)
  go_enter Try.func16, Try.ntmps16
  go_wp2
  go_ret
  exact ⟨rfl, hB.out _⟩
structure S4 (B : Nat) (w0 : World) (b1 o1 b2 o2 : Nat) (x y : Nat) (W : World) : Prop where
  c0 : W.cell? ⟨b1, o1, none⟩ = some (.int .u64 x)
  c1 : W.cell? ⟨b1, o1 + 1, none⟩ = some (.int .u64 y)
  d0 : W.cell? ⟨b2, o2, none⟩ = some (.int .u64 x)
  d1 : W.cell? ⟨b2, o2 + 1, none⟩ = some (.int .u64 y)
  bl : Below B w0 W
theorem S4.drew {B : Nat} {w0 : World} {b1 o1 b2 o2 x y : Nat} {W : World} (h : S4 B w0 b1 o1 b2 o2 x y W) : S4 B w0 b1 o1 b2 o2 x y W.drew := ⟨h.c0, h.c1, h.d0, h.d1, h.bl.drew⟩
set_option maxHeartbeats 1000000 in
theorem rsame_any (rs : List (Nat × Nat)) (hl : rs.length ≤ 100000) (A1 A2 : Option Addr) (b1 o1 b2 o2 c1 c2 : Nat) (W : World) (h1 : RdR W A1 b1 o1 rs) (h2 : RdR W A2 b2 o2 rs) :
    Calls Try.prog 12 #[.slice A1 rs.length c1, .slice A2 rs.length c2] W fun x w' => x = .returned (.bool true) ∧ Below W.heap.size W w' := by
  have H1 := Lib.hid h1
  have H2 := Lib.hid h2
  clear h1 h2
  generalize hn : rs.length = n at hl ⊢
  have HN := Lib.hid hn
  clear hn
  go_enter Try.func12, Try.ntmps12
  go_wp2
  go_loopg [5] n (fun g i wr => ∃ j : Nat, j ≤ n ∧ g = n - j ∧ i = .int .i64 j ∧ Below W.heap.size W wr)
  case atStart => exact ⟨0, by omega, by omega, rfl, Below.refl _ _⟩
  case round =>
    obtain ⟨j, hj, hg, rfl, hb⟩ := hrel
    by_cases hlt : j < n
    · have hjl : j < rs.length := by rw [HN.out]; exact hlt
      obtain rfl := H1.out.a (by omega)
      obtain rfl := H2.out.a (by omega)
      have k1 := H1.out.next hb
      have k2 := H2.out.next hb
      have HS := Lib.hid (show S4 W.heap.size W b1 (o1 + j * 2) b2 (o2 + j * 2) (rs.getD j (0, 0)).1 (rs.getD j (0, 0)).2 wr from ⟨k1.c0 j hjl, k1.c1 j hjl, k2.c0 j hjl, k2.c1 j hjl, hb⟩)
      generalize (rs.getD j (0, 0)).1 = x at HS
      generalize (rs.getD j (0, 0)).2 = y at HS
      have HS1 := Lib.hid HS.out.drew
      clear k1 k2 HS hb hjl H1 H2
      go_wp2
      refine wp_region_class (C := S4 W.heap.size W b1 (o1 + j * 2) b2 (o2 + j * 2) x y) (by kernel_rfl) (by kernel_rfl) (HS1.out) ?_
      repeat (first
        | go_big_quiet_skip
        | (go_big_quiet_want; go_big_quiet_op; go_big_quiet_on)
        | (go_big_quiet_want; go_big_quiet_op; refine ⟨_, fun _ _ => rfl, ?_⟩; go_big_quiet_on)
        | (go_big_quiet_want
           apply quiet_mk
           · intro u hu
             have c0 := hu.c0; have c1 := hu.c1; have d0 := hu.d0; have d1 := hu.d1
             have HU := Lib.hid hu
             clear hu
             go_simp
             first
               | with_reducible rfl
           simp only [Act.put, List.setIfInBounds_toArray, List.set_cons_zero, List.set_cons_succ]
           go_big_quiet_on))
      refine wpQuiet_nil ?_
      intro u hu
      have HB := Lib.hid hu.bl
      clear hu HS1
      go_wp2
      go_roundg (n - (j + 1))
      case rel => exact ⟨j + 1, by omega, rfl, by go_num, HB.out⟩
      case measure => omega
    · obtain rfl : j = n := by omega
      have HB := Lib.hid hb
      clear hb
      go_wp2
      go_ret
      exact ⟨rfl, HB.out⟩
end Go.Proofs.Ytdljnfioponegaa
