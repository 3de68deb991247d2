/- Arguments that are calls of a history, by value: opened as far as a law looks. -/
import Derived.Test.YtdfabagclnjoaaaOpen
import Derived.Deep.Slices
import Derived.Lib.Hide
namespace Go.Proofs.Ytdfabagclnjoaaa
open Go.ChangeShapes Go.WideShapes Go.ChangeAt Go.RowKit Go.Deep
variable {H : Type} {enc : TypeId × Value → H}
structure Cl where
  (u0 u1 u2 u3 u4 u5 u6 : Value) (fr to : Int) (ov : Bool) (u10 u11 : Value) (A : Option Addr) (len cap : Nat)
abbrev clV (x : Cl) : Value := .agg #[x.u0, x.u1, x.u2, x.u3, x.u4, x.u5, x.u6, .int .i64 x.fr, .int .i64 x.to, .bool x.ov, x.u10, x.u11, .slice x.A x.len x.cap]
theorem open_call {w : World} {base b0 : Nat} {spare : Nat → Bool} {held : Bool} {r : Reach} {v : Value} {d : DataW H} {p : List MemPlace}
    (hv : Value.okWide Try.prog w r b0 29 v) (h : DataW.Trod enc Try.prog w base spare held 29 v d p) :
    ∃ x : Cl, v = clV x ∧ x.len ≤ maxLen ∧ (Lit.int .i64 x.fr).wf = true ∧ (Lit.int .i64 x.to).wf = true := by
  have c29 : Try.prog.cellsOf 29 = 13 := by kernel_rfl
  have c27 : Try.prog.cellsOf 27 = 3 := by kernel_rfl
  have c3 : Try.prog.cellsOf 3 = 1 := by kernel_rfl
  have c4 : Try.prog.cellsOf 4 = 1 := by kernel_rfl
  have c25 : Try.prog.cellsOf 25 = 1 := by kernel_rfl
  obtain ⟨cs, rfl, hsz⟩ := okWide_struct Try.underlying29 hv
  rw [c29] at hsz
  obtain ⟨fuel, hf⟩ := h
  obtain ⟨xs, n, _, _, _, hlen, hg⟩ := DataW.trod_struct Try.underlying29 hf
  obtain ⟨l⟩ := cs
  match l, hsz with
  | [u0, u1, u2, u3, u4, u5, u6, u7, u8, u9, u10, u11, u12], _ =>
    have h3 : DataW.trod enc Try.prog w base spare held n 3 [u7] = xs[3]? := by
      have h := hg 3 { name := "From", type := 3, offset := 7, embedded := false, tag := "", pkgPath := "", byteOffset := 56 } rfl
      dsimp only at h
      rw [c3] at h
      exact h
    have h4 : DataW.trod enc Try.prog w base spare held n 3 [u8] = xs[4]? := by
      have h := hg 4 { name := "To", type := 3, offset := 8, embedded := false, tag := "", pkgPath := "", byteOffset := 64 } rfl
      dsimp only at h
      rw [c3] at h
      exact h
    have h5 : DataW.trod enc Try.prog w base spare held n 4 [u9] = xs[5]? := by
      have h := hg 5 { name := "Over", type := 4, offset := 9, embedded := false, tag := "", pkgPath := "", byteOffset := 72 } rfl
      dsimp only at h
      rw [c4] at h
      exact h
    have h6 : DataW.trod enc Try.prog w base spare held n 27 [u10, u11, u12] = xs[6]? := by
      have h := hg 6 { name := "Result", type := 27, offset := 10, embedded := false, tag := "", pkgPath := "", byteOffset := 80 } rfl
      dsimp only at h
      rw [c27] at h
      exact h
    have e3 : ∃ y, xs[3]? = some y := ⟨_, List.getElem?_eq_getElem (by simp at hlen; omega)⟩
    have e4 : ∃ y, xs[4]? = some y := ⟨_, List.getElem?_eq_getElem (by simp at hlen; omega)⟩
    have e5 : ∃ y, xs[5]? = some y := ⟨_, List.getElem?_eq_getElem (by simp at hlen; omega)⟩
    have e6 : ∃ y, xs[6]? = some y := ⟨_, List.getElem?_eq_getElem (by simp at hlen; omega)⟩
    obtain ⟨y3, e3⟩ := e3
    obtain ⟨y4, e4⟩ := e4
    obtain ⟨y5, e5⟩ := e5
    obtain ⟨y6, e6⟩ := e6
    obtain ⟨a, ha, _, wa⟩ := DataW.trod_int Try.underlying3 (h3.trans e3)
    obtain ⟨b, hb, _, wb⟩ := DataW.trod_int Try.underlying3 (h4.trans e4)
    obtain ⟨o, ho, _⟩ := DataW.trod_bool Try.underlying4 (h5.trans e5)
    obtain ⟨zs, m, _, _, _, hlen2, hg2⟩ := DataW.trod_struct Try.underlying27 (h6.trans e6)
    have k2 : DataW.trod enc Try.prog w base spare held m 25 [u12] = zs[2]? := by
      have h := hg2 2 { name := "Pairs", type := 25, offset := 2, embedded := false, tag := "", pkgPath := "", byteOffset := 16 } rfl
      dsimp only at h
      rw [c25] at h
      exact h
    have q2 : ∃ y, zs[2]? = some y := ⟨_, List.getElem?_eq_getElem (by simp at hlen2; omega)⟩
    obtain ⟨z2, q2⟩ := q2
    obtain rfl : u7 = .int .i64 a := by simpa using ha
    obtain rfl : u8 = .int .i64 b := by simpa using hb
    obtain rfl : u9 = .bool o := by simpa using ho
    rcases Go.Deep.open_slice Try.underlying25 (k2.trans q2) with ⟨hcs, _⟩ | ⟨A, len, cap, m2, n2, D, Pl, hcs, hb2, hl, hm, hmm, _, hx⟩
    · obtain rfl : u12 = .slice none 0 0 := by simpa using hcs
      exact ⟨⟨u0, u1, u2, u3, u4, u5, u6, a, b, o, u10, u11, none, 0, 0⟩, rfl, Nat.zero_le _, wa, wb⟩
    · obtain rfl : u12 = .slice (some A) len cap := by simpa using hcs
      exact ⟨⟨u0, u1, u2, u3, u4, u5, u6, a, b, o, u10, u11, some A, len, cap⟩, rfl, (show len ≤ maxLen by omega), wa, wb⟩
theorem below2c (W : World) (a b : Obj) : Below W.heap.size W ((W.alloc a).alloc b) := ((Below.refl _ _).alloc (Nat.le_refl _) _).alloc (by simp) _
end Go.Proofs.Ytdfabagclnjoaaa
