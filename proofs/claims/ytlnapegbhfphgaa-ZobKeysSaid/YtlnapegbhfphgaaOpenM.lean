/- A move that comes in as an argument: what the form says of it. -/
import Derived.Test.YtlnapegbhfphgaaOpnA
import Derived.Test.YtlnapegbhfphgaaMvB
set_option maxRecDepth 100000
namespace Go.Proofs.Ytlnapegbhfphgaa
open Go.ChangeShapes Go.WideShapes Go.ChangeAt Go.RowKit Go.Deep

section
variable {H : Type} {enc : TypeId × Value → H} {w : World} {base : Nat} {spare : Nat → Bool} {held : Bool}
theorem open_move {r : Reach} {b0 : Nat} {v : Value} {d : DataW H} {p : List MemPlace} (hv : Value.okWide Try.prog w r b0 36 v) (h : DataW.Trod enc Try.prog w base spare held 36 v d p) :
    ∃ m : MoveD, v = moveV m := by
  obtain ⟨cs, rfl, hsz, F⟩ := aggFields Try.underlying36 (by kernel_rfl) (by kernel_rfl) hv h
  obtain ⟨v0, z0, m0, c0, t0⟩ := F 0 _ rfl
  obtain ⟨v1, z1, m1, c1, t1⟩ := F 1 _ rfl
  obtain ⟨v2, z2, m2, c2, t2⟩ := F 2 _ rfl
  obtain ⟨x0, rfl, _⟩ := open1_int (k := .i64) (t := 3) Try.underlying3 t0
  obtain ⟨x1, rfl, _⟩ := open1_int (k := .i64) (t := 3) Try.underlying3 t1
  obtain ⟨x2, rfl, _⟩ := open1_int (k := .i64) (t := 3) Try.underlying3 t2
  refine ⟨(x0, x1, x2), ?_⟩
  obtain ⟨l⟩ := cs
  have hl : l.length = 3 := hsz
  match l, hl with
  | [a, b, c], _ =>
    have e0 : a = .int .i64 x0 := by simpa using c0
    have e1 : b = .int .i64 x1 := by simpa using c1
    have e2 : c = .int .i64 x2 := by simpa using c2
    subst e0 e1 e2
    rfl
end
end Go.Proofs.Ytlnapegbhfphgaa
