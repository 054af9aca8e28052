/- A move that comes in as an argument: what the form says of it. -/
import Derived.Test.YtkficjpnflnjhaaGreatDoorOpnA
import Derived.Test.YtkficjpnflnjhaaGreatDoorMvB
set_option maxRecDepth 100000
namespace Go.Proofs.YtkficjpnflnjhaaGreatDoor
open Go.ChangeShapes Go.WideShapes Go.ChangeAt Go.RowKit Go.Deep

section
variable {H : Type} {enc : TypeId × Value → H} {w : World} {base : Nat} {spare : Nat → Bool} {held : Bool}
theorem open_mvel (n g o : Nat) (cs : List Value) (y : DataW H × List MemPlace) (hc : w.cells? base ⟨g, o, none⟩ (Tryz.prog.cellsOf 43) = some cs) (h : DataW.trod enc Tryz.prog w base spare held n 43 cs = some y) : ∃ x : MoveD, MoveAt w g o x := by
  have F := elemFields Tryz.underlying43 (by kernel_rfl) (by kernel_rfl) hc h
  obtain ⟨v0, z0, m0, c0, t0⟩ := F 0 _ rfl
  obtain ⟨v1, z1, m1, c1, t1⟩ := F 1 _ rfl
  obtain ⟨v2, z2, m2, c2, t2⟩ := F 2 _ rfl
  obtain ⟨x0, rfl, _⟩ := open1_int (k := .i64) (t := 3) Tryz.underlying3 t0
  obtain ⟨x1, rfl, _⟩ := open1_int (k := .i64) (t := 3) Tryz.underlying3 t1
  obtain ⟨x2, rfl, _⟩ := open1_int (k := .i64) (t := 3) Tryz.underlying3 t2
  exact ⟨(x0, x1, x2), c0, c1, c2⟩
theorem open_move {r : Reach} {b0 : Nat} {v : Value} {d : DataW H} {p : List MemPlace} (hv : Value.okWide Tryz.prog w r b0 43 v) (h : DataW.Trod enc Tryz.prog w base spare held 43 v d p) :
    ∃ m : MoveD, v = moveV m := by
  obtain ⟨cs, rfl, hsz, F⟩ := aggFields Tryz.underlying43 (by kernel_rfl) (by kernel_rfl) hv h
  obtain ⟨v0, z0, m0, c0, t0⟩ := F 0 _ rfl
  obtain ⟨v1, z1, m1, c1, t1⟩ := F 1 _ rfl
  obtain ⟨v2, z2, m2, c2, t2⟩ := F 2 _ rfl
  obtain ⟨x0, rfl, _⟩ := open1_int (k := .i64) (t := 3) Tryz.underlying3 t0
  obtain ⟨x1, rfl, _⟩ := open1_int (k := .i64) (t := 3) Tryz.underlying3 t1
  obtain ⟨x2, rfl, _⟩ := open1_int (k := .i64) (t := 3) Tryz.underlying3 t2
  refine ⟨(x0, x1, x2), ?_⟩
  obtain ⟨l⟩ := cs
  have hl : l.length = 3 := hsz
  match l, hl with
  | [a, b, c], _ =>
    have e0 : a = .int .i64 x0 := by simpa using c0
    have e1 : b = .int .i64 x1 := by simpa using c1
    have e2 : c = .int .i64 x2 := by simpa using c2
    subst e0 e1 e2
    rfl
end
end Go.Proofs.YtkficjpnflnjhaaGreatDoor
