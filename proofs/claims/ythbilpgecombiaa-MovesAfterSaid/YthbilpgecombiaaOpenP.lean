/- A position that comes in as an argument: what the form says of it, as cells. -/
import Derived.Test.YthbilpgecombiaaOpenR
import Derived.Test.YthbilpgecombiaaPlc
set_option maxRecDepth 100000
namespace Go.Proofs.Ythbilpgecombiaa
open Go.ChangeShapes Go.WideShapes Go.ChangeAt Go.RowKit Go.Deep

section
variable {H : Type} {enc : TypeId × Value → H} {w : World} {base : Nat} {spare : Nat → Bool} {held : Bool}
theorem open_place {r : Reach} {b0 : Nat} {v : Value} {d : DataW H} {p : List MemPlace} (hv : Value.okWide Try.prog w r b0 29 v) (h : DataW.Trod enc Try.prog w base spare held 29 v d p) :
    ∃ (x : PlaceD) (vc v0 v1 : Value), v = PlaceV x vc v0 v1 ∧ PlaceIn w x vc v0 v1 := by
  obtain ⟨cs, rfl, hsz⟩ := okWide_struct Try.underlying29 hv
  have h5 : cs.size = 5 := hsz.trans (by kernel_rfl)
  obtain ⟨fuel, hf⟩ := h
  obtain ⟨ys, n', _, _, hlen, hyl, hg⟩ := DataW.trod_struct Try.underlying29 hf
  have hce : Value.cells (.agg cs) = cs := rfl
  rw [hce] at hg
  clear hce
  have hys : ys.length = 4 := hyl
  obtain ⟨y0, y1, y2, y3, rfl⟩ : ∃ a b c d, ys = [a, b, c, d] := by
    match ys, hys with
    | [a, b, c, d], _ => exact ⟨a, b, c, d, rfl⟩
  obtain ⟨x0, x1, x2, x3, x4, rfl⟩ : ∃ a b c d e, cs = #[a, b, c, d, e] := by
    obtain ⟨l⟩ := cs
    have hl : l.length = 5 := h5
    match l, hl with
    | [a, b, c, d, e], _ => exact ⟨a, b, c, d, e, rfl⟩
  have t0 := hg 0 _ rfl
  have t1 := hg 1 _ rfl
  have t2 := hg 2 _ rfl
  have t3 := hg 3 _ rfl
  have k2 : Try.prog.cellsOf 23 = 1 := by kernel_rfl
  obtain ⟨c, hc⟩ := openSl (q := IntAt) (k := 1) (t := 23) Try.underlying23 (by kernel_rfl) (by decide) open_cell (v := x0) (x := y0) t0
  obtain ⟨z, m, _, _, _, hz, ha⟩ := DataW.trod_array Try.underlying27 t1
  obtain ⟨z0, z1, rfl⟩ : ∃ a b, z = [a, b] := by
    match z, hz with
    | [a, b], _ => exact ⟨a, b, rfl⟩
  have s0 := ha 0 (by decide)
  have s1 := ha 1 (by decide)
  simp only [k2] at s0 s1
  obtain ⟨a, ha0⟩ := openSl (q := IntAt) (k := 1) (t := 23) Try.underlying23 (by kernel_rfl) (by decide) open_cell (v := x1) (x := z0) s0
  obtain ⟨b, hb0⟩ := openSl (q := IntAt) (k := 1) (t := 23) Try.underlying23 (by kernel_rfl) (by decide) open_cell (v := x2) (x := z1) s1
  obtain ⟨t, rfl, _⟩ := open1_int (k := .i64) (t := 3) (v := x3) (x := y2) Try.underlying3 t2
  obtain ⟨q, rfl, _⟩ := open1_int (k := .i64) (t := 3) (v := x4) (x := y3) Try.underlying3 t3
  exact ⟨⟨c, a, b, t, q⟩, x0, x1, x2, rfl, hc, ha0, hb0⟩
end
end Go.Proofs.Ythbilpgecombiaa
