/- A position as data, what is wrong with it, and how it lies in memory. -/
import Derived.Test.YthbilpgecombiaaOkR
namespace Go.Proofs.Ythbilpgecombiaa
open Go.ChangeShapes Go.WideShapes Go.ChangeAt Go.RowKit

structure PlaceD where
  cells : List Int
  h0 : List Int
  h1 : List Int
  turn : Int
  quiet : Int
def zeroP : PlaceD := ⟨[], [], [], 0, 0⟩
def PlaceCells (p : PlaceD) (vc v0 v1 : Value) : Array Value := #[vc, v0, v1, .int .i64 p.turn, .int .i64 p.quiet]
/-- The value of a position: its cells, its two hands, its turn and its quiet moves. -/
def PlaceV (p : PlaceD) (vc v0 v1 : Value) : Value := .agg (PlaceCells p vc v0 v1)
structure PlaceIn (W : World) (p : PlaceD) (vc v0 v1 : Value) : Prop where
  c : IsSl IntAt 1 W vc p.cells
  a : IsSl IntAt 1 W v0 p.h0
  b : IsSl IntAt 1 W v1 p.h1
theorem PlaceIn.below {W W' : World} {p : PlaceD} {vc v0 v1 : Value} (h : PlaceIn W p vc v0 v1) {n : Nat} (hb : Below n W W') (hn : W.heap.size ≤ n) : PlaceIn W' p vc v0 v1 :=
  ⟨h.c.below int_keeps hb hn, h.a.below int_keeps hb hn, h.b.below int_keeps hb hn⟩
/-- The cells of a variable that holds a position. -/
def BoxP (W : World) (b : Nat) (p : PlaceD) (vc v0 v1 : Value) : Prop :=
  W.cell? ⟨b, 0, none⟩ = some vc ∧ W.cell? ⟨b, 1, none⟩ = some v0 ∧ W.cell? ⟨b, 2, none⟩ = some v1 ∧ W.cell? ⟨b, 3, none⟩ = some (.int .i64 p.turn) ∧ W.cell? ⟨b, 4, none⟩ = some (.int .i64 p.quiet)
theorem BoxP.below {W W' : World} {b : Nat} {p : PlaceD} {vc v0 v1 : Value} (h : BoxP W b p vc v0 v1) {n : Nat} (hb : Below n W W') (hn : W.heap.size ≤ n) : BoxP W' b p vc v0 v1 := by
  obtain ⟨h0, h1, h2, h3, h4⟩ := h
  exact ⟨cell_keeps hb hn h0, cell_keeps hb hn h1, cell_keeps hb hn h2, cell_keeps hb hn h3, cell_keeps hb hn h4⟩
theorem boxP_new (w : World) (p : PlaceD) (vc v0 v1 : Value) (t : TypeId) : BoxP (w.alloc (.cells (PlaceCells p vc v0 v1) t)) w.heap.size p vc v0 v1 := by
  unfold BoxP
  refine ⟨?_, ?_, ?_, ?_, ?_⟩ <;> (rw [World.cell?_alloc_at (hn := rfl)]; rfl)
/-- A block of a position: what it holds, and that it may be written. -/
def PBox (W : World) (b : Nat) (t : TypeId) (p : PlaceD) (vc v0 v1 : Value) : Prop := W.heap[b]? = some (.cells (PlaceCells p vc v0 v1) t (0, 0))
theorem PBox.below {W W' : World} {b n : Nat} {t : TypeId} {p : PlaceD} {vc v0 v1 : Value} (h : PBox W b t p vc v0 v1) (hb : Below n W W') (hn : b < n) : PBox W' b t p vc v0 v1 := (hb.block b hn).trans h
def PFacts (W : World) (b : Nat) (p : PlaceD) (vc v0 v1 : Value) : Prop := BoxP W b p vc v0 v1 ∧ W.frozen? ⟨b, 0, none⟩ = false ∧ W.frozen? ⟨b, 1, none⟩ = false ∧ W.frozen? ⟨b, 2, none⟩ = false ∧ W.frozen? ⟨b, 3, none⟩ = false ∧ W.frozen? ⟨b, 4, none⟩ = false
theorem PBox.facts {W : World} {b : Nat} {t : TypeId} {p : PlaceD} {vc v0 v1 : Value} (h : PBox W b t p vc v0 v1) : PFacts W b p vc v0 v1 := by
  have hc : ∀ i, W.cell? ⟨b, i, none⟩ = (PlaceCells p vc v0 v1)[i]? := fun i => cell_of_row W b i _ t (0, 0) h
  have hf : ∀ i, W.frozen? ⟨b, i, none⟩ = false := fun i => frozen_of_row W b i _ t h
  exact ⟨⟨hc 0, hc 1, hc 2, hc 3, hc 4⟩, hf 0, hf 1, hf 2, hf 3, hf 4⟩
theorem PBox.lt {W : World} {b : Nat} {t : TypeId} {p : PlaceD} {vc v0 v1 : Value} (h : PBox W b t p vc v0 v1) : b < W.heap.size := (Array.getElem?_eq_some_iff.1 h).1
theorem PBox.new (W : World) (t : TypeId) (p : PlaceD) (vc v0 v1 : Value) : PBox (W.alloc (.cells (PlaceCells p vc v0 v1) t)) W.heap.size t p vc v0 v1 := heap_alloc_new W _
theorem PBox.alloc {W : World} {b : Nat} {t : TypeId} {p : PlaceD} {vc v0 v1 : Value} (h : PBox W b t p vc v0 v1) (o : Obj) : PBox (W.alloc o) b t p vc v0 v1 := (Below.heap_alloc W o b h.lt).trans h
theorem PBox.other {W : World} {b : Nat} {t : TypeId} {p : PlaceD} {vc v0 v1 : Value} (h : PBox W b t p vc v0 v1) {a : Addr} (ha : b ≠ a.block) (u : Value) : PBox (W.setCell a u) b t p vc v0 v1 := (heap_setCell_other W a b u ha).trans h

/-! ### What is wrong with it -/
def inN (m : Int) (x : Int) : Bool := inB x 0 m
def formB (r : RulesD) (p : PlaceD) : Bool := decide ((p.cells.length : Int) = r.width * r.height) && (decide (p.h0.length = r.pieces.length) && decide (p.h1.length = r.pieces.length))
def rangeB (r : RulesD) (p : PlaceD) : Bool :=
  p.cells.all (inN (2 * r.pieces.length)) && (p.h0.all (inN 1000) && (p.h1.all (inN 1000) && (inB p.turn 0 1 && inB p.quiet 0 200)))
def placeE (r : RulesD) (p : PlaceD) : Int := if rulesE r ≠ 0 then rulesE r else if formB r p = false then 3 else if rangeB r p = false then 4 else 0
theorem placeE_rules {r : RulesD} {p : PlaceD} (h : rulesE r ≠ 0) : placeE r p = rulesE r := by rw [placeE, if_pos h]
theorem placeE_form {r : RulesD} {p : PlaceD} (h : rulesE r = 0) (h2 : formB r p = false) : placeE r p = 3 := by rw [placeE, if_neg (by simpa using h), if_pos h2]
theorem placeE_range {r : RulesD} {p : PlaceD} (h : rulesE r = 0) (h2 : formB r p = true) (h3 : rangeB r p = false) : placeE r p = 4 := by rw [placeE, if_neg (by simpa using h), if_neg (by simp [h2]), if_pos h3]
theorem placeE_good {r : RulesD} {p : PlaceD} (h : rulesE r = 0) (h2 : formB r p = true) (h3 : rangeB r p = true) : placeE r p = 0 := by rw [placeE, if_neg (by simpa using h), if_neg (by simp [h2]), if_neg (by simp [h3])]
/-- What a good position is. -/
structure POkay (r : RulesD) (p : PlaceD) : Prop where
  e : rulesE r = 0
  cl : (p.cells.length : Int) = r.width * r.height
  l0 : p.h0.length = r.pieces.length
  l1 : p.h1.length = r.pieces.length
  cs : ∀ c ∈ p.cells, 0 ≤ c ∧ c ≤ 2 * r.pieces.length
  n0 : ∀ c ∈ p.h0, 0 ≤ c ∧ c ≤ 1000
  n1 : ∀ c ∈ p.h1, 0 ≤ c ∧ c ≤ 1000
  t0 : 0 ≤ p.turn
  t1 : p.turn ≤ 1
  q0 : 0 ≤ p.quiet
  q1 : p.quiet ≤ 200
theorem all_inN {m : Int} {l : List Int} : l.all (inN m) = true ↔ ∀ c ∈ l, 0 ≤ c ∧ c ≤ m := by
  rw [List.all_eq_true]
  exact ⟨fun h c hc => inB_iff.1 (h c hc), fun h c hc => inB_iff.2 (h c hc)⟩
theorem placeE_iff {r : RulesD} {p : PlaceD} : placeE r p = 0 ↔ POkay r p := by
  constructor
  · intro h
    have h1 : rulesE r = 0 := by
      by_cases hz : rulesE r = 0
      · exact hz
      · rw [placeE_rules hz] at h; exact absurd h hz
    have h2 : formB r p = true := by
      cases hz : formB r p
      · rw [placeE_form h1 hz] at h; cases h
      · rfl
    have h3 : rangeB r p = true := by
      cases hz : rangeB r p
      · rw [placeE_range h1 h2 hz] at h; cases h
      · rfl
    simp only [formB, Bool.and_eq_true, decide_eq_true_eq] at h2
    simp only [rangeB, Bool.and_eq_true, all_inN, inB_iff] at h3
    exact ⟨h1, h2.1, h2.2.1, h2.2.2, h3.1, h3.2.1, h3.2.2.1, h3.2.2.2.1.1, h3.2.2.2.1.2, h3.2.2.2.2.1, h3.2.2.2.2.2⟩
  · intro h
    refine placeE_good h.e ?_ ?_
    · simp only [formB, Bool.and_eq_true, decide_eq_true_eq]
      exact ⟨h.cl, h.l0, h.l1⟩
    · simp only [rangeB, Bool.and_eq_true, all_inN, inB_iff]
      exact ⟨h.cs, h.n0, h.n1, ⟨h.t0, h.t1⟩, h.q0, h.q1⟩
end Go.Proofs.Ythbilpgecombiaa
