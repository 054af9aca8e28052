/- Boards: what lies in memory, and New, Turn, Len, Undo, Position. (Written by genbrd.py.) -/
import Derived.Test.YtomclohfppbegaaGreatDoorClnA
import Derived.Test.YtomclohfppbegaaGreatDoorOthA
import Derived.Test.YtomclohfppbegaaGreatDoorEndA
import Derived.Deep.RegionHeld3
import Derived.OwnWalk
set_option maxRecDepth 100000
namespace Go.Proofs.YtomclohfppbegaaGreatDoor
open Go.ChangeShapes Go.WideShapes Go.ChangeAt Go.RowKit

/-- The cells of a board. -/
def BCells (r : RulesD) (vp vs ve : Value) (q : PlaceD) (vc v0 v1 ev : Value) : Array Value :=
  #[.string r.name, .int .i64 r.width, .int .i64 r.height, vp, vs, .bool r.falls, .bool r.keeps, ve, .int .i64 r.blocked, .int .i64 r.quiet, .int .i64 r.rep, vc, v0, v1, .int .i64 q.turn, .int .i64 q.quiet, ev]
/-- A block of a board's own that no later move writes into. -/
def BOk (D : Nat → Prop) (bb : Nat) (ea : Option Addr) (k : Nat) : Prop := D k ∧ k ≠ bb ∧ ∀ a, ea = some a → k ≠ a.block
/-- Positions in a row: what their cells hold. -/
def RowOf (d : Nat → Prop) (W : World) (ps : List PlaceD) (news : List Value) : Prop :=
  ∀ i p, ps[i]? = some p → ∃ ca cn cc a0 n0 c0 a1 n1 c1, (∀ j, j < 5 → news[i * 5 + j]? = (PlaceCells p (.slice ca cn cc) (.slice a0 n0 c0) (.slice a1 n1 c1))[j]?) ∧ PlaceF d W p (.slice ca cn cc) (.slice a0 n0 c0) (.slice a1 n1 c1)
/-- What holds in every later world that agrees, below block bb, on the blocks of a kind. -/
def Fast (c : Nat → Prop) (W : World) (bb : Nat) (Q : World → Prop) : Prop := ∀ W', (∀ k, k < bb → c k → W'.heap[k]? = W.heap[k]?) → W.heap.size ≤ W'.heap.size → Q W'
theorem Fast.on {c : Nat → Prop} {W W' : World} {bb : Nat} {Q : World → Prop} (h : Fast c W bb Q) (hb : ∀ k, k < bb → c k → W'.heap[k]? = W.heap[k]?) (hs : W.heap.size ≤ W'.heap.size) : Fast c W' bb Q := fun W2 h2 h3 => h W2 (fun k hk hc => (h2 k hk hc).trans (hb k hk hc)) (by omega)
/-- Blocks of other kinds are as they were. -/
structure Fram (D : Nat → Prop) (w w' : World) : Prop where
  os : w'.os = w.os
  tape : w'.tape = w.tape
  output : w'.output = w.output
  size : w.heap.size ≤ w'.heap.size
  block : ∀ k, k < w.heap.size → ¬ D k → w'.heap[k]? = w.heap[k]?
theorem Fram.of {D : Nat → Prop} {w w' : World} (h : Below w.heap.size w w') : Fram D w w' := ⟨h.os, h.tape, h.output, h.size, fun k hk _ => h.block k hk⟩
theorem Fram.below {D : Nat → Prop} {w w' : World} (h : Fram D w w') {B : Nat} (hB : B ≤ w.heap.size) (hD : ∀ k, D k → B ≤ k) : Below B w w' := ⟨h.os, h.tape, h.output, h.size, fun k hk => h.block k (by omega) (fun hd => by have := hD k hd; omega)⟩
theorem Fram.trans {D : Nat → Prop} {a b c : World} (h : Fram D a b) (h2 : Fram D b c) : Fram D a c := ⟨h2.os.trans h.os, h2.tape.trans h.tape, h2.output.trans h.output, Nat.le_trans h.size h2.size, fun k hk hd => (h2.block k (by have := h.size; omega) hd).trans (h.block k hk hd)⟩
/-- The kind of a board's blocks behind a call: what has come is of it, too. -/
def Grow (D : Nat → Prop) (W W' : World) (k : Nat) : Prop := D k ∨ (W.heap.size ≤ k ∧ k < W'.heap.size)
theorem RowOf.on {d e : Nat → Prop} {W W' : World} {ps : List PlaceD} {news : List Value} (h : RowOf d W ps news) (hs : ∀ k, d k → k < W.heap.size → W'.heap[k]? = W.heap[k]?) (hd : ∀ k, d k → e k) : RowOf e W' ps news := fun i p hi => by
  obtain ⟨ca, cn, cc, a0, n0, c0, a1, n1, c1, h1, h2⟩ := h i p hi
  exact ⟨ca, cn, cc, a0, n0, c0, a1, n1, c1, h1, h2.on hs hd⟩
theorem own_at {W W' : World} {B : Nat} {e : TypeId} {size n : Nat} {ea : Option Addr} {en ec : Nat} {xs : List Value} (h : W.ownsRow B e size (.slice ea en ec) n xs) (hs : ∀ a, ea = some a → W'.heap[a.block]? = W.heap[a.block]?) : W'.ownsRow B e size (.slice ea en ec) n xs := by
  refine ⟨h.1, ?_⟩
  rcases h.2 with hn | ⟨g, cap, cur, hv, hb, hg, rest⟩
  · exact .inl hn
  · refine .inr ⟨g, cap, cur, hv, hb, ?_, rest⟩
    simp only [Value.slice.injEq] at hv
    exact (hs _ hv.1).trans hg
/-- The facts that the walks of a board's methods want. -/
def BFacts (W : World) (bb : Nat) (r : RulesD) (vp vs ve : Value) (q : PlaceD) (vc v0 v1 ev : Value) : Prop := BoxR W bb r vp vs ve ∧ (W.cell? ⟨bb, 11, none⟩ = some vc ∧ W.cell? ⟨bb, 12, none⟩ = some v0 ∧ W.cell? ⟨bb, 13, none⟩ = some v1 ∧ W.cell? ⟨bb, 14, none⟩ = some (.int .i64 q.turn) ∧ W.cell? ⟨bb, 15, none⟩ = some (.int .i64 q.quiet)) ∧ W.cell? ⟨bb, 16, none⟩ = some ev
theorem bfacts {W : World} {bb : Nat} {r : RulesD} {vp vs ve : Value} {q : PlaceD} {vc v0 v1 ev : Value} {t : TypeId} (h : W.heap[bb]? = some (.cells (BCells r vp vs ve q vc v0 v1 ev) t (0, 0))) : BFacts W bb r vp vs ve q vc v0 v1 ev := by
  have hc : ∀ i, W.cell? ⟨bb, i, none⟩ = (BCells r vp vs ve q vc v0 v1 ev)[i]? := fun i => cell_of_row W bb i _ t (0, 0) h
  exact ⟨⟨hc 0, hc 1, hc 2, hc 3, hc 4, hc 5, hc 6, hc 7, hc 8, hc 9, hc 10⟩, ⟨hc 11, hc 12, hc 13, hc 14, hc 15⟩, hc 16⟩
theorem bfrozen {W : World} {bb : Nat} {cs : Array Value} {t : TypeId} (h : W.heap[bb]? = some (.cells cs t (0, 0))) (i : Nat) : W.frozen? ⟨bb, i, none⟩ = false := frozen_of_row W bb i _ t h
/-- The facts keep where nothing below is written. -/
theorem bkeep {W W' : World} {bb : Nat} {cs : Array Value} {t : TypeId} {fr : Nat × Nat} (h : W.heap[bb]? = some (.cells cs t fr)) (hb : Below W.heap.size W W') : W'.heap[bb]? = some (.cells cs t fr) := (hb.block bb (Array.getElem?_eq_some_iff.1 h).1).trans h

/-! ### Turn and Len -/
theorem own_len {W : World} {B : Nat} {e : TypeId} {size n : Nat} {ea : Option Addr} {en ec : Nat} {xs : List Value} (h : W.ownsRow B e size (.slice ea en ec) n xs) : en = n := by
  rcases h.2 with ⟨h1, h2⟩ | ⟨g, cap, cur, h1, _⟩
  · simp only [Value.slice.injEq] at h1; omega
  · simp only [Value.slice.injEq] at h1; exact h1.2.1

/-! ### New -/
theorem ints_lt {d : Nat → Prop} {W : World} {v : Value} {xs : List Int} (h : IsSl (Blk d IntAt) 1 W v xs) : IsSl (Blk (fun k => d k ∧ k < W.heap.size) IntAt) 1 W v xs := h.mono fun _ _ _ hx => ⟨⟨hx.1, World.block_lt_of_cell? _ _ hx.2⟩, hx.2⟩
theorem PlaceF.lt {d : Nat → Prop} {W : World} {p : PlaceD} {vc v0 v1 : Value} (h : PlaceF d W p vc v0 v1) : PlaceF (fun k => d k ∧ k < W.heap.size) W p vc v0 v1 := ⟨ints_lt h.c, ints_lt h.a, ints_lt h.b⟩
def NewBad (c : Int) (w : World) (e : Ending) (w' : World) : Prop := e = .returned (.tuple #[.pointer none, .int .i64 c]) ∧ Below w.heap.size w w'

/-! ### Undo -/
theorem own_cut {W : World} {B : Nat} {e : TypeId} {size g n cap : Nat} {xs : List Value} (h : W.ownsRow B e size (.slice (some ⟨g, 0, none⟩) n cap) n xs) {m : Nat} (hm : m ≤ n) : W.ownsRow B e size (.slice (some ⟨g, 0, none⟩) m cap) m (xs.take (m * size)) := by
  have hms : m * size ≤ n * size := Nat.mul_le_mul_right _ hm
  rcases h.2 with ⟨h1, _⟩ | ⟨g', cap', cur, h1, hb, hg, h2, h3, h4, h5⟩
  · simp at h1
  · simp only [Value.slice.injEq, Option.some.injEq, Addr.mk.injEq, and_true, true_and] at h1
    obtain ⟨rfl, rfl⟩ := h1
    refine ⟨by rw [List.length_take, h.1, Nat.min_eq_left hms], .inr ⟨g, cap, cur, rfl, hb, hg, by omega, h3, h4, ?_⟩⟩
    rw [← h5, List.take_take, Nat.min_eq_left hms]
/-- The cells of a board's position, written one behind the other. -/
def fillB (W : World) (bb : Nat) (p : PlaceD) (vc v0 v1 : Value) : World :=
  ((((W.setCell ⟨bb, 11, none⟩ vc).setCell ⟨bb, 12, none⟩ v0).setCell ⟨bb, 13, none⟩ v1).setCell ⟨bb, 14, none⟩ (.int .i64 p.turn)).setCell ⟨bb, 15, none⟩ (.int .i64 p.quiet)
theorem fillB_row {W : World} {bb : Nat} {r : RulesD} {vp vs ve : Value} {q : PlaceD} {vc v0 v1 ev : Value} {t : TypeId} (h : W.heap[bb]? = some (.cells (BCells r vp vs ve q vc v0 v1 ev) t (0, 0))) (p : PlaceD) (uc u0 u1 : Value) : (fillB W bb p uc u0 u1).heap[bb]? = some (.cells (BCells r vp vs ve p uc u0 u1 ev) t (0, 0)) := by
  have h0 := heap_setCell_same _ bb 11 _ t uc h
  have h1 := heap_setCell_same _ bb 12 _ t u0 h0
  have h2 := heap_setCell_same _ bb 13 _ t u1 h1
  have h3 := heap_setCell_same _ bb 14 _ t (.int .i64 p.turn) h2
  exact heap_setCell_same _ bb 15 _ t (.int .i64 p.quiet) h3
theorem fillB_other (W : World) (bb : Nat) (p : PlaceD) (vc v0 v1 : Value) : (∀ k, k ≠ bb → (fillB W bb p vc v0 v1).heap[k]? = W.heap[k]?) ∧ (fillB W bb p vc v0 v1).heap.size = W.heap.size := by
  refine ⟨fun k hk => ?_, by simp [fillB]⟩
  unfold fillB
  rw [heap_setCell_other _ _ _ _ hk, heap_setCell_other _ _ _ _ hk, heap_setCell_other _ _ _ _ hk, heap_setCell_other _ _ _ _ hk, heap_setCell_other _ _ _ _ hk]
theorem fillB_below {B : Nat} {w W : World} (h : Below B w W) {bb : Nat} (hb : B ≤ bb) (p : PlaceD) (vc v0 v1 : Value) : Below B w (fillB W bb p vc v0 v1) :=
  ((((h.setCell hb _).setCell hb _).setCell hb _).setCell hb _).setCell hb _
theorem bset16 {W : World} {bb : Nat} {r : RulesD} {vp vs ve : Value} {q : PlaceD} {vc v0 v1 ev : Value} {t : TypeId} (h : W.heap[bb]? = some (.cells (BCells r vp vs ve q vc v0 v1 ev) t (0, 0))) (uv : Value) : (W.setCell ⟨bb, 16, none⟩ uv).heap[bb]? = some (.cells (BCells r vp vs ve q vc v0 v1 uv) t (0, 0)) := heap_setCell_same _ bb 16 _ t uv h
theorem below_only {B bb : Nat} {W W' : World} (h1 : ∀ k, k ≠ bb → W'.heap[k]? = W.heap[k]?) (hs : W'.heap.size = W.heap.size) (ho : W'.os = W.os) (ht : W'.tape = W.tape) (hu : W'.output = W.output) (hB : B ≤ bb) : Below B W W' := ⟨ho, ht, hu, by omega, fun k hk => h1 k (by omega)⟩

/-! ### Position -/
def PosPost (q : PlaceD) (w : World) (e : Ending) (w' : World) : Prop :=
  ∃ ca cn cc a0 n0 c0 a1 n1 c1, e = .returned (.agg #[.slice ca cn cc, .slice a0 n0 c0, .slice a1 n1 c1, .int .i64 q.turn, .int .i64 q.quiet]) ∧ PlaceF (fun k => w.heap.size ≤ k) w' q (.slice ca cn cc) (.slice a0 n0 c0) (.slice a1 n1 c1) ∧ Below w.heap.size w w'
/-- A position in a box of the call's own. -/
structure PEnd (U W : World) (b : Nat) (q : PlaceD) (vc v0 v1 : Value) : Prop where
  bel : Below U.heap.size U W
  low : U.heap.size ≤ b
  box : PBox W b 43 q vc v0 v1
  pl : PlaceF (fun k => U.heap.size ≤ k ∧ k ≠ b) W q vc v0 v1
theorem pendA {U w5 : World} {q : PlaceD} {vc v0 v1 : Value} (h5 : Below U.heap.size U w5) (hp : PlaceF (fun k => U.heap.size ≤ k) w5 q vc v0 v1) : PEnd U (w5.alloc (.cells (PlaceCells q vc v0 v1) 43)) w5.heap.size q vc v0 v1 :=
  ⟨h5.alloc h5.size _, h5.size, PBox.new _ _ _ _ _ _, hp.lt.on (fun k hk hl => Below.heap_alloc _ _ _ hl) (fun k hk => ⟨hk.1, by omega⟩)⟩
theorem pendB {U w5 : World} {q : PlaceD} {vc v0 v1 : Value} (h5 : Below U.heap.size U w5) (hbx : PBox w5 U.heap.size 43 zeroP (.slice none 0 0) (.slice none 0 0) (.slice none 0 0)) (hp : PlaceF (fun k => U.heap.size < k) w5 q vc v0 v1) : PEnd U (fillP w5 U.heap.size q vc v0 v1) U.heap.size q vc v0 v1 := by
  have hfo := fillP_other w5 U.heap.size q vc v0 v1
  exact ⟨fillP_below h5 (Nat.le_refl _) q _ _ _, Nat.le_refl _, pbox_fill hbx, hp.on (fun k hk _ => hfo.1 k (by omega)) (fun k hk => by omega)⟩
/-- What the loads of a board's rules and position find, in every later world. -/
def Got16 (w' : World) (bb : Nat) (r : RulesD) (vp vs ve : Value) (q : PlaceD) (vc v0 v1 : Value) : Prop :=
  w'.cell? ⟨bb, 0, none⟩ = some (.string r.name) ∧ w'.cell? ⟨bb, 1, none⟩ = some (.int .i64 r.width) ∧ w'.cell? ⟨bb, 2, none⟩ = some (.int .i64 r.height) ∧ w'.cell? ⟨bb, 3, none⟩ = some (vp) ∧ w'.cell? ⟨bb, 4, none⟩ = some (vs) ∧ w'.cell? ⟨bb, 5, none⟩ = some (.bool r.falls) ∧ w'.cell? ⟨bb, 6, none⟩ = some (.bool r.keeps) ∧ w'.cell? ⟨bb, 7, none⟩ = some (ve) ∧ w'.cell? ⟨bb, 8, none⟩ = some (.int .i64 r.blocked) ∧ w'.cell? ⟨bb, 9, none⟩ = some (.int .i64 r.quiet) ∧ w'.cell? ⟨bb, 10, none⟩ = some (.int .i64 r.rep) ∧ w'.cell? ⟨bb, 11, none⟩ = some (vc) ∧ w'.cell? ⟨bb, 12, none⟩ = some (v0) ∧ w'.cell? ⟨bb, 13, none⟩ = some (v1) ∧ w'.cell? ⟨bb, 14, none⟩ = some (.int .i64 q.turn) ∧ w'.cell? ⟨bb, 15, none⟩ = some (.int .i64 q.quiet)
theorem got16 {W W' : World} {bb : Nat} {r : RulesD} {vp vs ve : Value} {q : PlaceD} {vc v0 v1 ev : Value} {t : TypeId} (h : W.heap[bb]? = some (.cells (BCells r vp vs ve q vc v0 v1 ev) t (0, 0))) (hb : Below W.heap.size W W') : Got16 W' bb r vp vs ve q vc v0 v1 := by
  obtain ⟨⟨y0, y1, y2, y3, y4, y5, y6, y7, y8, y9, y10⟩, ⟨x0, x1, x2, x3, x4⟩, -⟩ := bfacts (bkeep h hb)
  exact ⟨y0, y1, y2, y3, y4, y5, y6, y7, y8, y9, y10, x0, x1, x2, x3, x4⟩
end Go.Proofs.YtomclohfppbegaaGreatDoor
