/- All cells of a block of a position, written one behind the other; a result that lies in a cell; numbers in blocks of a kind. -/
import Derived.Test.YthbilpgecombiaaPlc
import Derived.Test.YthbilpgecombiaaClones
import Derived.Laws.ResultCell
set_option maxRecDepth 100000
namespace Go.Proofs.Ythbilpgecombiaa
open Go.ChangeShapes Go.WideShapes Go.ChangeAt Go.RowKit

theorem results_row_tmpP {P : Program} {fn : Func} {p u : Tmp} {ty : TypeId} (h : fn.results = #[.cell p ty, .tmp u]) (tmps : Array Value) (w : World) (g : Nat) (t : TypeId) (cs : Array Value) (fr : Nat × Nat) (d : TypeDesc)
    (hp : tmps.getD p undef = .pointer (some ⟨g, 0, none⟩)) (hg : w.heap[g]? = some (.cells cs t fr))
    (hu : P.underlying ty = some d) (hd : (match d with | .struct _ | .array _ _ => true | _ => false) = true) (hi : (P.info? ty).map (·.size) = some cs.size) :
    (results fn tmps).run P w = .ok (.tuple #[.agg cs, tmps.getD u undef]) w := by
  rw [results_cell_tmp h, hp]
  simp [asAddr, run_loadVar_row w g t ty cs fr d hg hu hd hi, Result.andThen]
/-- All five cells of a block of a position, written one behind the other. -/
def fillP (W : World) (b : Nat) (p : PlaceD) (vc v0 v1 : Value) : World :=
  ((((W.setCell ⟨b, 0, none⟩ vc).setCell ⟨b, 1, none⟩ v0).setCell ⟨b, 2, none⟩ v1).setCell ⟨b, 3, none⟩ (.int .i64 p.turn)).setCell ⟨b, 4, none⟩ (.int .i64 p.quiet)
theorem pbox_fill {W : World} {b : Nat} {t : TypeId} {p0 p : PlaceD} {uc u0 u1 vc v0 v1 : Value} (h : PBox W b t p0 uc u0 u1) : PBox (fillP W b p vc v0 v1) b t p vc v0 v1 := by
  have h0 : (W.setCell ⟨b, 0, none⟩ vc).heap[b]? = some (.cells #[vc, u0, u1, .int .i64 p0.turn, .int .i64 p0.quiet] t (0, 0)) := heap_setCell_same _ b 0 _ t vc h
  have h1 : ((W.setCell ⟨b, 0, none⟩ vc).setCell ⟨b, 1, none⟩ v0).heap[b]? = some (.cells #[vc, v0, u1, .int .i64 p0.turn, .int .i64 p0.quiet] t (0, 0)) := heap_setCell_same _ b 1 _ t v0 h0
  have h2 : (((W.setCell ⟨b, 0, none⟩ vc).setCell ⟨b, 1, none⟩ v0).setCell ⟨b, 2, none⟩ v1).heap[b]? = some (.cells #[vc, v0, v1, .int .i64 p0.turn, .int .i64 p0.quiet] t (0, 0)) := heap_setCell_same _ b 2 _ t v1 h1
  have h3 : ((((W.setCell ⟨b, 0, none⟩ vc).setCell ⟨b, 1, none⟩ v0).setCell ⟨b, 2, none⟩ v1).setCell ⟨b, 3, none⟩ (.int .i64 p.turn)).heap[b]? = some (.cells #[vc, v0, v1, .int .i64 p.turn, .int .i64 p0.quiet] t (0, 0)) := heap_setCell_same _ b 3 _ t _ h2
  exact heap_setCell_same _ b 4 _ t _ h3
theorem fillP_below {B : Nat} {w W : World} (h : Below B w W) {b : Nat} (hb : B ≤ b) (p : PlaceD) (vc v0 v1 : Value) : Below B w (fillP W b p vc v0 v1) :=
  ((((h.setCell hb _).setCell hb _).setCell hb _).setCell hb _).setCell hb _
theorem fillP_other (W : World) (b : Nat) (p : PlaceD) (vc v0 v1 : Value) : (∀ k, k ≠ b → (fillP W b p vc v0 v1).heap[k]? = W.heap[k]?) ∧ (fillP W b p vc v0 v1).heap.size = W.heap.size := by
  refine ⟨fun k hk => ?_, by simp [fillP]⟩
  unfold fillP
  rw [heap_setCell_other _ _ _ _ hk, heap_setCell_other _ _ _ _ hk, heap_setCell_other _ _ _ _ hk, heap_setCell_other _ _ _ _ hk, heap_setCell_other _ _ _ _ hk]
theorem IsSl.form {α : Type} {q : World → Nat → Nat → α → Prop} {k : Nat} {W : World} {v : Value} {xs : List α} (h : IsSl q k W v xs) : ∃ a n c, v = .slice a n c := by
  obtain ⟨a, c, e, _⟩ := h.shape rfl
  exact ⟨_, _, _, e⟩
/-- Numbers in blocks of a kind that stay. -/
theorem intBlk_on {b : Nat → Prop} {W W' : World} {v : Value} {xs : List Int} (hs : ∀ k, b k → k < W.heap.size → W'.heap[k]? = W.heap[k]?) (h : IsSl (Blk b IntAt) 1 W v xs) : IsSl (Blk b IntAt) 1 W' v xs :=
  h.mono fun g _ _ hx => ⟨hx.1, (World.cell?_of_block (w := W) (hs g hx.1 (World.block_lt_of_cell? _ _ hx.2))).trans hx.2⟩
theorem ints_off {b : Nat} {W W' : World} {v : Value} {xs : List Int} (hs : ∀ k, k ≠ b → W'.heap[k]? = W.heap[k]?) (h : IsSl (Blk (fun k => k ≠ b) IntAt) 1 W v xs) : IsSl IntAt 1 W' v xs :=
  (intBlk_on (fun k hk _ => hs k hk) h).mono fun _ _ _ hx => hx.2
theorem blk_weak {b d : Nat → Prop} (hbd : ∀ k, b k → d k) {W : World} {v : Value} {xs : List Int} (h : IsSl (Blk b IntAt) 1 W v xs) : IsSl (Blk d IntAt) 1 W v xs := h.mono fun _ _ _ hx => ⟨hbd _ hx.1, hx.2⟩
theorem blk_of {d : Nat → Prop} {W : World} {g o n c : Nat} {xs : List Int} (h : IsSl IntAt 1 W (.slice (some ⟨g, o, none⟩) n c) xs) (hd : d g) : IsSl (Blk d IntAt) 1 W (.slice (some ⟨g, o, none⟩) n c) xs := by
  rcases h with h | ⟨g', off, cap, e1, e2, e3, e4, hc⟩
  · exact .inl h
  · refine .inr ⟨g', off, cap, e1, e2, e3, e4, fun i x hx => ⟨?_, hc i x hx⟩⟩
    simp only [Value.slice.injEq, Option.some.injEq, Addr.mk.injEq, and_true] at e1
    rw [← e1.1.1]; exact hd
def CloneI (xs : List Int) (w : World) (e : Ending) (w' : World) : Prop := ∃ a n c, e = .returned (.slice a n c) ∧ IsSl (Blk (fun k => w.heap.size ≤ k) IntAt) 1 w' (.slice a n c) xs ∧ Below w.heap.size w w'
theorem clone_ints (xs : List Int) (v : Value) (w : World) (hv : IsSl IntAt 1 w v xs) (hl : xs.length ≤ 100) : Calls Try.prog 38 #[v] w (CloneI xs w) := by
  refine (clone_start int_moves int_celled xs v w hv hl).mono ?_
  rintro e w' ⟨v', rfl, ⟨news, h2⟩, h3, h4⟩
  obtain ⟨a, n, c, rfl⟩ := h3.form
  refine ⟨a, n, c, rfl, ?_, h4⟩
  rcases h3 with h | ⟨g', off, cap, e1, e2, e3, e4, hc⟩
  · exact .inl h
  · refine .inr ⟨g', off, cap, e1, e2, e3, e4, fun i x hx => ⟨?_, hc i x hx⟩⟩
    exact (h2.lt g' (by rw [e1]; rfl)).1
/-- No list of a position is long. -/
structure Short (p : PlaceD) : Prop where
  c : p.cells.length ≤ 100
  a : p.h0.length ≤ 100
  b : p.h1.length ≤ 100
theorem POkay.short {r : RulesD} {p : PlaceD} (h : POkay r p) : Short p := by
  obtain ⟨_, hw, hh, hps, _⟩ := rulesE_ok h.e
  have hn6 := (piecesE_ok hps).2
  rw [inB_iff] at hw hh
  have hA2 : r.width * r.height ≤ 64 := by have := Int.mul_le_mul hw.2 hh.2 (by omega) (by omega); simpa using this
  have := h.cl
  exact ⟨by omega, by have := h.l0; omega, by have := h.l1; omega⟩
theorem two_boxes (w : World) (p q : PlaceD) (vc v0 v1 uc u0 u1 : Value) (t : TypeId) :
    Below w.heap.size w ((w.alloc (.cells (PlaceCells p vc v0 v1) t)).alloc (.cells (PlaceCells q uc u0 u1) t)) ∧ BoxP ((w.alloc (.cells (PlaceCells p vc v0 v1) t)).alloc (.cells (PlaceCells q uc u0 u1) t)) w.heap.size p vc v0 v1 ∧ BoxP ((w.alloc (.cells (PlaceCells p vc v0 v1) t)).alloc (.cells (PlaceCells q uc u0 u1) t)) (w.heap.size + 1) q uc u0 u1 := by
  refine ⟨((Below.refl _ _).alloc (Nat.le_refl _) _).alloc (by simp) _, (boxP_new w p vc v0 v1 t).below ((Below.refl _ _).alloc (Nat.le_refl _) _) (Nat.le_refl _), ?_⟩
  have h := boxP_new (w.alloc (.cells (PlaceCells p vc v0 v1) t)) q uc u0 u1 t
  rwa [World.size_alloc] at h
def PBad (c : Int) (w : World) (e : Ending) (w' : World) : Prop := e = .returned (.tuple #[.agg #[.slice none 0 0, .slice none 0 0, .slice none 0 0, .int .i64 0, .int .i64 0], .int .i64 c]) ∧ Below w.heap.size w w'
end Go.Proofs.Ythbilpgecombiaa
