/- A game that is played to its end: three in a row, as data. -/
import Derived.Test.YtomclohfppbegaaGreatDoorGmeS
import Derived.Test.YtomclohfppbegaaGreatDoorPlayD
set_option maxRecDepth 100000
namespace Go.Proofs.YtomclohfppbegaaGreatDoor
open Go.ChangeShapes Go.WideShapes Go.ChangeAt Go.RowKit

/-- A slice of ints opened whole, for every later world. -/
theorem sl_parts {xs : List Int} {w : World} {v : Value} (h : IsSl IntAt 1 w v xs) : ∃ a n c, v = .slice a n c ∧ n = xs.length ∧ n ≤ c ∧ ∀ W, Below w.heap.size w W → ∀ k, k < n → ∃ g o x, a = some ⟨g, o, none⟩ ∧ xs[k]? = some x ∧ W.cell? ⟨g, o + k, none⟩ = some (.int .i64 x) := by
  obtain ⟨n, hn⟩ : ∃ n, n = xs.length := ⟨_, rfl⟩
  obtain ⟨a, c, rfl, hc, hcell⟩ := h.shape hn
  refine ⟨a, n, c, rfl, hn, hc, fun W hb k hk => ?_⟩
  obtain ⟨g, o, x, e1, e2, e3⟩ := hcell k hk
  have h3 := int_keeps _ _ _ _ _ _ hb (Nat.le_refl _) e3
  rw [Nat.mul_one] at h3
  exact ⟨g, o, x, e1, e2, h3⟩
/-- A position in a box of the call's own. -/
structure BEnd (U W : World) (b : Nat) (q : PlaceD) (vc v0 v1 : Value) : Prop where
  bel : Below U.heap.size U W
  box : PBox W b 43 q vc v0 v1
  pl : PlaceIn W q vc v0 v1
theorem bendA {d : Nat → Prop} {U w9 : World} {q : PlaceD} {vc v0 v1 : Value} (h9 : Below U.heap.size U w9) (hp : PlaceF d w9 q vc v0 v1) : BEnd U (w9.alloc (.cells (PlaceCells q vc v0 v1) 43)) w9.heap.size q vc v0 v1 :=
  ⟨h9.alloc h9.size _, PBox.new _ _ _ _ _ _, (hp.on (e := fun _ => True) (fun _ _ hl => Below.heap_alloc _ _ _ hl) (fun _ _ => trivial)).plain⟩
theorem bendB {X : Nat} {U w9 : World} {q : PlaceD} {vc v0 v1 : Value} (h9 : Below U.heap.size U w9) (hX : U.heap.size ≤ X) (hz : PBox w9 X 43 zeroP (.slice none 0 0) (.slice none 0 0) (.slice none 0 0)) (hp : PlaceF (fun k => X < k) w9 q vc v0 v1) : BEnd U (fillP w9 X q vc v0 v1) X q vc v0 v1 := by
  have hfo := fillP_other w9 X q vc v0 v1
  exact ⟨fillP_below h9 hX q _ _ _, pbox_fill hz, (hp.on (e := fun _ => True) (fun k hk _ => hfo.1 k (by omega)) (fun _ _ => trivial)).plain⟩
theorem errG_run {r : RulesD} (ms : List MoveD) : ∀ {s t : PlaceD × List PlaceD}, runG r s ms = some t → errG r s ms = 0 := by
  induction ms with
  | nil => intro s t _; rfl
  | cons m ms ih =>
    intro s t h
    obtain ⟨u, h1, h2⟩ := Option.bind_eq_some_iff.1 (show (stepG r s m).bind (fun t => runG r t ms) = some t from h)
    obtain ⟨h3, h4, rfl⟩ := stepG_some h1
    rw [errG, if_neg (by simpa using h3), if_pos h4]
    exact ih h2
/-- Run of the moves that a game has played. -/
theorem run_again {r : RulesD} {q : PlaceD} {es : List PlaceD} {ms : List MoveD} (h : Chain r q es ms) (vp vs ve lv : Value) (w : World) (hr : RulesIn w r vp vs ve) (hz : rulesE r = 0) (hT : Dir w) (hI : IsSl MoveAt 3 w lv ms) (hl : ms.length ≤ 90) :
    Calls Tryz.prog 29 #[RulesV r vp vs ve, lv] w (RunOk q (resG r q es) w) := by
  refine (run_any r ms vp vs ve lv w hr hz hT hI hl).mono ?_
  rintro e w' (⟨_, q', es', h1, h2⟩ | ⟨h1, _⟩)
  · obtain ⟨rfl, rfl⟩ := h1.fn h
    exact h2
  · exact absurd (errG_run ms h) h1
def five : List MoveD := [(-1, 0, 0), (-1, 3, 0), (-1, 1, 0), (-1, 4, 0), (-1, 2, 0)]
def fiveV : Array Value := #[.int .i64 (-1), .int .i64 0, .int .i64 0, .int .i64 (-1), .int .i64 3, .int .i64 0, .int .i64 (-1), .int .i64 1, .int .i64 0, .int .i64 (-1), .int .i64 4, .int .i64 0, .int .i64 (-1), .int .i64 2, .int .i64 0]
theorem five_err : errG three9 (beginD three9, []) five = 0 := by decide +kernel
theorem five_end : (runG three9 (beginD three9, []) five).map (fun s => (resG three9 s.1 s.2, s.1.cells.length)) = some (1, 9) := by decide +kernel
theorem five_res {q : PlaceD} {es : List PlaceD} (h : Chain three9 q es five) : resG three9 q es = 1 ∧ q.cells.length = 9 := by
  have h1 := five_end
  unfold Chain at h
  rw [h] at h1
  exact Prod.mk.inj (Option.some.inj h1)
theorem five_in {W : World} {g : Nat} (h : W.heap[g]? = some (.cells fiveV 47 (0, 0))) : IsSl MoveAt 3 W (.slice (some ⟨g, 0, none⟩) 5 5) five := by
  have hc : ∀ i, W.cell? ⟨g, i, none⟩ = fiveV[i]? := fun i => cell_of_row W g i _ _ (0, 0) h
  refine .inr ⟨g, 0, 5, rfl, by decide, by decide, by decide, fun i x hx => ?_⟩
  match i, hx with
  | 0, hx => obtain rfl := Option.some.inj hx; exact ⟨hc 0, hc 1, hc 2⟩
  | 1, hx => obtain rfl := Option.some.inj hx; exact ⟨hc 3, hc 4, hc 5⟩
  | 2, hx => obtain rfl := Option.some.inj hx; exact ⟨hc 6, hc 7, hc 8⟩
  | 3, hx => obtain rfl := Option.some.inj hx; exact ⟨hc 9, hc 10, hc 11⟩
  | 4, hx => obtain rfl := Option.some.inj hx; exact ⟨hc 12, hc 13, hc 14⟩
  | i + 5, hx => simp [five] at hx
theorem rules9 : rulesE three9 = 0 := by decide +kernel
/-- Run of the five moves. -/
theorem run_five (vp vs ve : Value) (g : Nat) (w : World) (hr : RulesIn w three9 vp vs ve) (hT : Dir w) (h : w.heap[g]? = some (.cells fiveV 47 (0, 0))) :
    Calls Tryz.prog 29 #[RulesV three9 vp vs ve, .slice (some ⟨g, 0, none⟩) 5 5] w fun e w' => ∃ q, q.cells.length = 9 ∧ RunOk q 1 w e w' := by
  refine (run_any three9 five vp vs ve _ w hr rules9 hT (five_in h) (by decide)).mono ?_
  rintro e w' (⟨_, q, es, h1, h2⟩ | ⟨h1, _⟩)
  · obtain ⟨h3, h4⟩ := five_res h1
    rw [h3] at h2
    exact ⟨q, h4, h2⟩
  · exact absurd five_err h1
theorem res9 : resG three9 (beginD three9) [] = 0 := by decide +kernel
theorem put9 : legalB three9 (beginD three9) (-1, 9, 0) = false := by decide +kernel
theorem put4 : legalB three9 (beginD three9) (-1, 4, 0) = true := by decide +kernel
theorem count4 : countG (afterD three9 (beginD three9) (-1, 4, 0)) [beginD three9] = 1 := by decide +kernel
end Go.Proofs.YtomclohfppbegaaGreatDoor
