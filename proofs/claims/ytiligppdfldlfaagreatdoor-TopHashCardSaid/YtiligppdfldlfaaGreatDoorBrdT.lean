/- What the law TopHash begins with; place.Same of any two positions; two boards in an array. -/
import Derived.Test.YtiligppdfldlfaaGreatDoorBrdS
import Derived.Test.YtiligppdfldlfaaGreatDoorSameP
import Derived.Test.YtiligppdfldlfaaGreatDoorThreeR
import Derived.Test.YtiligppdfldlfaaGreatDoorPlayD
import Derived.Test.YtiligppdfldlfaaGreatDoorZobK
set_option maxRecDepth 100000
namespace Go.Proofs.YtiligppdfldlfaaGreatDoor
open Go.ChangeShapes Go.WideShapes Go.ChangeAt Go.RowKit

set_option maxHeartbeats 1000000 in
theorem three_top (w : World) : Calls Tryz.prog 37 #[] w (RulesPost (threeD [0, 0, 0, 0, 0, 0, 0, 0, 0]) w) := by
  have hmk := make9
  go_enter Tryz.func37, Tryz.ntmps37
  go_wp2_with fail
  refine bodyPost_ret (v := RulesV (threeD [0, 0, 0, 0, 0, 0, 0, 0, 0]) (.slice (some ⟨w.heap.size + 1, 0, none⟩) 1 1) (.slice (some ⟨w.heap.size + 1 + 1, 0, none⟩) 9 9) (.slice (some ⟨w.heap.size + 1 + 1 + 1, 0, none⟩) 1 1)) (by simp [results, Tryz.results37, go_sem, RulesV, threeD]) rfl ⟨_, _, _, rfl, ⟨⟨?_, ?_, ?_⟩, by decide⟩, ?_⟩
  · refine .inr ⟨_, 0, 1, rfl, by simp [threeD], by simp [threeD], by decide, fun i x hx => ?_⟩
    match i, hx with
    | 0, hx =>
      obtain rfl := Option.some.inj hx
      exact ⟨.slice none 0 0, by simp [go_sem], by simp [go_sem], by simp [go_sem], by simp [go_sem], .inl ⟨rfl, none, 0, rfl⟩⟩
    | i + 1, hx => simp [threeD] at hx
  · refine .inr ⟨_, 0, 9, rfl, by simp [threeD], by simp [threeD], by decide, fun i x hx => ?_⟩
    have hi : i < 9 := (List.getElem?_eq_some_iff.1 hx).1
    obtain rfl : 0 = x := by
      match i, hi, hx with
      | 0, _, hx | 1, _, hx | 2, _, hx | 3, _, hx | 4, _, hx | 5, _, hx | 6, _, hx | 7, _, hx | 8, _, hx => exact Option.some.inj hx
    match i, hi with
    | 0, _ | 1, _ | 2, _ | 3, _ | 4, _ | 5, _ | 6, _ | 7, _ | 8, _ => simp [IntAt, go_sem]
  · refine .inr ⟨_, 0, 1, rfl, by simp [threeD], by simp [threeD], by decide, fun i x hx => ?_⟩
    match i, hx with
    | 0, hx =>
      obtain rfl := Option.some.inj hx
      exact ⟨by simp [go_sem], by simp [go_sem], by simp [go_sem], by simp [go_sem]⟩
    | i + 1, hx => simp [threeD] at hx
  · exact ((((Below.refl _ _).alloc (by simp) _).alloc (by simp <;> omega) _).alloc (by simp <;> omega) _).alloc (by simp <;> omega) _
set_option maxHeartbeats 2000000 in
theorem near_top (w : World) : Calls Tryz.prog 38 #[] w (PlacePost nearD w) := by
  go_enter Tryz.func38, Tryz.ntmps38
  go_wp2_with fail
  refine bodyPost_ret (v := PlaceV nearD (.slice (some ⟨w.heap.size + 1, 0, none⟩) 9 9) (.slice (some ⟨w.heap.size + 1 + 1, 0, none⟩) 1 1) (.slice (some ⟨w.heap.size + 1 + 1 + 1, 0, none⟩) 1 1)) (by simp [results, Tryz.results38, go_sem, PlaceV, PlaceCells, nearD]) rfl ⟨_, _, _, rfl, ⟨?_, ?_, ?_⟩, ?_⟩
  · refine .inr ⟨_, 0, 9, rfl, by simp [nearD], by simp [nearD], by decide, fun i x hx => ?_⟩
    have hi : i < 9 := (List.getElem?_eq_some_iff.1 hx).1
    match i, hi, hx with
    | 0, _, hx | 1, _, hx | 2, _, hx | 3, _, hx | 4, _, hx | 5, _, hx | 6, _, hx | 7, _, hx | 8, _, hx => obtain rfl := Option.some.inj hx; simp [IntAt, go_sem]
  · refine .inr ⟨_, 0, 1, rfl, by simp [nearD], by simp [nearD], by decide, fun i x hx => ?_⟩
    have hi : i < 1 := (List.getElem?_eq_some_iff.1 hx).1
    match i, hi, hx with
    | 0, _, hx => obtain rfl := Option.some.inj hx; simp [IntAt, go_sem]
  · refine .inr ⟨_, 0, 1, rfl, by simp [nearD], by simp [nearD], by decide, fun i x hx => ?_⟩
    have hi : i < 1 := (List.getElem?_eq_some_iff.1 hx).1
    match i, hi, hx with
    | 0, _, hx => obtain rfl := Option.some.inj hx; simp [IntAt, go_sem]
  · simp only [World.alloc]
    exact ((((Below.refl _ _).alloc (by simp) _).alloc (by simp <;> omega) _).alloc (by simp <;> omega) _).alloc (by simp <;> omega) _
theorem put_top (s : Int) (w : World) : Calls Tryz.prog 39 #[.int .i64 s] w fun e w' => e = .returned (.agg #[.int .i64 (-1), .int .i64 s, .int .i64 0]) ∧ Below w.heap.size w w' := by
  go_enter Tryz.func39, Tryz.ntmps39
  go_wp2_with fail
  refine bodyPost_ret (results_cell_row rfl _ _ w.heap.size 41 _ (0, 0) _ rfl (heap_alloc_new w (.cells #[.int .i64 (-1), .int .i64 s, .int .i64 0] 41)) Tryz.underlying41 rfl (by kernel_rfl)) rfl ?_
  exact ⟨rfl, (Below.refl _ _).alloc (Nat.le_refl _) _⟩
/-- Are the cells, the hands and the turn the same? -/
def sameB (p q : PlaceD) : Bool := decide (p.h0 = q.h0) && (decide (p.h1 = q.h1) && (decide (p.cells = q.cells) && decide (p.turn = q.turn)))
theorem same_key {p q : PlaceD} (h : sameB p q = true) : keyZ p = keyZ q := by
  simp only [sameB, Bool.and_eq_true, decide_eq_true_eq] at h
  obtain ⟨h0, h1, hc, ht⟩ := h
  simp only [keyZ, handsK, h0, h1, hc, ht]
set_option maxHeartbeats 8000000 in
theorem Same_any (p q : PlaceD) (vc v0 v1 uc u0 u1 : Value) (w : World) (h1 : PlaceIn w p vc v0 v1) (h2 : PlaceIn w q uc u0 u1) (hs : Short p) :
    Calls Tryz.prog 41 #[PlaceV p vc v0 v1, PlaceV q uc u0 u1] w (BelPost (.bool (sameB p q)) w) := by
  obtain ⟨e0, he0⟩ : ∃ e, e = decide (p.h0 = q.h0) := ⟨_, rfl⟩
  obtain ⟨e1, he1⟩ : ∃ e, e = decide (p.h1 = q.h1) := ⟨_, rfl⟩
  obtain ⟨ec, hec⟩ : ∃ e, e = decide (p.cells = q.cells) := ⟨_, rfl⟩
  have HC : Hid (∀ W, Below w.heap.size w W → Calls Tryz.prog 48 #[vc, uc] W (BelPost (.bool ec) W)) := Lib.hid (fun W h => by rw [hec]; exact equal_any p.cells q.cells vc uc W (row_of (h1.below h (Nat.le_refl _)).c) (row_of (h2.below h (Nat.le_refl _)).c) (by have := hs.c; omega))
  have H0 : Hid (∀ W, Below w.heap.size w W → Calls Tryz.prog 48 #[v0, u0] W (BelPost (.bool e0) W)) := Lib.hid (fun W h => by rw [he0]; exact equal_any p.h0 q.h0 v0 u0 W (row_of (h1.below h (Nat.le_refl _)).a) (row_of (h2.below h (Nat.le_refl _)).a) (by have := hs.a; omega))
  have H1 : Hid (∀ W, Below w.heap.size w W → Calls Tryz.prog 48 #[v1, u1] W (BelPost (.bool e1) W)) := Lib.hid (fun W h => by rw [he1]; exact equal_any p.h1 q.h1 v1 u1 W (row_of (h1.below h (Nat.le_refl _)).b) (row_of (h2.below h (Nat.le_refl _)).b) (by have := hs.b; omega))
  have HK : Hid (sameB p q = (e0 && (e1 && (ec && decide (p.turn = q.turn))))) := Lib.hid (by rw [sameB, he0, he1, hec])
  obtain ⟨V, hV⟩ : ∃ V, V = (w.alloc (.cells (PlaceCells p vc v0 v1) 29)).alloc (.cells (PlaceCells q uc u0 u1) 29) := ⟨_, rfl⟩
  obtain ⟨hB, hX, hY⟩ := two_boxes w p q vc v0 v1 uc u0 u1 29
  rw [← hV] at hB hX hY
  have HB := Lib.hid hB
  have HX : Hid (∀ W, Below V.heap.size V W → BoxP W w.heap.size p vc v0 v1) := Lib.hid (fun W h => hX.below h (Nat.le_refl _))
  have HY : Hid (∀ W, Below V.heap.size V W → BoxP W (w.heap.size + 1) q uc u0 u1) := Lib.hid (fun W h => hY.below h (Nat.le_refl _))
  obtain ⟨x0, x1, x2, x3, x4⟩ := hX
  obtain ⟨y0, y1, y2, y3, y4⟩ := hY
  have hV' := hV
  unfold PlaceCells at hV'
  unfold PlaceV PlaceCells
  rw [hV] at x0 x1 x2 x3 x4 y0 y1 y2 y3 y4
  clear h1 h2 hB hs hV he0 he1 hec
  go_enter Tryz.func41, Tryz.ntmps41
  go_wp2_with fail
  rw [← hV']
  clear hV' x0 x1 x2 x3 x4 y0 y1 y2 y3 y4
  go_at_call 48; refine (H0.out _ HB.out).mono ?_; rintro e w1 ⟨rfl, hb⟩
  have HB1 := Lib.hid hb
  obtain ⟨x0, x1, x2, x3, x4⟩ := HX.out _ hb
  obtain ⟨y0, y1, y2, y3, y4⟩ := HY.out _ hb
  clear hb
  have HN : Hid (∀ W, Below V.heap.size V W → ∀ W2, Below W.heap.size W W2 → Below V.heap.size V W2) := Lib.hid (fun W h W2 h2 => h.trans (h2.mono h.size))
  cases e0
  · have K : Hid (∀ b : Bool, b = false → b = sameB p q) := Lib.hid (fun b hb => by rw [hb, HK.out]; rfl)
    go_wp2_with fail
    go_at_call 48; refine (HC.out _ (HB.out.trans (HB1.out.mono HB.out.size))).mono ?_; rintro e w2 ⟨rfl, hb⟩
    have HB2 := Lib.hid (HB.out.trans ((HN.out _ HB1.out _ hb).mono HB.out.size))
    clear hb HB1 x0 x1 x2 x3 x4 y0 y1 y2 y3 y4
    cases ec
    all_goals
      go_wp2_with fail
      go_ret
      exact ⟨ret_bool (K.out _ rfl), HB2.out⟩
  · go_wp2_with fail
    go_at_call 48; refine (H1.out _ (HB.out.trans (HB1.out.mono HB.out.size))).mono ?_; rintro e w2 ⟨rfl, hb⟩
    have hb2 := HN.out _ HB1.out _ hb
    have HB2 := Lib.hid hb2
    clear hb HB1 x0 x1 x2 x3 x4 y0 y1 y2 y3 y4
    obtain ⟨x0, x1, x2, x3, x4⟩ := HX.out _ hb2
    obtain ⟨y0, y1, y2, y3, y4⟩ := HY.out _ hb2
    clear hb2
    go_wp2_with fail
    go_at_call 48; refine (HC.out _ (HB.out.trans (HB2.out.mono HB.out.size))).mono ?_; rintro e w3 ⟨rfl, hb⟩
    have hb3 := HN.out _ HB2.out _ hb
    have HB3 := Lib.hid (HB.out.trans (hb3.mono HB.out.size))
    clear hb HB2 x0 x1 x2 x3 x4 y0 y1 y2 y3 y4
    obtain ⟨x0, x1, x2, x3, x4⟩ := HX.out _ hb3
    obtain ⟨y0, y1, y2, y3, y4⟩ := HY.out _ hb3
    clear hb3
    cases e1
    · have K : Hid (∀ b : Bool, b = false → b = sameB p q) := Lib.hid (fun b hb => by rw [hb, HK.out]; rfl)
      cases ec
      all_goals
        go_wp2_with fail
        go_ret
        exact ⟨ret_bool (K.out _ rfl), HB3.out⟩
    · cases ec
      · have K : Hid (∀ b : Bool, b = false → b = sameB p q) := Lib.hid (fun b hb => by rw [hb, HK.out]; rfl)
        go_wp2_with fail
        go_ret
        exact ⟨ret_bool (K.out _ rfl), HB3.out⟩
      · by_cases ht : p.turn = q.turn
        · have K : Hid (true = sameB p q) := Lib.hid (by rw [HK.out, decide_eq_true ht]; rfl)
          have htt : (p.turn == q.turn) = true := by simpa using ht
          clear ht
          go_wp2_with fail
          go_ret
          exact ⟨ret_bool K.out, HB3.out⟩
        · have K : Hid (false = sameB p q) := Lib.hid (by rw [HK.out, decide_eq_false ht]; rfl)
          have htt : (p.turn == q.turn) = false := by simpa using ht
          clear ht
          go_wp2_with fail
          go_ret
          exact ⟨ret_bool K.out, HB3.out⟩

/-! ### Two boards in an array -/
/-- A board, whose blocks are younger than block tb. -/
def Bd (tb : Nat) (W : World) (bb : Nat) (r : RulesD) (q : PlaceD) (es : List PlaceD) : Prop := ∃ D, Brd (fun k => k ≠ tb) D W bb r q es ∧ ∀ k, D k → tb < k
theorem Bd.keep {tb : Nat} {W W' : World} {bb : Nat} {r : RulesD} {q : PlaceD} {es : List PlaceD} (h : Bd tb W bb r q es) (hb : Below W.heap.size W W') : Bd tb W' bb r q es := by
  obtain ⟨D, h1, h2⟩ := h
  exact ⟨D, h1.keep hb, h2⟩
theorem Bd.off {tb i : Nat} {W : World} {bb : Nat} {r : RulesD} {q : PlaceD} {es : List PlaceD} (h : Bd tb W bb r q es) (u : Value) : Bd tb (W.setCell ⟨tb, i, none⟩ u) bb r q es := by
  obtain ⟨D, h1, h2⟩ := h
  exact ⟨D, h1.keepOn (fun k _ hk => heap_setCell_other _ _ _ _ hk) (by rw [World.size_setCell]; exact Nat.le_refl _) (fun k hk => heap_setCell_other _ _ _ _ (by have := h2 k hk; show k ≠ tb; omega)), h2⟩
theorem Bd.ok {tb : Nat} {W : World} {bb : Nat} {r : RulesD} {q : PlaceD} {es : List PlaceD} (h : Bd tb W bb r q es) : POkay r q := by
  obtain ⟨D, h1, _⟩ := h
  exact h1.ok.1
/-- The array of boards, of which those before the j-th stand. -/
def TbI (tb : Nat) (r : RulesD) (j : Nat) (W : World) : Prop :=
  ∃ P0 P1, W.heap[tb]? = some (.cells #[.pointer P0, .pointer P1] 66 (0, 0)) ∧ (1 ≤ j → ∃ bb q es, P0 = some ⟨bb, 0, none⟩ ∧ Bd tb W bb r q es) ∧ (2 ≤ j → ∃ bb q es, P1 = some ⟨bb, 0, none⟩ ∧ Bd tb W bb r q es)
theorem TbI.step {tb j : Nat} {r : RulesD} {wr w2 wf : World} {bb : Nat} {q : PlaceD} {es : List PlaceD} (h : TbI tb r j wr) (hj : j < 2) (h2 : Below wr.heap.size wr w2) (h3 : Below wr.heap.size (w2.setCell ⟨tb, j, none⟩ (.pointer (some ⟨bb, 0, none⟩))) wf) (hb : Bd tb wf bb r q es) : TbI tb r (j + 1) wf := by
  obtain ⟨P0, P1, hr, h0, h1⟩ := h
  have hlt : tb < wr.heap.size := (Array.getElem?_eq_some_iff.1 hr).1
  have hr2 := (h2.block tb hlt).trans hr
  have hr3 := heap_setCell_same w2 tb j _ _ (.pointer (some ⟨bb, 0, none⟩)) hr2
  have hr4 := (h3.block tb hlt).trans hr3
  have hkeep : ∀ b q' es', Bd tb wr b r q' es' → Bd tb wf b r q' es' := fun b q' es' hB => by
    obtain ⟨D, g1, g2⟩ := (hB.keep h2).off (i := j) (.pointer (some ⟨bb, 0, none⟩))
    obtain ⟨D', g1', g2'⟩ := hB
    refine ⟨D', g1'.keepOn (fun k hk hc => ?_) (Nat.le_trans h2.size (by have := h3.size; rw [World.size_setCell] at this; exact this)) (fun k hk => ?_), g2'⟩
    · have hlk : k < wr.heap.size := by have := g1'.ok.2.2.1 b g1'.ok.2.2.2; omega
      exact ((h3.block k hlk).trans (heap_setCell_other _ _ _ _ hc)).trans (h2.block k hlk)
    · have hlk := g1'.ok.2.2.1 k hk
      exact ((h3.block k hlk).trans (heap_setCell_other _ _ _ _ (by have := g2' k hk; show k ≠ tb; omega))).trans (h2.block k hlk)
  obtain rfl | rfl : j = 0 ∨ j = 1 := by omega
  · exact ⟨some ⟨bb, 0, none⟩, P1, hr4, fun _ => ⟨bb, q, es, rfl, hb⟩, fun h => by omega⟩
  · obtain ⟨b0, q0, es0, e0, hB0⟩ := h0 (by omega)
    exact ⟨P0, some ⟨bb, 0, none⟩, hr4, fun _ => ⟨b0, q0, es0, e0, hkeep _ _ _ hB0⟩, fun _ => ⟨bb, q, es, rfl, hb⟩⟩
/-- A board whose own blocks all are from n0 on. -/
def BNt (tb n0 : Nat) (W : World) (bb : Nat) (r : RulesD) (q : PlaceD) (es : List PlaceD) : Prop := (∃ D, Brd (fun k => k ≠ tb) D W bb r q es ∧ ∀ k, D k → n0 ≤ k) ∧ n0 ≤ W.heap.size
theorem BNt.keep {tb n0 : Nat} {W W' : World} {bb : Nat} {r : RulesD} {q : PlaceD} {es : List PlaceD} (h : BNt tb n0 W bb r q es) (hb : Below W.heap.size W W') : BNt tb n0 W' bb r q es := by
  obtain ⟨⟨D, h1, h2⟩, h3⟩ := h
  exact ⟨⟨D, h1.keep hb, h2⟩, Nat.le_trans h3 hb.size⟩
theorem BNt.bd {tb n0 : Nat} {W : World} {bb : Nat} {r : RulesD} {q : PlaceD} {es : List PlaceD} (h : BNt tb n0 W bb r q es) (ht : tb < n0) : Bd tb W bb r q es := by
  obtain ⟨⟨D, h1, h2⟩, _⟩ := h
  exact ⟨D, h1, fun k hk => by have := h2 k hk; omega⟩
theorem BNt.off {tb n0 i : Nat} {w W : World} {bb : Nat} {r : RulesD} {q : PlaceD} {es : List PlaceD} (h : BAt w (fun k => k ≠ tb) W bb r q es) (ht : tb < w.heap.size) (hn : n0 = w.heap.size) (u : Value) : BNt tb n0 (W.setCell ⟨tb, i, none⟩ u) bb r q es := by
  subst hn
  refine ⟨h.off ht _ (fun k hk => heap_setCell_other _ _ _ _ hk) (by rw [World.size_setCell]), by rw [World.size_setCell]; exact h.bel.size⟩
def StepN (tb n0 : Nat) (W : World) (bb : Nat) (r : RulesD) (q : PlaceD) (es : List PlaceD) (e : Ending) (w' : World) : Prop := e = .returned (.int .i64 0) ∧ BNt tb n0 w' bb r q es ∧ Below n0 W w'
theorem BNt.doOk {tb n0 : Nat} {W : World} {bb : Nat} {r : RulesD} {q : PlaceD} {es : List PlaceD} (h : BNt tb n0 W bb r q es) (hx : resultD r q = 0) (m : MoveD) (hl : legalB r q m = true) (hn : es.length ≤ 100) : Calls Tryz.prog 11 #[.pointer (some ⟨bb, 0, none⟩), moveV m] W (StepN tb n0 W bb r (afterD r q m) (es ++ [q])) := by
  obtain ⟨⟨D, h1, h5⟩, h2⟩ := h
  refine (do_ok h1 hx m hl hn).mono ?_
  rintro e w' ⟨rfl, h4, h6⟩
  refine ⟨rfl, ⟨⟨_, h4, fun k hk => ?_⟩, Nat.le_trans h2 h6.size⟩, h6.below h2 h5⟩
  rcases hk with hk | hk
  · exact h5 k hk
  · omega
end Go.Proofs.YtiligppdfldlfaaGreatDoor
