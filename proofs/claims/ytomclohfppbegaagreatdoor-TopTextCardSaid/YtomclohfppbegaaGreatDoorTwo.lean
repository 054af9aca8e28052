/- Two games side by side, by the same rules. -/
import Derived.Test.YtomclohfppbegaaGreatDoorGmeS
set_option maxRecDepth 100000
namespace Go.Proofs.YtomclohfppbegaaGreatDoor
open Go.ChangeShapes Go.WideShapes Go.ChangeAt Go.RowKit

/-- The blocks that are not among those that were made from g0 up to g1. -/
def Beside (g0 g1 k : Nat) : Prop := ¬ (g0 ≤ k ∧ k < g1)
/-- Two games, at bb and at hh: the second was made when the first's blocks reached up to g1; nothing elder than the world w is written. -/
def Two (w : World) (g1 : Nat) (W : World) (bb hh : Nat) (r : RulesD) (q : PlaceD) (es : List PlaceD) (ms : List MoveD) (q' : PlaceD) (es' : List PlaceD) (ms' : List MoveD) : Prop :=
  ∃ D E, Gme (fun _ => True) D W bb r q es ms ∧ Gme (Beside w.heap.size g1) E W hh r q' es' ms' ∧ (∀ k, D k → ¬ E k) ∧ (∀ k, D k → (w.heap.size ≤ k ∧ k < g1) ∨ hh < k) ∧ (∀ k, E k → g1 ≤ k) ∧ bb < g1 ∧ g1 ≤ hh ∧ w.heap.size ≤ g1 ∧ Below w.heap.size w W ∧ Chain r q es ms ∧ Chain r q' es' ms'
theorem Two.bel {w : World} {g1 : Nat} {W : World} {bb hh : Nat} {r : RulesD} {q : PlaceD} {es : List PlaceD} {ms : List MoveD} {q' : PlaceD} {es' : List PlaceD} {ms' : List MoveD} (h : Two w g1 W bb hh r q es ms q' es' ms') : Below w.heap.size w W := by
  obtain ⟨D, E, _, _, _, _, _, _, _, _, h, _⟩ := h
  exact h
theorem Two.ok {w : World} {g1 : Nat} {W : World} {bb hh : Nat} {r : RulesD} {q : PlaceD} {es : List PlaceD} {ms : List MoveD} {q' : PlaceD} {es' : List PlaceD} {ms' : List MoveD} (h : Two w g1 W bb hh r q es ms q' es' ms') : POkay r q := by
  obtain ⟨D, E, h1, _⟩ := h
  exact h1.ok.1
theorem Two.keep {w : World} {g1 : Nat} {W W' : World} {bb hh : Nat} {r : RulesD} {q : PlaceD} {es : List PlaceD} {ms : List MoveD} {q' : PlaceD} {es' : List PlaceD} {ms' : List MoveD} (h : Two w g1 W bb hh r q es ms q' es' ms') (hb : Below W.heap.size W W') : Two w g1 W' bb hh r q es ms q' es' ms' := by
  obtain ⟨D, E, h1, h2, h3, h4, h5, h6, h7, h8, h9, h10, h11⟩ := h
  exact ⟨D, E, h1.keep hb, h2.keep hb, h3, h4, h5, h6, h7, h8, h9.trans (hb.mono h9.size), h10, h11⟩
/-- The first of two games: alone in its memory so far. -/
def One (w W : World) (bb : Nat) (r : RulesD) : Prop := Gme (fun _ => True) (fun k => w.heap.size ≤ k ∧ k < W.heap.size) W bb r (beginD r) [] [] ∧ Below w.heap.size w W
def NewOne (r : RulesD) (w : World) (e : Ending) (w' : World) : Prop := ∃ bb, e = .returned (.tuple #[.pointer (some ⟨bb, 0, none⟩), .int .i64 0]) ∧ One w w' bb r
theorem new_one (r : RulesD) (vp vs ve : Value) (w : World) (hr : RulesIn w r vp vs ve) (hz : rulesE r = 0) (hT : Dir w) :
    Calls Tryz.prog 9 #[RulesV r vp vs ve] w (NewOne r w) :=
  (gnew_ok (fun _ => True) r vp vs ve w hr hz hT (fun _ _ => trivial) (hr.1.1.mono fun _ _ _ hx => pieceIn_of hx (fun _ _ => trivial)) trivial).mono fun _ _ ⟨bb, h1, h2, h3⟩ => ⟨bb, h1, h2, h3⟩
def NewTwo (w : World) (g1 bb : Nat) (r : RulesD) (e : Ending) (w' : World) : Prop := ∃ hh, e = .returned (.tuple #[.pointer (some ⟨hh, 0, none⟩), .int .i64 0]) ∧ Two w g1 w' bb hh r (beginD r) [] [] (beginD r) [] []
theorem new_two (r : RulesD) (vp vs ve : Value) (w W : World) (bb : Nat) (hr : RulesIn w r vp vs ve) (hz : rulesE r = 0) (hT : Dir w) (h1 : One w W bb r) :
    Calls Tryz.prog 9 #[RulesV r vp vs ve] W (NewTwo w W.heap.size bb r) := by
  obtain ⟨hg, hb⟩ := h1
  have hlt := hg.ok.2.2.2.2
  refine (gnew_ok (Beside w.heap.size W.heap.size) r vp vs ve W (hr.below hb (Nat.le_refl _)) hz (hT.below hb (Nat.le_refl _)) (fun k hk h => by omega) ((hr.1.1.mono fun _ _ _ hx => pieceIn_of hx (fun k hk h => by omega)).below (pieceIn_keeps _) hb (Nat.le_refl _)) (fun h => by have := hT.size; omega)).mono ?_
  rintro e w' ⟨hh, rfl, h2, h3⟩
  have hh1 := h2.ok.2.2.2.1
  have hs := h3.size
  exact ⟨hh, rfl, _, _, hg.keep h3, h2, fun k hd he => by omega, fun k hd => .inl hd, fun k he => he.1, hlt, hh1, hb.size, hb.trans (h3.mono hb.size), Chain.zero r, Chain.zero r⟩
theorem Two.position1 {w : World} {g1 : Nat} {W : World} {bb hh : Nat} {r : RulesD} {q : PlaceD} {es : List PlaceD} {ms : List MoveD} {q' : PlaceD} {es' : List PlaceD} {ms' : List MoveD} (h : Two w g1 W bb hh r q es ms q' es' ms') : Calls Tryz.prog 11 #[.pointer (some ⟨bb, 0, none⟩)] W (PosPost q W) := by
  obtain ⟨D, E, h1, _⟩ := h
  exact gposition_any h1
theorem Two.position2 {w : World} {g1 : Nat} {W : World} {bb hh : Nat} {r : RulesD} {q : PlaceD} {es : List PlaceD} {ms : List MoveD} {q' : PlaceD} {es' : List PlaceD} {ms' : List MoveD} (h : Two w g1 W bb hh r q es ms q' es' ms') : Calls Tryz.prog 11 #[.pointer (some ⟨hh, 0, none⟩)] W (PosPost q' W) := by
  obtain ⟨D, E, _, h1, _⟩ := h
  exact gposition_any h1
theorem Two.result1 {w : World} {g1 : Nat} {W : World} {bb hh : Nat} {r : RulesD} {q : PlaceD} {es : List PlaceD} {ms : List MoveD} {q' : PlaceD} {es' : List PlaceD} {ms' : List MoveD} (h : Two w g1 W bb hh r q es ms q' es' ms') (hl : ms.length ≤ 100) : Calls Tryz.prog 13 #[.pointer (some ⟨bb, 0, none⟩)] W (BelPost (.int .i64 (resG r q es)) W) := by
  obtain ⟨D, E, h1, _, _, _, _, _, _, _, _, hc, _⟩ := h
  have := hc.len
  exact gresult h1 (by omega)
theorem Two.result2 {w : World} {g1 : Nat} {W : World} {bb hh : Nat} {r : RulesD} {q : PlaceD} {es : List PlaceD} {ms : List MoveD} {q' : PlaceD} {es' : List PlaceD} {ms' : List MoveD} (h : Two w g1 W bb hh r q es ms q' es' ms') (hl : ms'.length ≤ 100) : Calls Tryz.prog 13 #[.pointer (some ⟨hh, 0, none⟩)] W (BelPost (.int .i64 (resG r q' es')) W) := by
  obtain ⟨D, E, _, h1, _, _, _, _, _, _, _, _, hc⟩ := h
  have := hc.len
  exact gresult h1 (by omega)
def StepT (w : World) (g1 bb hh : Nat) (r : RulesD) (q : PlaceD) (es : List PlaceD) (ms : List MoveD) (q' : PlaceD) (es' : List PlaceD) (ms' : List MoveD) (e : Ending) (W : World) : Prop := e = .returned (.int .i64 0) ∧ Two w g1 W bb hh r q es ms q' es' ms'
/-- What was made between W0 and W is as it was. -/
def StepW (w : World) (g1 : Nat) (W0 W : World) (bb hh : Nat) (r : RulesD) (q : PlaceD) (es : List PlaceD) (ms : List MoveD) (q' : PlaceD) (es' : List PlaceD) (ms' : List MoveD) (e : Ending) (W' : World) : Prop := e = .returned (.int .i64 0) ∧ Two w g1 W' bb hh r q es ms q' es' ms' ∧ ∀ k, W0.heap.size ≤ k → k < W.heap.size → W'.heap[k]? = W.heap[k]?
theorem Two.play1 {w : World} {g1 : Nat} {W0 W : World} {bb hh : Nat} {r : RulesD} {q : PlaceD} {es : List PlaceD} {ms : List MoveD} {q' : PlaceD} {es' : List PlaceD} {ms' : List MoveD} (h : Two w g1 W0 bb hh r q es ms q' es' ms') (hb : Below W0.heap.size W0 W) (hl : ms.length ≤ 100) (hx : resG r q es = 0) (m : MoveD) (hm : legalB r q m = true) : Calls Tryz.prog 15 #[.pointer (some ⟨bb, 0, none⟩), moveV m] W (StepW w g1 W0 W bb hh r (afterD r q m) (es ++ [q]) (ms ++ [m]) q' es' ms') := by
  obtain ⟨D, E, h1, h2, h3, h4, h5, h6, h7, h8, h9, h10, h11⟩ := h
  have hle := h10.len
  have hDl := h1.ok.2.2.1
  have hEl := h2.ok.2.2
  have hs := hb.size
  refine (gplay_ok (h1.keep hb) (by omega) hx m hm hle).mono ?_
  rintro e w' ⟨rfl, hg, hf⟩
  have hhl := hEl.1 hh hEl.2
  have h9' := h9.trans (hb.mono h9.size)
  refine ⟨rfl, ⟨Grow D W w', E, hg, (h2.keep hb).keepOn (fun k hk hB => hf.block k (by omega) (fun hd => ?_)) hf.size (fun k hk => hf.block k (by have := hEl.1 k hk; omega) (fun hd => h3 k hd hk)), fun k hd he => ?_, fun k hd => ?_, h5, h6, h7, h8, h9'.trans (hf.below h9'.size (fun k hd => ?_)), h10.snoc hx hm, h11⟩, fun k hk hk2 => hf.block k hk2 (fun hd => by have := hDl k hd; omega)⟩
  · rcases h4 k hd with h | h
    · exact hB h
    · omega
  · rcases hd with hd | hd
    · exact h3 k hd he
    · have := hEl.1 k he; omega
  · rcases hd with hd | hd
    · exact h4 k hd
    · exact .inr (by omega)
  · rcases h4 k hd with h | h <;> omega
theorem Two.play2 {w : World} {g1 : Nat} {W : World} {bb hh : Nat} {r : RulesD} {q : PlaceD} {es : List PlaceD} {ms : List MoveD} {q' : PlaceD} {es' : List PlaceD} {ms' : List MoveD} (h : Two w g1 W bb hh r q es ms q' es' ms') (hl : ms'.length ≤ 100) (hx : resG r q' es' = 0) (m : MoveD) (hm : legalB r q' m = true) : Calls Tryz.prog 15 #[.pointer (some ⟨hh, 0, none⟩), moveV m] W (StepT w g1 bb hh r q es ms (afterD r q' m) (es' ++ [q']) (ms' ++ [m])) := by
  obtain ⟨D, E, h1, h2, h3, h4, h5, h6, h7, h8, h9, h10, h11⟩ := h
  have hle := h11.len
  have hDl := h1.ok.2.2.1
  have hEl := h2.ok.2.2
  have hhl := hEl.1 hh hEl.2
  refine (gplay_ok h2 (by omega) hx m hm hle).mono ?_
  rintro e w' ⟨rfl, hg, hf⟩
  refine ⟨rfl, D, Grow E W w', h1.keepOn (fun k hk _ => hf.block k (by omega) (fun he => by have := h5 k he; omega)) hf.size (fun k hk => hf.block k (hDl k hk) (fun he => h3 k hk he)), hg, fun k hd he => ?_, h4, fun k he => ?_, h6, h7, h8, h9.trans (hf.below h9.size (fun k he => ?_)), h10, h11.snoc hx hm⟩
  · rcases he with he | he
    · exact h3 k hd he
    · have := hDl k hd; omega
  · rcases he with he | he
    · exact h5 k he
    · omega
  · have := h5 k he; omega
end Go.Proofs.YtomclohfppbegaaGreatDoor
