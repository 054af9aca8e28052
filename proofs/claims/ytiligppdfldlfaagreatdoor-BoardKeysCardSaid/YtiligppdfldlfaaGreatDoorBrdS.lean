/- A board, as the statements see it. -/
import Derived.Test.YtiligppdfldlfaaGreatDoorBrdM
set_option maxRecDepth 100000
namespace Go.Proofs.YtiligppdfldlfaaGreatDoor
open Go.ChangeShapes Go.WideShapes Go.ChangeAt Go.RowKit

/-- A board at bb, all of whose own blocks are younger than the world w. -/
def BAt (w W1 W : World) (bb : Nat) (r : RulesD) (q : PlaceD) (es : List PlaceD) : Prop := (∃ D, Brd W1 D W bb r q es ∧ ∀ k, D k → w.heap.size ≤ k) ∧ Below w.heap.size w W ∧ Dir W1
theorem BAt.keep {w W1 W W' : World} {bb : Nat} {r : RulesD} {q : PlaceD} {es : List PlaceD} (h : BAt w W1 W bb r q es) (hb : Below W.heap.size W W') : BAt w W1 W' bb r q es := by
  obtain ⟨⟨D, h1, h2⟩, h3, h4⟩ := h
  exact ⟨⟨D, h1.keep hb, h2⟩, h3.trans (hb.mono h3.size), h4⟩
theorem BAt.bel {w W1 W : World} {bb : Nat} {r : RulesD} {q : PlaceD} {es : List PlaceD} (h : BAt w W1 W bb r q es) : Below w.heap.size w W := h.2.1
theorem BAt.ok {w W1 W : World} {bb : Nat} {r : RulesD} {q : PlaceD} {es : List PlaceD} (h : BAt w W1 W bb r q es) : POkay r q := by
  obtain ⟨⟨D, h1, _⟩, _⟩ := h
  exact h1.ok.1
theorem BAt.oks {w W1 W : World} {bb : Nat} {r : RulesD} {q : PlaceD} {es : List PlaceD} (h : BAt w W1 W bb r q es) : ∀ p ∈ es, POkay r p := by
  obtain ⟨⟨D, h1, _⟩, _⟩ := h
  exact h1.ok.2.1
def NewB (r : RulesD) (q : PlaceD) (w : World) (e : Ending) (w' : World) : Prop := ∃ bb W1, e = .returned (.tuple #[.pointer (some ⟨bb, 0, none⟩), .int .i64 0]) ∧ BAt w W1 w' bb r q []
theorem newB (r : RulesD) (p : PlaceD) (vp vs ve vc v0 v1 : Value) (w : World) (hr : RulesIn w r vp vs ve) (hp : PlaceIn w p vc v0 v1) (hok : POkay r p) (hT : Dir w) :
    Calls Tryz.prog 8 #[RulesV r vp vs ve, PlaceV p vc v0 v1] w (NewB r p w) :=
  (new_ok r p vp vs ve vc v0 v1 w hr hp hok).mono fun _ _ ⟨bb, W1, h1, h2, h3, h4⟩ => ⟨bb, W1, h1, ⟨_, h2, fun _ hk => hk.1⟩, h4, hT.below h3 (Nat.le_refl _)⟩
def StepB (v : Int) (w W1 : World) (bb : Nat) (r : RulesD) (q : PlaceD) (es : List PlaceD) (e : Ending) (w' : World) : Prop := e = .returned (.int .i64 v) ∧ BAt w W1 w' bb r q es
theorem BAt.result {w W1 W : World} {bb : Nat} {r : RulesD} {q : PlaceD} {es : List PlaceD} (h : BAt w W1 W bb r q es) : Calls Tryz.prog 23 #[.pointer (some ⟨bb, 0, none⟩)] W (BelPost (.int .i64 (resultD r q)) W) := by
  obtain ⟨⟨D, h1, _⟩, _, h3⟩ := h
  exact bresult h1 h3
theorem BAt.key {w W1 W : World} {bb : Nat} {r : RulesD} {q : PlaceD} {es : List PlaceD} (h : BAt w W1 W bb r q es) : Calls Tryz.prog 9 #[.pointer (some ⟨bb, 0, none⟩)] W (BelPost (.int .u64 ((keyZ q).toNat : Int)) W) := by
  obtain ⟨⟨D, h1, _⟩, _, h3⟩ := h
  exact bkey h1
theorem BAt.turn {w W1 W : World} {bb : Nat} {r : RulesD} {q : PlaceD} {es : List PlaceD} (h : BAt w W1 W bb r q es) : Calls Tryz.prog 28 #[.pointer (some ⟨bb, 0, none⟩)] W (BelPost (.int .i64 q.turn) W) := by
  obtain ⟨⟨D, h1, _⟩, _, h3⟩ := h
  exact turn_any h1
theorem BAt.len {w W1 W : World} {bb : Nat} {r : RulesD} {q : PlaceD} {es : List PlaceD} (h : BAt w W1 W bb r q es) : Calls Tryz.prog 13 #[.pointer (some ⟨bb, 0, none⟩)] W (BelPost (.int .i64 (es.length : Int)) W) := by
  obtain ⟨⟨D, h1, _⟩, _, h3⟩ := h
  exact len_any h1
theorem BAt.position {w W1 W : World} {bb : Nat} {r : RulesD} {q : PlaceD} {es : List PlaceD} (h : BAt w W1 W bb r q es) : Calls Tryz.prog 16 #[.pointer (some ⟨bb, 0, none⟩)] W (PosPost q W) := by
  obtain ⟨⟨D, h1, _⟩, _, h3⟩ := h
  exact position_any h1
theorem BAt.over {w W1 W : World} {bb : Nat} {r : RulesD} {q : PlaceD} {es : List PlaceD} (h : BAt w W1 W bb r q es) (hx : resultD r q ≠ 0) : Calls Tryz.prog 10 #[.pointer (some ⟨bb, 0, none⟩)] W (BelPost (.slice none 0 0) W) := by
  obtain ⟨⟨D, h1, _⟩, _, h3⟩ := h
  exact moves_over h1 h3 hx
theorem BAt.opn {w W1 W : World} {bb : Nat} {r : RulesD} {q : PlaceD} {es : List PlaceD} (h : BAt w W1 W bb r q es) (hx : resultD r q = 0) : Calls Tryz.prog 10 #[.pointer (some ⟨bb, 0, none⟩)] W (BMoves (allD r q) W) := by
  obtain ⟨⟨D, h1, _⟩, _, h3⟩ := h
  exact moves_open h1 h3 hx
theorem BAt.doOver {w W1 W : World} {bb : Nat} {r : RulesD} {q : PlaceD} {es : List PlaceD} (h : BAt w W1 W bb r q es) (hx : resultD r q ≠ 0) (m : MoveD) : Calls Tryz.prog 11 #[.pointer (some ⟨bb, 0, none⟩), moveV m] W (BelPost (.int .i64 14) W) := by
  obtain ⟨⟨D, h1, _⟩, _, h3⟩ := h
  exact do_over h1 h3 hx m
theorem BAt.doBad {w W1 W : World} {bb : Nat} {r : RulesD} {q : PlaceD} {es : List PlaceD} (h : BAt w W1 W bb r q es) (hx : resultD r q = 0) (m : MoveD) (hl : legalB r q m = false) : Calls Tryz.prog 11 #[.pointer (some ⟨bb, 0, none⟩), moveV m] W (BelPost (.int .i64 13) W) := by
  obtain ⟨⟨D, h1, _⟩, _, h3⟩ := h
  exact do_bad h1 h3 hx m hl
theorem BAt.doOk {w W1 W : World} {bb : Nat} {r : RulesD} {q : PlaceD} {es : List PlaceD} (h : BAt w W1 W bb r q es) (hx : resultD r q = 0) (m : MoveD) (hl : legalB r q m = true) (hn : es.length ≤ 100) : Calls Tryz.prog 11 #[.pointer (some ⟨bb, 0, none⟩), moveV m] W (StepB 0 w W1 bb r (afterD r q m) (es ++ [q])) := by
  obtain ⟨⟨D, h1, h5⟩, h2, h3⟩ := h
  refine (do_ok h1 h3 hx m hl hn).mono ?_
  rintro e w' ⟨rfl, h4, h6⟩
  refine ⟨rfl, ⟨_, h4, fun k hk => ?_⟩, h2.trans (h6.below h2.size h5), h3⟩
  rcases hk with hk | hk
  · exact h5 k hk
  · have := h2.size; omega
theorem BAt.undoNone {w W1 W : World} {bb : Nat} {r : RulesD} {q : PlaceD} {es : List PlaceD} (h : BAt w W1 W bb r q es) (he : es = []) : Calls Tryz.prog 14 #[.pointer (some ⟨bb, 0, none⟩)] W (BelPost (.int .i64 8) W) := by
  obtain ⟨⟨D, h1, _⟩, _, h3⟩ := h
  subst he
  exact undo_none h1
theorem BAt.undoOk {w W1 W : World} {bb : Nat} {r : RulesD} {q : PlaceD} {es : List PlaceD} (h : BAt w W1 W bb r q es) {fs : List PlaceD} {p : PlaceD} (he : es = fs ++ [p]) (hn : fs.length ≤ 1000) : Calls Tryz.prog 14 #[.pointer (some ⟨bb, 0, none⟩)] W (StepB 0 w W1 bb r p fs) := by
  obtain ⟨⟨D, h1, h5⟩, h2, h3⟩ := h
  subst he
  refine (undo_ok h1 hn).mono ?_
  rintro e w' ⟨rfl, h4, h6⟩
  exact ⟨rfl, ⟨D, h4, h5⟩, h2.trans (h6.below h2.size h5), h3⟩
end Go.Proofs.YtiligppdfldlfaaGreatDoor
