/- A board, as the statements see it. -/
import Derived.Test.YtiligppdfldlfaaGreatDoorBrdM
set_option maxRecDepth 100000
namespace Go.Proofs.YtiligppdfldlfaaGreatDoor
open Go.ChangeShapes Go.WideShapes Go.ChangeAt Go.RowKit

/-- A board at bb, all of whose own blocks are younger than the world w. -/
def BAt (w : World) (W1 : Nat → Prop) (W : World) (bb : Nat) (r : RulesD) (q : PlaceD) (es : List PlaceD) : Prop := (∃ D, Brd W1 D W bb r q es ∧ ∀ k, D k → w.heap.size ≤ k) ∧ Below w.heap.size w W
theorem BAt.keep {w W W' : World} {W1 : Nat → Prop} {bb : Nat} {r : RulesD} {q : PlaceD} {es : List PlaceD} (h : BAt w W1 W bb r q es) (hb : Below W.heap.size W W') : BAt w W1 W' bb r q es := by
  obtain ⟨⟨D, h1, h2⟩, h3⟩ := h
  exact ⟨⟨D, h1.keep hb, h2⟩, h3.trans (hb.mono h3.size)⟩
theorem BAt.bel {w W : World} {W1 : Nat → Prop} {bb : Nat} {r : RulesD} {q : PlaceD} {es : List PlaceD} (h : BAt w W1 W bb r q es) : Below w.heap.size w W := h.2
theorem BAt.ok {w W : World} {W1 : Nat → Prop} {bb : Nat} {r : RulesD} {q : PlaceD} {es : List PlaceD} (h : BAt w W1 W bb r q es) : POkay r q := by
  obtain ⟨⟨D, h1, _⟩, _⟩ := h
  exact h1.ok.1
theorem BAt.oks {w W : World} {W1 : Nat → Prop} {bb : Nat} {r : RulesD} {q : PlaceD} {es : List PlaceD} (h : BAt w W1 W bb r q es) : ∀ p ∈ es, POkay r p := by
  obtain ⟨⟨D, h1, _⟩, _⟩ := h
  exact h1.ok.2.1
def NewB (r : RulesD) (q : PlaceD) (w : World) (e : Ending) (w' : World) : Prop := ∃ bb W1, e = .returned (.tuple #[.pointer (some ⟨bb, 0, none⟩), .int .i64 0]) ∧ BAt w W1 w' bb r q []
theorem newB (r : RulesD) (p : PlaceD) (vp vs ve vc v0 v1 : Value) (w : World) (hr : RulesIn w r vp vs ve) (hp : PlaceIn w p vc v0 v1) (hok : POkay r p) (hT : Dir w) :
    Calls Tryz.prog 8 #[RulesV r vp vs ve, PlaceV p vc v0 v1] w (NewB r p w) :=
  (new_ok (fun _ => True) r p vp vs ve vc v0 v1 w hr hp hok hT (fun _ _ => trivial) (hr.1.1.mono fun _ _ _ hx => pieceIn_of hx (fun _ _ => trivial)) trivial).mono fun _ _ ⟨bb, h1, h2, h3⟩ => ⟨bb, _, h1, ⟨_, h2, fun _ hk => hk.1⟩, h3⟩
/-- The same, where one block below the call's world is written later. -/
theorem newC (tb : Nat) (r : RulesD) (p : PlaceD) (vp vs ve vc v0 v1 : Value) (w : World) (hr : RulesIn w r vp vs ve) (hp : PlaceIn w p vc v0 v1) (hok : POkay r p) (hT : Dir w) (ht : tb < w.heap.size) (hpc : IsSl (PieceIn fun k => k ≠ tb) 4 w vp r.pieces) (htd : 0 ≠ tb) :
    Calls Tryz.prog 8 #[RulesV r vp vs ve, PlaceV p vc v0 v1] w fun e w' => ∃ bb, e = .returned (.tuple #[.pointer (some ⟨bb, 0, none⟩), .int .i64 0]) ∧ BAt w (fun k => k ≠ tb) w' bb r p [] :=
  (new_ok (fun k => k ≠ tb) r p vp vs ve vc v0 v1 w hr hp hok hT (fun k hk => by omega) hpc htd).mono fun _ _ ⟨bb, h1, h2, h3⟩ => ⟨bb, h1, ⟨_, h2, fun _ hk => hk.1⟩, h3⟩
/-- A store into that block leaves the board as it was. -/
theorem BAt.off {w W : World} {tb : Nat} {bb : Nat} {r : RulesD} {q : PlaceD} {es : List PlaceD} (h : BAt w (fun k => k ≠ tb) W bb r q es) (ht : tb < w.heap.size) (W' : World) (hb : ∀ k, k ≠ tb → W'.heap[k]? = W.heap[k]?) (hs : W'.heap.size = W.heap.size) : ∃ D, Brd (fun k => k ≠ tb) D W' bb r q es ∧ ∀ k, D k → w.heap.size ≤ k := by
  obtain ⟨⟨D, h1, h2⟩, _⟩ := h
  exact ⟨D, h1.keepOn (fun k _ hk => hb k hk) (by omega) (fun k hk => hb k (by have := h2 k hk; omega)), h2⟩
def StepB (v : Int) (w : World) (W1 : Nat → Prop) (bb : Nat) (r : RulesD) (q : PlaceD) (es : List PlaceD) (e : Ending) (w' : World) : Prop := e = .returned (.int .i64 v) ∧ BAt w W1 w' bb r q es
theorem BAt.result {w W : World} {W1 : Nat → Prop} {bb : Nat} {r : RulesD} {q : PlaceD} {es : List PlaceD} (h : BAt w W1 W bb r q es) : Calls Tryz.prog 23 #[.pointer (some ⟨bb, 0, none⟩)] W (BelPost (.int .i64 (resultD r q)) W) := by
  obtain ⟨⟨D, h1, _⟩, _⟩ := h
  exact bresult h1
theorem BAt.key {w W : World} {W1 : Nat → Prop} {bb : Nat} {r : RulesD} {q : PlaceD} {es : List PlaceD} (h : BAt w W1 W bb r q es) : Calls Tryz.prog 9 #[.pointer (some ⟨bb, 0, none⟩)] W (BelPost (.int .u64 ((keyZ q).toNat : Int)) W) := by
  obtain ⟨⟨D, h1, _⟩, _⟩ := h
  exact bkey h1
theorem BAt.turn {w W : World} {W1 : Nat → Prop} {bb : Nat} {r : RulesD} {q : PlaceD} {es : List PlaceD} (h : BAt w W1 W bb r q es) : Calls Tryz.prog 28 #[.pointer (some ⟨bb, 0, none⟩)] W (BelPost (.int .i64 q.turn) W) := by
  obtain ⟨⟨D, h1, _⟩, _⟩ := h
  exact turn_any h1
theorem BAt.len {w W : World} {W1 : Nat → Prop} {bb : Nat} {r : RulesD} {q : PlaceD} {es : List PlaceD} (h : BAt w W1 W bb r q es) : Calls Tryz.prog 13 #[.pointer (some ⟨bb, 0, none⟩)] W (BelPost (.int .i64 (es.length : Int)) W) := by
  obtain ⟨⟨D, h1, _⟩, _⟩ := h
  exact len_any h1
theorem BAt.position {w W : World} {W1 : Nat → Prop} {bb : Nat} {r : RulesD} {q : PlaceD} {es : List PlaceD} (h : BAt w W1 W bb r q es) : Calls Tryz.prog 16 #[.pointer (some ⟨bb, 0, none⟩)] W (PosPost q W) := by
  obtain ⟨⟨D, h1, _⟩, _⟩ := h
  exact position_any h1
theorem BAt.over {w W : World} {W1 : Nat → Prop} {bb : Nat} {r : RulesD} {q : PlaceD} {es : List PlaceD} (h : BAt w W1 W bb r q es) (hx : resultD r q ≠ 0) : Calls Tryz.prog 10 #[.pointer (some ⟨bb, 0, none⟩)] W (BelPost (.slice none 0 0) W) := by
  obtain ⟨⟨D, h1, _⟩, _⟩ := h
  exact moves_over h1 hx
theorem BAt.opn {w W : World} {W1 : Nat → Prop} {bb : Nat} {r : RulesD} {q : PlaceD} {es : List PlaceD} (h : BAt w W1 W bb r q es) (hx : resultD r q = 0) : Calls Tryz.prog 10 #[.pointer (some ⟨bb, 0, none⟩)] W (BMoves (allD r q) W) := by
  obtain ⟨⟨D, h1, _⟩, _⟩ := h
  exact moves_open h1 hx
theorem BAt.doOver {w W : World} {W1 : Nat → Prop} {bb : Nat} {r : RulesD} {q : PlaceD} {es : List PlaceD} (h : BAt w W1 W bb r q es) (hx : resultD r q ≠ 0) (m : MoveD) : Calls Tryz.prog 11 #[.pointer (some ⟨bb, 0, none⟩), moveV m] W (BelPost (.int .i64 14) W) := by
  obtain ⟨⟨D, h1, _⟩, _⟩ := h
  exact do_over h1 hx m
theorem BAt.doBad {w W : World} {W1 : Nat → Prop} {bb : Nat} {r : RulesD} {q : PlaceD} {es : List PlaceD} (h : BAt w W1 W bb r q es) (hx : resultD r q = 0) (m : MoveD) (hl : legalB r q m = false) : Calls Tryz.prog 11 #[.pointer (some ⟨bb, 0, none⟩), moveV m] W (BelPost (.int .i64 13) W) := by
  obtain ⟨⟨D, h1, _⟩, _⟩ := h
  exact do_bad h1 hx m hl
theorem BAt.doOk {w W : World} {W1 : Nat → Prop} {bb : Nat} {r : RulesD} {q : PlaceD} {es : List PlaceD} (h : BAt w W1 W bb r q es) (hx : resultD r q = 0) (m : MoveD) (hl : legalB r q m = true) (hn : es.length ≤ 100) : Calls Tryz.prog 11 #[.pointer (some ⟨bb, 0, none⟩), moveV m] W (StepB 0 w W1 bb r (afterD r q m) (es ++ [q])) := by
  obtain ⟨⟨D, h1, h5⟩, h2⟩ := h
  refine (do_ok h1 hx m hl hn).mono ?_
  rintro e w' ⟨rfl, h4, h6⟩
  refine ⟨rfl, ⟨_, h4, fun k hk => ?_⟩, h2.trans (h6.below h2.size h5)⟩
  rcases hk with hk | hk
  · exact h5 k hk
  · have := h2.size; omega
theorem BAt.undoNone {w W : World} {W1 : Nat → Prop} {bb : Nat} {r : RulesD} {q : PlaceD} {es : List PlaceD} (h : BAt w W1 W bb r q es) (he : es = []) : Calls Tryz.prog 14 #[.pointer (some ⟨bb, 0, none⟩)] W (BelPost (.int .i64 8) W) := by
  obtain ⟨⟨D, h1, _⟩, _⟩ := h
  subst he
  exact undo_none h1
theorem BAt.undoOk {w W : World} {W1 : Nat → Prop} {bb : Nat} {r : RulesD} {q : PlaceD} {es : List PlaceD} (h : BAt w W1 W bb r q es) {fs : List PlaceD} {p : PlaceD} (he : es = fs ++ [p]) (hn : fs.length ≤ 1000) : Calls Tryz.prog 14 #[.pointer (some ⟨bb, 0, none⟩)] W (StepB 0 w W1 bb r p fs) := by
  obtain ⟨⟨D, h1, h5⟩, h2⟩ := h
  subst he
  refine (undo_ok h1 hn).mono ?_
  rintro e w' ⟨rfl, h4, h6⟩
  exact ⟨rfl, ⟨D, h4, h5⟩, h2.trans (h6.below h2.size h5)⟩
end Go.Proofs.YtiligppdfldlfaaGreatDoor
