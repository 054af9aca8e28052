/- Games by the rules alone, as data: moves that are played one behind the other. -/
import Derived.Test.YtomclohfppbegaaGreatDoorSamA
import Derived.Test.YtomclohfppbegaaGreatDoorEndA
import Derived.Test.YtomclohfppbegaaGreatDoorPBegin
set_option maxRecDepth 100000
namespace Go.Proofs.YtomclohfppbegaaGreatDoor
open Go.ChangeShapes Go.WideShapes Go.ChangeAt Go.RowKit

/-- How many times the present position has occurred. -/
def countG (q : PlaceD) (es : List PlaceD) : Nat := (es.filter fun p => sameB p q).length + 1
/-- The result of a game. -/
def resG (r : RulesD) (q : PlaceD) (es : List PlaceD) : Int := if resultD r q = 0 ∧ r.rep ≠ 0 ∧ r.rep ≤ (countG q es : Int) then 3 else resultD r q
theorem countG_le (q : PlaceD) (es : List PlaceD) : 1 ≤ countG q es ∧ countG q es ≤ es.length + 1 := by
  have := List.length_filter_le (fun p => sameB p q) es
  unfold countG
  omega
theorem resG_open {r : RulesD} {q : PlaceD} {es : List PlaceD} (h : resG r q es = 0) : resultD r q = 0 := by
  unfold resG at h
  split at h
  · cases h
  · exact h
theorem resG_over {r : RulesD} {q : PlaceD} {es : List PlaceD} (h : resultD r q ≠ 0) : resG r q es ≠ 0 := fun e => h (resG_open e)
/-- A move that is played. -/
def stepG (r : RulesD) (s : PlaceD × List PlaceD) (m : MoveD) : Option (PlaceD × List PlaceD) := if resG r s.1 s.2 = 0 ∧ legalB r s.1 m = true then some (afterD r s.1 m, s.2 ++ [s.1]) else none
def runG (r : RulesD) : PlaceD × List PlaceD → List MoveD → Option (PlaceD × List PlaceD)
  | s, [] => some s
  | s, m :: ms => (stepG r s m).bind fun t => runG r t ms
/-- The error of the first move that can't be played. -/
def errG (r : RulesD) : PlaceD × List PlaceD → List MoveD → Int
  | _, [] => 0
  | s, m :: ms => if resG r s.1 s.2 ≠ 0 then 14 else if legalB r s.1 m = true then errG r (afterD r s.1 m, s.2 ++ [s.1]) ms else 13
theorem runG_app (r : RulesD) (a : List MoveD) : ∀ (s : PlaceD × List PlaceD) (b : List MoveD), runG r s (a ++ b) = (runG r s a).bind fun t => runG r t b := by
  induction a with
  | nil => intro s b; rfl
  | cons m a ih =>
    intro s b
    simp only [List.cons_append, runG]
    cases stepG r s m with
    | none => rfl
    | some t => exact ih t b
theorem stepG_some {r : RulesD} {s t : PlaceD × List PlaceD} {m : MoveD} (h : stepG r s m = some t) : resG r s.1 s.2 = 0 ∧ legalB r s.1 m = true ∧ t = (afterD r s.1 m, s.2 ++ [s.1]) := by
  unfold stepG at h
  split at h
  · rename_i h1
    exact ⟨h1.1, h1.2, (Option.some.inj h).symm⟩
  · cases h
/-- The game that these moves have made from the beginning. -/
def Chain (r : RulesD) (q : PlaceD) (es : List PlaceD) (ms : List MoveD) : Prop := runG r (beginD r, []) ms = some (q, es)
theorem Chain.zero (r : RulesD) : Chain r (beginD r) [] [] := rfl
theorem Chain.snoc {r : RulesD} {q : PlaceD} {es : List PlaceD} {ms : List MoveD} (h : Chain r q es ms) {m : MoveD} (h1 : resG r q es = 0) (h2 : legalB r q m = true) : Chain r (afterD r q m) (es ++ [q]) (ms ++ [m]) := by
  unfold Chain at h ⊢
  rw [runG_app, h]
  show (stepG r (q, es) m).bind _ = _
  rw [stepG, if_pos ⟨h1, h2⟩]
  rfl
theorem Chain.unsnoc {r : RulesD} {q : PlaceD} {es : List PlaceD} {ms : List MoveD} {m : MoveD} (h : Chain r q es (ms ++ [m])) : ∃ q0 es0, Chain r q0 es0 ms ∧ resG r q0 es0 = 0 ∧ legalB r q0 m = true ∧ q = afterD r q0 m ∧ es = es0 ++ [q0] := by
  unfold Chain at h
  rw [runG_app] at h
  obtain ⟨⟨q0, es0⟩, h1, h2⟩ := Option.bind_eq_some_iff.1 h
  obtain ⟨t, h3, h4⟩ := Option.bind_eq_some_iff.1 (show (stepG r (q0, es0) m).bind (fun t => runG r t []) = some (q, es) from h2)
  obtain ⟨h5, h6, rfl⟩ := stepG_some h3
  obtain ⟨h7, h8⟩ := Prod.mk.inj (Option.some.inj h4)
  exact ⟨q0, es0, h1, h5, h6, h7.symm, h8.symm⟩
theorem Chain.fn {r : RulesD} {q q' : PlaceD} {es es' : List PlaceD} {ms : List MoveD} (h : Chain r q es ms) (h' : Chain r q' es' ms) : q = q' ∧ es = es' := by
  unfold Chain at h h'
  rw [h] at h'
  exact Prod.mk.inj (Option.some.inj h')
theorem snoc_ind {α : Type} {P : List α → Prop} (h0 : P []) (hs : ∀ l a, P l → P (l ++ [a])) (l : List α) : P l := by
  have h : ∀ l : List α, P l.reverse := fun l => by
    induction l with
    | nil => exact h0
    | cons a l ih => rw [List.reverse_cons]; exact hs _ _ ih
  have h2 := h l.reverse
  rwa [List.reverse_reverse] at h2
theorem Chain.len {r : RulesD} {ms : List MoveD} : ∀ {q : PlaceD} {es : List PlaceD}, Chain r q es ms → es.length = ms.length := by
  refine snoc_ind (P := fun ms => ∀ {q : PlaceD} {es : List PlaceD}, Chain r q es ms → es.length = ms.length) ?_ (fun ms m ih => ?_) ms
  · intro q es h
    obtain ⟨_, h2⟩ := Prod.mk.inj (Option.some.inj h)
    rw [← h2]; rfl
  · intro q es h
    obtain ⟨q0, es0, h1, _, _, _, rfl⟩ := h.unsnoc
    simp [ih h1]
/-- What a game was like before its last move. -/
theorem Chain.back {r : RulesD} {q p : PlaceD} {es : List PlaceD} {ms : List MoveD} (h : Chain r q (es ++ [p]) ms) : ∃ ns m, ms = ns ++ [m] ∧ Chain r p es ns := by
  have hl := h.len
  rcases List.eq_nil_or_concat ms with rfl | ⟨ns, m, rfl⟩
  · simp at hl
  · rw [List.concat_eq_append] at h ⊢
    obtain ⟨q0, es0, h1, _, _, _, h5⟩ := h.unsnoc
    obtain ⟨rfl, h6⟩ := List.append_inj' h5 rfl
    obtain rfl : p = q0 := by simpa using h6
    exact ⟨ns, m, rfl, h1⟩
/-- A game up to any of its moves, and the move that comes next. -/
theorem Chain.upto {r : RulesD} {q : PlaceD} {es : List PlaceD} {ms : List MoveD} (h : Chain r q es ms) (k : Nat) : ∃ q' es', Chain r q' es' (ms.take k) := by
  have h1 : runG r (beginD r, []) (ms.take k ++ ms.drop k) = some (q, es) := by rw [List.take_append_drop]; exact h
  rw [runG_app] at h1
  obtain ⟨⟨q', es'⟩, h2, _⟩ := Option.bind_eq_some_iff.1 h1
  exact ⟨q', es', h2⟩
theorem Chain.next {r : RulesD} {q q' : PlaceD} {es es' : List PlaceD} {ms : List MoveD} {k : Nat} {m : MoveD} (h : Chain r q es ms) (h' : Chain r q' es' (ms.take k)) (hm : ms[k]? = some m) : resG r q' es' = 0 ∧ legalB r q' m = true ∧ Chain r (afterD r q' m) (es' ++ [q']) (ms.take (k + 1)) := by
  obtain ⟨q1, es1, h1⟩ := h.upto (k + 1)
  have ht : ms.take (k + 1) = ms.take k ++ [m] := by rw [List.take_add_one, hm]; rfl
  rw [ht] at h1 ⊢
  obtain ⟨q0, es0, h2, h3, h4, _, _⟩ := h1.unsnoc
  obtain ⟨rfl, rfl⟩ := h2.fn h'
  exact ⟨h3, h4, h'.snoc h3 h4⟩
theorem Chain.ok {r : RulesD} (hz : rulesE r = 0) {ms : List MoveD} : ∀ {q : PlaceD} {es : List PlaceD}, Chain r q es ms → POkay r q ∧ ∀ p ∈ es, POkay r p := by
  refine snoc_ind (P := fun ms => ∀ {q : PlaceD} {es : List PlaceD}, Chain r q es ms → POkay r q ∧ ∀ p ∈ es, POkay r p) ?_ (fun ms m ih => ?_) ms
  · intro q es h
    obtain ⟨h1, h2⟩ := Prod.mk.inj (Option.some.inj h)
    subst h1 h2
    exact ⟨beginD_ok hz, fun _ h => by cases h⟩
  · intro q es h
    obtain ⟨q0, es0, h1, _, h3, rfl, rfl⟩ := h.unsnoc
    obtain ⟨h4, h5⟩ := ih h1
    exact ⟨after_ok h4 (legal_ok h4 h3), fun p hp => by
      rcases List.mem_append.1 hp with h6 | h6
      · exact h5 p h6
      · rw [List.mem_singleton.1 h6]; exact h4⟩
end Go.Proofs.YtomclohfppbegaaGreatDoor
