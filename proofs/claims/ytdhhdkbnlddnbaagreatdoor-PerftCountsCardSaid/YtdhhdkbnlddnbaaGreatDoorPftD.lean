/- Sequences of moves, counted as data. -/
import Derived.Test.YtdhhdkbnlddnbaaGreatDoorEndA
set_option maxRecDepth 100000
namespace Go.Proofs.YtdhhdkbnlddnbaaGreatDoor
open Go.ChangeShapes Go.WideShapes Go.ChangeAt Go.RowKit

/-- The moves that can be made on a board with this position. -/
def stepsD (r : RulesD) (p : PlaceD) : List MoveD := if resultD r p = 0 then allD r p else []
/-- Sequences with exactly so many moves. -/
def cntD (r : RulesD) : Nat → PlaceD → Nat
  | 0, _ => 1
  | d + 1, p => ((stepsD r p).map fun m => cntD r d (afterD r p m)).sum
/-- Sequences with at most so many moves. -/
def treD (r : RulesD) : Nat → PlaceD → Nat
  | 0, _ => 1
  | d + 1, p => 1 + ((stepsD r p).map fun m => treD r d (afterD r p m)).sum
/-- The parts of the sequences, by their first moves. -/
def partsD (r : RulesD) (d : Nat) (p : PlaceD) : List (MoveD × Nat) := (stepsD r p).map fun m => (m, cntD r d (afterD r p m))
def sumP (xs : List (MoveD × Nat)) : Nat := (xs.map fun x => x.2).sum

theorem sumP_parts (r : RulesD) (d : Nat) (p : PlaceD) : sumP (partsD r d p) = cntD r (d + 1) p := by
  rw [sumP, partsD, cntD, List.map_map]; rfl
theorem steps_legal {r : RulesD} {p : PlaceD} {m : MoveD} (h : m ∈ stepsD r p) : resultD r p = 0 ∧ legalB r p m = true := by
  unfold stepsD at h
  split at h
  · rename_i hz; exact ⟨hz, legalB_all.2 h⟩
  · cases h
theorem steps_okay {r : RulesD} {p : PlaceD} (hk : POkay r p) {m : MoveD} (h : m ∈ stepsD r p) : POkay r (afterD r p m) := after_ok hk (legal_ok hk (steps_legal h).2)
theorem steps_length {r : RulesD} {p : PlaceD} (hk : POkay r p) : (stepsD r p).length ≤ 5000 := by
  unfold stepsD
  split
  · exact allD_length hk
  · simp
theorem sum_two {α : Type} (l : List α) (f g : α → Nat) : (l.map fun x => f x + g x).sum = (l.map f).sum + (l.map g).sum := by
  induction l with
  | nil => rfl
  | cons a l ih => simp only [List.map_cons, List.sum_cons, ih]; omega
theorem sum_zero {α : Type} (l : List α) : (l.map fun _ => 0).sum = 0 := by
  induction l with
  | nil => rfl
  | cons a l ih => simp only [List.map_cons, List.sum_cons, ih]
theorem sum_swap {α β : Type} (l : List α) (k : List β) (f : α → β → Nat) : (l.map fun x => (k.map fun y => f x y).sum).sum = (k.map fun y => (l.map fun x => f x y).sum).sum := by
  induction l with
  | nil => simp only [List.map_nil, List.sum_nil]; exact (sum_zero k).symm
  | cons a l ih => simp only [List.map_cons, List.sum_cons, ih, sum_two]
theorem sum_le {α : Type} (l : List α) (f g : α → Nat) (h : ∀ x ∈ l, f x ≤ g x) : (l.map f).sum ≤ (l.map g).sum := by
  induction l with
  | nil => exact Nat.le_refl _
  | cons a l ih =>
    simp only [List.map_cons, List.sum_cons]
    have h1 := h a (by simp)
    have h2 := ih (fun x hx => h x (by simp [hx]))
    omega
theorem sum_mem {α : Type} (l : List α) (f : α → Nat) {x : α} (h : x ∈ l) : f x ≤ (l.map f).sum := by
  induction l with
  | nil => cases h
  | cons a l ih =>
    simp only [List.map_cons, List.sum_cons]
    rcases List.mem_cons.1 h with rfl | h
    · omega
    · have := ih h; omega
theorem tre_pos (r : RulesD) (d : Nat) (p : PlaceD) : 1 ≤ treD r d p := by
  cases d with
  | zero => exact Nat.le_refl _
  | succ d => rw [treD]; omega
/-- The tree has the sequences of all depths. -/
theorem tre_sum (r : RulesD) : ∀ (d : Nat) (p : PlaceD), treD r d p = ((List.range (d + 1)).map fun i => cntD r i p).sum
  | 0, _ => rfl
  | d + 1, p => by
    rw [treD, List.range_succ_eq_map, List.map_cons, List.sum_cons, List.map_map]
    have h1 : (fun m => treD r d (afterD r p m)) = fun m => ((List.range (d + 1)).map fun i => cntD r i (afterD r p m)).sum := funext fun m => tre_sum r d _
    rw [h1, sum_swap]
    rfl
theorem cnt_tre (r : RulesD) : ∀ (i d : Nat) (p : PlaceD), i ≤ d → cntD r i p ≤ treD r d p
  | 0, d, p, _ => tre_pos r d p
  | i + 1, 0, _, h => by omega
  | i + 1, d + 1, p, h => by
    rw [cntD, treD]
    have := sum_le (stepsD r p) (fun m => cntD r i (afterD r p m)) (fun m => treD r d (afterD r p m)) (fun m _ => cnt_tre r i d _ (by omega))
    omega
theorem tre_mono (r : RulesD) : ∀ (i d : Nat) (p : PlaceD), i ≤ d → treD r i p ≤ treD r d p
  | 0, d, p, _ => tre_pos r d p
  | i + 1, 0, _, h => by omega
  | i + 1, d + 1, p, h => by
    rw [treD, treD]
    have := sum_le (stepsD r p) (fun m => treD r i (afterD r p m)) (fun m => treD r d (afterD r p m)) (fun m _ => tre_mono r i d _ (by omega))
    omega
theorem tre_after {r : RulesD} {d : Nat} {p : PlaceD} {m : MoveD} (h : m ∈ stepsD r p) : treD r d (afterD r p m) + 1 ≤ treD r (d + 1) p := by
  rw [treD]
  have := sum_mem (stepsD r p) (fun m => treD r d (afterD r p m)) h
  omega
/-- What the search has come to: from t to u where the truth is t + T - 1, or too far. -/
def Went (t u T : Nat) : Prop := t ≤ u ∧ u + 1 ≤ t + T ∧ (u ≤ 50000 → u + 1 = t + T) ∧ u ≤ 55000
theorem Went.refl (t : Nat) (h : t ≤ 55000) : Went t t 1 := ⟨Nat.le_refl _, Nat.le_refl _, fun _ => rfl, h⟩
theorem Went.far {t T : Nat} (h : 50000 < t) (h2 : t ≤ 55000) (hT : 1 ≤ T) : Went t t T := ⟨Nat.le_refl _, by omega, fun h3 => by omega, h2⟩
/-- The moves that the loop has been through. -/
def treTo (r : RulesD) (d : Nat) (p : PlaceD) (k : Nat) : Nat := (((stepsD r p).take k).map fun m => treD r d (afterD r p m)).sum
theorem treTo_succ {r : RulesD} {d : Nat} {p : PlaceD} {k : Nat} {m : MoveD} (h : (stepsD r p)[k]? = some m) : treTo r d p (k + 1) = treTo r d p k + treD r d (afterD r p m) := by
  rw [treTo, List.take_add_one, h]
  simp [treTo]
theorem treTo_all (r : RulesD) (d : Nat) (p : PlaceD) : 1 + treTo r d p (stepsD r p).length = treD r (d + 1) p := by
  rw [treTo, List.take_length, treD]
/-- The loop's state behind k moves: the tree u, the parts xs. -/
structure Upto (r : RulesD) (d : Nat) (p : PlaceD) (t k u : Nat) (xs : List (MoveD × Nat)) : Prop where
  low : t + (stepsD r p).length ≤ u
  high : u + k ≤ t + (stepsD r p).length + treTo r d p k
  same : u ≤ 50000 → u + k = t + (stepsD r p).length + treTo r d p k ∧ xs = (partsD r d p).take k
  most : u ≤ 55000
  fst : xs.map (fun x => x.1) = (stepsD r p).take k
  sum : sumP xs + t + (stepsD r p).length ≤ u + k
theorem Upto.zero {r : RulesD} {d : Nat} {p : PlaceD} {t : Nat} (hk : POkay r p) (ht : t ≤ 50000) : Upto r d p t 0 (t + (stepsD r p).length) [] :=
  ⟨Nat.le_refl _, by simp [treTo], fun _ => ⟨by simp [treTo], by simp⟩, by have := steps_length hk; omega, by simp, by simp [sumP]⟩
theorem Upto.next {r : RulesD} {d : Nat} {p : PlaceD} {t k u v z : Nat} {xs : List (MoveD × Nat)} {m : MoveD} (h : Upto r d p t k u xs) (hm : (stepsD r p)[k]? = some m) (hw : Went u v (treD r d (afterD r p m))) (hz : v ≤ 50000 → z = cntD r d (afterD r p m)) (hs : z + u ≤ v + 1) : Upto r d p t (k + 1) v (xs ++ [(m, z)]) := by
  obtain ⟨h1, h2, h3, h4, h5, h6⟩ := h
  obtain ⟨w1, w2, w3, w4⟩ := hw
  have ht := treTo_succ (d := d) hm
  refine ⟨by omega, by omega, fun hv => ⟨?_, ?_⟩, w4, ?_, ?_⟩
  · have e1 := w3 hv
    have e2 := (h3 (by omega)).1
    omega
  · rw [(h3 (by omega)).2, hz hv, List.take_add_one]
    congr 1
    simp [partsD, hm]
  · rw [List.map_append, h5, List.take_add_one, hm]; rfl
  · simp [sumP] at h6 ⊢; omega
theorem Upto.done {r : RulesD} {d : Nat} {p : PlaceD} {t u : Nat} {xs : List (MoveD × Nat)} (h : Upto r d p t (stepsD r p).length u xs) : Went t u (treD r (d + 1) p) ∧ (u ≤ 50000 → xs = partsD r d p) ∧ xs.map (fun x => x.1) = stepsD r p ∧ sumP xs + t ≤ u := by
  obtain ⟨h1, h2, h3, h4, h5, h6⟩ := h
  have ht := treTo_all r d p
  refine ⟨⟨by omega, by omega, fun hv => ?_, h4⟩, fun hv => ?_, ?_, by omega⟩
  · have := (h3 hv).1; omega
  · rw [(h3 hv).2]
    exact List.take_of_length_le (by simp [partsD])
  · rw [h5, List.take_length]
end Go.Proofs.YtdhhdkbnlddnbaaGreatDoor
