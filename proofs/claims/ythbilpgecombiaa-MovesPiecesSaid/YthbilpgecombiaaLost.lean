/- How many pieces a legal move takes off the board, as data. -/
import Derived.Test.YthbilpgecombiaaMovG
import Derived.Lib.Slices
set_option maxRecDepth 100000
namespace Go.Proofs.Ythbilpgecombiaa
open Go.RowKit

def sumI : List Int → Int
  | [] => 0
  | x :: xs => x + sumI xs
def posI (c : Int) : Int := if 0 < c then 1 else 0
def cntI (l : List Int) : Int := sumI (l.map posI)
def piecesD (p : PlaceD) : Int := cntI p.cells + sumI p.h0 + sumI p.h1
theorem sumI_app (a b : List Int) : sumI (a ++ b) = sumI a + sumI b := by
  induction a with
  | nil => simp [sumI]
  | cons x xs ih => simp only [List.cons_append, sumI, ih]; omega
theorem sumI_take {l : List Int} {k : Nat} {x : Int} (h : l[k]? = some x) : sumI (l.take (k + 1)) = sumI (l.take k) + x := by
  obtain ⟨h1, h2⟩ := List.getElem?_eq_some_iff.1 h
  rw [List.take_add_one, h, sumI_app]
  simp [sumI]
theorem cntI_take {l : List Int} {k : Nat} {x : Int} (h : l[k]? = some x) : cntI (l.take (k + 1)) = cntI (l.take k) + posI x := by
  unfold cntI
  rw [List.map_take, List.map_take]
  exact sumI_take (by rw [List.getElem?_map, h]; rfl)
theorem sumI_set : ∀ (l : List Int) (i : Nat) (x : Int), i < l.length → sumI (l.set i x) = sumI l - l[i]?.getD 0 + x
  | [], i, x, h => by simp at h
  | y :: ys, 0, x, _ => by simp [sumI]; omega
  | y :: ys, i + 1, x, h => by
    have h1 : i < ys.length := by simpa using h
    have ih := sumI_set ys i x h1
    simp only [List.set_cons_succ, sumI, List.getElem?_cons_succ]
    omega
theorem cntI_set (l : List Int) (i : Nat) (x : Int) (h : i < l.length) : cntI (l.set i x) = cntI l - posI (l[i]?.getD 0) + posI x := by
  unfold cntI
  rw [List.map_set, sumI_set _ _ _ (by rw [List.length_map]; exact h), List.getElem?_map]
  cases hx : l[i]? with
  | none => rw [List.getElem?_eq_none_iff] at hx; omega
  | some y => rfl
theorem sumI_bound {M : Int} (hM : 0 ≤ M) : ∀ (l : List Int), (∀ c ∈ l, 0 ≤ c ∧ c ≤ M) → 0 ≤ sumI l ∧ sumI l ≤ M * l.length
  | [], _ => by simp [sumI]
  | x :: xs, h => by
    obtain ⟨a, b⟩ := sumI_bound hM xs (fun c hc => h c (List.mem_cons_of_mem _ hc))
    obtain ⟨c, d⟩ := h x List.mem_cons_self
    have e : M * ((x :: xs).length : Int) = M * xs.length + M := by
      rw [List.length_cons]; push_cast; rw [Int.mul_add, Int.mul_one]
    rw [e]
    unfold sumI
    omega
theorem foldl_max_ge : ∀ (l : List Int) (a : Int), a ≤ l.foldl max a ∧ ∀ x ∈ l, x ≤ l.foldl max a
  | [], a => by simp
  | y :: ys, a => by
    obtain ⟨h1, h2⟩ := foldl_max_ge ys (max a y)
    refine ⟨?_, fun x hx => ?_⟩
    · show a ≤ ys.foldl max (max a y); omega
    · show x ≤ ys.foldl max (max a y)
      rcases List.mem_cons.1 hx with rfl | hx
      · omega
      · exact h2 x hx
theorem foldl_max_le {M : Int} : ∀ (l : List Int) (a : Int), a ≤ M → (∀ x ∈ l, x ≤ M) → l.foldl max a ≤ M
  | [], a, h, _ => h
  | y :: ys, a, h, hl => foldl_max_le ys (max a y) (by have := hl y List.mem_cons_self; omega) (fun x hx => hl x (List.mem_cons_of_mem _ hx))
theorem maxOf_top {l : List Int} {M : Int} (hm : M ∈ l) (hl : ∀ x ∈ l, x ≤ M) : Lib.maxOf l = M := by
  unfold Lib.maxOf
  have h1 := (foldl_max_ge l (l.headD 0)).2 M hm
  have h2 := foldl_max_le (M := M) l (l.headD 0) (by
    cases l with
    | nil => cases hm
    | cons x xs => exact hl x List.mem_cons_self) hl
  omega
theorem reach_end {r : RulesD} {p : PlaceD} (dx dy take : Int) : ∀ (m : Nat) (x y t : Int), t ∈ reach r p dx dy take m x y → canEndB take (cellI p t) p.turn = true
  | 0, _, _, _, h => by simp [reach] at h
  | m + 1, x, y, t, h => by
    unfold reach at h
    split at h
    · rcases List.mem_append.1 h with h | h
      · split at h
        · rename_i hc
          rw [List.mem_singleton] at h
          subst h; exact hc
        · cases h
      · split at h
        · exact reach_end dx dy take m _ _ t h
        · cases h
    · cases h
theorem tos_end {r : RulesD} {p : PlaceD} {src t : Int} (ht : t ∈ tosD r p src) : cellI p t = 0 ∨ isOfB (cellI p t) (1 - p.turn) = true := by
  unfold tosD at ht
  obtain ⟨y, _, h⟩ := List.mem_flatMap.1 ht
  have h1 := reach_end _ _ _ _ _ _ _ h
  unfold canEndB at h1
  split at h1
  · exact .inl (by simpa using h1)
  · split at h1
    · rw [Bool.or_eq_true, decide_eq_true_eq] at h1; exact h1
    · exact .inr h1
theorem isOf_other {c pl : Int} (h : isOfB c pl = true) (h2 : isOfB c (1 - pl) = true) : False := by
  unfold isOfB at h h2
  simp only [Bool.and_eq_true, decide_eq_true_eq] at h h2
  omega
theorem pieces_after {r : RulesD} {p : PlaceD} (hk : POkay r p) (m : MoveD) : piecesD (afterD r p m) = cntI (cellsD p m) + sumI (handD r p m) + (sumI p.h0 + sumI p.h1 - sumI (handI p)) := by
  unfold piecesD afterD handI
  have h0 := hk.t0
  have h1 := hk.t1
  by_cases ht : p.turn = 0
  · simp only [if_pos ht]; omega
  · simp only [if_neg ht]; omega
theorem nth_mem {l : List Int} {i : Int} (h : i.toNat < l.length) : nth l i ∈ l := by
  unfold nth
  rw [List.getElem?_eq_getElem h]
  exact List.getElem_mem _
/-- What a legal move does to the number of pieces. -/
theorem lost_cases {r : RulesD} {p : PlaceD} {m : MoveD} (hk : POkay r p) (hl : legalB r p m = true) :
    (cellI p m.2.1 = 0 ∧ piecesD p - piecesD (afterD r p m) = 0) ∨
    (cellI p m.2.1 ≠ 0 ∧ r.keeps = false ∧ piecesD p - piecesD (afterD r p m) = 1) ∨
    (cellI p m.2.1 ≠ 0 ∧ r.keeps = true ∧ piecesD p - piecesD (afterD r p m) = 1 ∧ Lib.maxOf (handI p) = 1000) ∨
    (cellI p m.2.1 ≠ 0 ∧ r.keeps = true ∧ piecesD p - piecesD (afterD r p m) = 0) := by
  have hO := legal_ok hk hl
  rw [pieces_after hk]
  unfold piecesD
  rw [legalB_all] at hl
  unfold allD at hl
  have hkl := hand_len hk
  have ht0 := hk.t0
  rcases List.mem_append.1 hl with hm | hm
  · obtain ⟨h1, h2, h3, h4⟩ := puts_mem.1 hm
    rw [squares_mem] at h2
    rw [kindsOf_mem] at h4
    unfold freeB at h3
    rw [Bool.and_eq_true, decide_eq_true_eq] at h3
    refine .inl ⟨h3.1, ?_⟩
    have e1 : handD r p m = setI (handI p) m.2.2 (nth (handI p) m.2.2 - 1) := by
      unfold handD
      rw [if_neg (by rintro ⟨h, _⟩; exact h h3.1)]
      unfold handPut
      rw [if_pos h1]
    have e2 : cellsD p m = setI p.cells m.2.1 (2 * m.2.2 + p.turn + 1) := by
      unfold cellsD
      rw [if_pos h1]
    rw [e1, e2]
    unfold setI
    rw [sumI_set _ _ _ (by omega), cntI_set _ _ _ (by omega)]
    have e3 : p.cells[m.2.1.toNat]?.getD 0 = 0 := h3.1
    have e4 : (handI p)[m.2.2.toNat]?.getD 0 = nth (handI p) m.2.2 := rfl
    rw [e3, e4]
    have e5 : posI 0 = 0 := rfl
    have e6 : posI (2 * m.2.2 + p.turn + 1) = 1 := by unfold posI; rw [if_pos (by omega)]
    rw [e5, e6]
    omega
  · obtain ⟨s, hs, h2⟩ := List.mem_flatMap.1 hm
    obtain ⟨h3, h4, h5, h6, h7⟩ := from_mem.1 h2
    rw [squares_mem] at hs h5
    have hend := tos_end h6
    have hne : m.2.1 ≠ s := by
      intro e
      rw [e] at hend
      rcases hend with h | h
      · exact isOf_ne h3 h
      · exact isOf_other h3 h
    have hm1 : ¬ m.1 = -1 := by omega
    have hct := cell_in hk m.2.1
    have hcs := cell_in hk s
    have hs0 := isOf_ne h3
    have e1 : handPut p m = handI p := by unfold handPut; rw [if_neg hm1]
    have e2 : cntI (cellsD p m) = cntI p.cells - posI (cellI p m.2.1) := by
      unfold cellsD
      rw [if_neg hm1]
      unfold setI
      rw [cntI_set _ _ _ (by rw [List.length_set]; omega), cntI_set _ _ _ (by omega), List.getElem?_set_ne (by omega)]
      have a1 : p.cells[m.2.1.toNat]?.getD 0 = cellI p m.2.1 := rfl
      have a2 : p.cells[m.1.toNat]?.getD 0 = cellI p s := by rw [h4]; rfl
      rw [a1, a2]
      have a3 : posI (cellI p s) = 1 := by unfold posI; rw [if_pos (by omega)]
      have a4 : posI (2 * m.2.2 + p.turn + 1) = 1 := by unfold posI; rw [if_pos (by have := hO.k0; omega)]
      have a5 : posI 0 = 0 := rfl
      rw [a3, a4, a5]
      omega
    rw [e2]
    by_cases hc : cellI p m.2.1 = 0
    · refine .inl ⟨hc, ?_⟩
      have e3 : handD r p m = handI p := by
        unfold handD
        rw [if_neg (by rintro ⟨h, _⟩; exact h hc), e1]
      rw [e3, hc]
      have a5 : posI 0 = 0 := rfl
      rw [a5]
      omega
    · have a6 : posI (cellI p m.2.1) = 1 := by unfold posI; rw [if_pos (by omega)]
      rw [a6]
      cases hkp : r.keeps
      · refine .inr (.inl ⟨hc, rfl, ?_⟩)
        have e3 : handD r p m = handI p := by
          unfold handD
          rw [if_neg (by rintro ⟨_, h⟩; rw [hkp] at h; cases h), e1]
        rw [e3]
        omega
      · have e3 : handD r p m = setI (handI p) (kindOfI (cellI p m.2.1)) (min (nth (handI p) (kindOfI (cellI p m.2.1)) + 1) 1000) := by
          unfold handD
          rw [if_pos ⟨hc, hkp⟩, e1]
        have hki := kind_in hk hc
        have hlt : (kindOfI (cellI p m.2.1)).toNat < (handI p).length := by omega
        have hb := nth_in (m := 1000) (by omega) (hand_in hk) (kindOfI (cellI p m.2.1))
        have hmm := nth_mem hlt
        have e5 : sumI (handD r p m) = sumI (handI p) - nth (handI p) (kindOfI (cellI p m.2.1)) + min (nth (handI p) (kindOfI (cellI p m.2.1)) + 1) 1000 := by
          rw [e3]
          unfold setI
          exact sumI_set _ _ _ hlt
        rw [e5]
        by_cases hx : nth (handI p) (kindOfI (cellI p m.2.1)) = 1000
        · refine .inr (.inr (.inl ⟨hc, rfl, by rw [hx]; omega, ?_⟩))
          rw [hx] at hmm
          exact maxOf_top hmm fun x hx => (hand_in hk x hx).2
        · exact .inr (.inr (.inr ⟨hc, rfl, by omega⟩))
theorem quiet_case {r : RulesD} {p : PlaceD} {m : MoveD} (hk : POkay r p) (hl : legalB r p m = true) : ((m.1 < 0 ∨ cellI p m.2.1 ≠ 0) ↔ (afterD r p m).quiet = 0) := by
  have hO := legal_ok hk hl
  have hq := hk.q0
  have hm : m.1 < 0 ↔ m.1 = -1 := by
    rcases hO.src with ⟨h, _⟩ | ⟨h, _⟩ <;> omega
  unfold afterD
  rw [hm]
  dsimp only
  split
  · rename_i h; exact ⟨fun _ => rfl, fun _ => h⟩
  · rename_i h; exact ⟨fun h1 => absurd h1 h, fun h1 => by omega⟩
theorem pieces_bound {r : RulesD} {p : PlaceD} (hk : POkay r p) : 0 ≤ piecesD p ∧ piecesD p ≤ 20000 := by
  obtain ⟨_, hn⟩ := pieces_len hk.e
  have hcl : p.cells.length ≤ 64 := (cells_len hk).2
  obtain ⟨a1, a2⟩ := sumI_bound (M := 1000) (by omega) p.h0 hk.n0
  obtain ⟨b1, b2⟩ := sumI_bound (M := 1000) (by omega) p.h1 hk.n1
  obtain ⟨c1, c2⟩ := sumI_bound (M := 1) (by omega) (p.cells.map posI) (by
    intro c hc
    obtain ⟨x, _, rfl⟩ := List.mem_map.1 hc
    unfold posI; split <;> omega)
  rw [hk.l0] at a2
  rw [hk.l1] at b2
  rw [List.length_map] at c2
  unfold piecesD cntI
  omega
end Go.Proofs.Ythbilpgecombiaa
