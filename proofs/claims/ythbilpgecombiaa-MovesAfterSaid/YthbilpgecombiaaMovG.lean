/- Moves as data: what every legal move is; that what it leads to is a valid position; that no move occurs twice. -/
import Derived.Test.YthbilpgecombiaaMovD
set_option maxRecDepth 100000
namespace Go.Proofs.Ythbilpgecombiaa
open Go.RowKit

/-- What every legal move is, whichever it is. -/
structure MoveOK (r : RulesD) (p : PlaceD) (m : MoveD) : Prop where
  t0 : 0 ≤ m.2.1
  t1 : m.2.1 < p.cells.length
  k0 : 0 ≤ m.2.2
  k1 : m.2.2 < r.pieces.length
  src : (m.1 = -1 ∧ cellI p m.2.1 = 0 ∧ 1 ≤ nth (handI p) m.2.2) ∨ (0 ≤ m.1 ∧ m.1 < p.cells.length)
theorem puts_mem {r : RulesD} {p : PlaceD} {m : MoveD} : m ∈ putsD r p ↔ m.1 = -1 ∧ m.2.1 ∈ squares p ∧ freeB r p m.2.1 = true ∧ m.2.2 ∈ kindsOf p := by
  unfold putsD
  rw [List.mem_flatMap]
  constructor
  · rintro ⟨t, h1, h2⟩
    unfold putAt at h2
    split at h2
    · rename_i hf
      obtain ⟨k, hk, rfl⟩ := List.mem_map.1 h2
      exact ⟨rfl, h1, hf, hk⟩
    · cases h2
  · rintro ⟨h1, h2, h3, h4⟩
    refine ⟨m.2.1, h2, ?_⟩
    unfold putAt
    rw [if_pos h3, List.mem_map]
    exact ⟨m.2.2, h4, by rw [← h1]⟩
theorem kindsOf_mem {p : PlaceD} {k : Int} : k ∈ kindsOf p ↔ 0 ≤ k ∧ k < (handI p).length ∧ 0 < nth (handI p) k := by
  unfold kindsOf nth
  simp only [List.mem_map, List.mem_filter, List.mem_range, decide_eq_true_eq]
  constructor
  · rintro ⟨i, ⟨h1, h2⟩, rfl⟩
    rw [Int.toNat_natCast]
    exact ⟨by omega, by omega, h2⟩
  · rintro ⟨h0, h1, h2⟩
    exact ⟨k.toNat, ⟨by omega, h2⟩, by omega⟩
theorem from_mem {r : RulesD} {p : PlaceD} {s : Int} {m : MoveD} : m ∈ fromD r p s ↔ isOfB (cellI p s) p.turn = true ∧ m.1 = s ∧ m.2.1 ∈ squares p ∧ m.2.1 ∈ tosD r p s ∧ m.2.2 = kindAtI r p.turn (kindOfI (cellI p s)) m.2.1 := by
  unfold fromD
  split
  · rename_i h
    rw [List.mem_map]
    constructor
    · rintro ⟨t, ht, rfl⟩
      rw [List.mem_filter, decide_eq_true_eq] at ht
      exact ⟨h, rfl, ht.1, ht.2, rfl⟩
    · rintro ⟨_, h1, h2, h3, h4⟩
      exact ⟨m.2.1, List.mem_filter.2 ⟨h2, decide_eq_true h3⟩, by unfold mkFrom; rw [← h4, ← h1]⟩
  · rename_i h
    constructor
    · intro h1; cases h1
    · rintro ⟨h1, _⟩; exact absurd h1 h
theorem isOf_ne {c pl : Int} (h : isOfB c pl = true) : c ≠ 0 := by
  intro e; unfold isOfB at h; rw [e] at h; simp at h
theorem kindAt_in {r : RulesD} (hz : rulesE r = 0) {pl k t : Int} (h0 : 0 ≤ k) (h1 : k < r.pieces.length) : 0 ≤ kindAtI r pl k t ∧ kindAtI r pl k t < r.pieces.length := by
  obtain ⟨g1, g2, _, _⟩ := ways_good hz h0 h1
  unfold kindAtI
  split
  · exact ⟨h0, h1⟩
  · split
    · omega
    · exact ⟨h0, h1⟩
theorem legal_ok {r : RulesD} {p : PlaceD} (h : POkay r p) {m : MoveD} (hm : legalB r p m = true) : MoveOK r p m := by
  rw [legalB_all] at hm
  unfold allD at hm
  rcases List.mem_append.1 hm with hm | hm
  · obtain ⟨h1, h2, h3, h4⟩ := puts_mem.1 hm
    rw [squares_mem] at h2
    rw [kindsOf_mem, hand_len h] at h4
    unfold freeB at h3
    rw [Bool.and_eq_true, decide_eq_true_eq] at h3
    exact ⟨h2.1, h2.2, h4.1, h4.2.1, .inl ⟨h1, h3.1, by omega⟩⟩
  · obtain ⟨s, hs, h2⟩ := List.mem_flatMap.1 hm
    obtain ⟨h3, h4, h5, _, h7⟩ := from_mem.1 h2
    rw [squares_mem] at hs h5
    have hk := kind_in h (isOf_ne h3)
    have hka := kindAt_in (pl := p.turn) (t := m.2.1) h.e hk.1 hk.2
    rw [← h7] at hka
    exact ⟨h5.1, h5.2, hka.1, hka.2, .inr (by rw [h4]; exact hs)⟩
theorem set_in {l : List Int} {i x a b : Int} (hl : ∀ c ∈ l, a ≤ c ∧ c ≤ b) (hx : a ≤ x ∧ x ≤ b) : ∀ c ∈ setI l i x, a ≤ c ∧ c ≤ b := by
  intro c hc
  unfold setI at hc
  rcases List.mem_or_eq_of_mem_set hc with h | h
  · exact hl c h
  · rw [h]; exact hx
theorem setI_length (l : List Int) (i x : Int) : (setI l i x).length = l.length := by simp [setI]
theorem handPut_in {r : RulesD} {p : PlaceD} (h : POkay r p) {m : MoveD} (hm : MoveOK r p m) : (∀ c ∈ handPut p m, 0 ≤ c ∧ c ≤ 1000) ∧ (handPut p m).length = r.pieces.length := by
  unfold handPut
  split
  · rename_i h1
    have h2 := nth_in (by omega) (hand_in h) m.2.2
    have h3 : 1 ≤ nth (handI p) m.2.2 := by
      rcases hm.src with hs | hs
      · exact hs.2.2
      · omega
    exact ⟨set_in (hand_in h) (by omega), by rw [setI_length, hand_len h]⟩
  · exact ⟨hand_in h, hand_len h⟩
theorem handD_in {r : RulesD} {p : PlaceD} (h : POkay r p) {m : MoveD} (hm : MoveOK r p m) : (∀ c ∈ handD r p m, 0 ≤ c ∧ c ≤ 1000) ∧ (handD r p m).length = r.pieces.length := by
  obtain ⟨h1, h2⟩ := handPut_in h hm
  unfold handD
  split
  · have h3 := nth_in (by omega) h1 (kindOfI (cellI p m.2.1))
    exact ⟨set_in h1 (by omega), by rw [setI_length, h2]⟩
  · exact ⟨h1, h2⟩
theorem after_ok {r : RulesD} {p : PlaceD} (h : POkay r p) {m : MoveD} (hm : MoveOK r p m) : POkay r (afterD r p m) := by
  obtain ⟨h1, h2⟩ := handD_in h hm
  have t0 := h.t0
  have t1 := h.t1
  have k0 := hm.k0
  have k1 := hm.k1
  refine ⟨h.e, ?_, ?_, ?_, ?_, ?_, ?_, ?_, ?_, ?_, ?_⟩
  · show ((cellsD p m).length : Int) = _
    unfold cellsD
    rw [setI_length]
    split
    · exact h.cl
    · rw [setI_length]; exact h.cl
  · show (if p.turn = 0 then handD r p m else p.h0).length = _
    split
    · exact h2
    · exact h.l0
  · show (if p.turn = 0 then p.h1 else handD r p m).length = _
    split
    · exact h.l1
    · exact h2
  · show ∀ c ∈ cellsD p m, _
    unfold cellsD
    refine set_in ?_ (by omega)
    split
    · exact h.cs
    · exact set_in h.cs (by omega)
  · show ∀ c ∈ (if p.turn = 0 then handD r p m else p.h0), _
    split
    · exact h1
    · exact h.n0
  · show ∀ c ∈ (if p.turn = 0 then p.h1 else handD r p m), _
    split
    · exact h.n1
    · exact h1
  · show 0 ≤ 1 - p.turn
    omega
  · show 1 - p.turn ≤ 1
    omega
  · show 0 ≤ (if m.1 = -1 ∨ cellI p m.2.1 ≠ 0 then 0 else min (p.quiet + 1) 200)
    have := h.q0
    split <;> omega
  · show (if m.1 = -1 ∨ cellI p m.2.1 ≠ 0 then 0 else min (p.quiet + 1) 200) ≤ 200
    split <;> omega

/-! ### The order of all moves -/
def ltM (x y : MoveD) : Prop := x.1 < y.1 ∨ (x.1 = y.1 ∧ (x.2.1 < y.2.1 ∨ (x.2.1 = y.2.1 ∧ x.2.2 < y.2.2)))
theorem ltM_ne {x y : MoveD} (h : ltM x y) : x ≠ y := by
  intro e; subst e
  unfold ltM at h; omega
theorem kindsOf_asc (p : PlaceD) : (kindsOf p).Pairwise (· < ·) := by
  unfold kindsOf
  rw [List.pairwise_map]
  exact (List.pairwise_lt_range.sublist List.filter_sublist).imp fun h => by omega
theorem puts_asc (r : RulesD) (p : PlaceD) : (putsD r p).Pairwise ltM := by
  unfold putsD
  rw [List.pairwise_flatMap]
  refine ⟨fun t _ => ?_, (squares_asc p).imp fun {a b} hab => ?_⟩
  · unfold putAt
    split
    · rw [List.pairwise_map]
      exact (kindsOf_asc p).imp fun h => .inr ⟨rfl, .inr ⟨rfl, h⟩⟩
    · exact List.Pairwise.nil
  · intro x hx y hy
    unfold putAt at hx hy
    split at hx
    · split at hy
      · obtain ⟨k, _, rfl⟩ := List.mem_map.1 hx
        obtain ⟨l, _, rfl⟩ := List.mem_map.1 hy
        exact .inr ⟨rfl, .inl hab⟩
      · cases hy
    · cases hx
theorem from_asc (r : RulesD) (p : PlaceD) (s : Int) : (fromD r p s).Pairwise ltM := by
  unfold fromD
  split
  · rw [List.pairwise_map]
    exact ((squares_asc p).sublist List.filter_sublist).imp fun h => .inr ⟨rfl, .inl h⟩
  · exact List.Pairwise.nil
theorem all_asc (r : RulesD) (p : PlaceD) : (allD r p).Pairwise ltM := by
  unfold allD
  rw [List.pairwise_append]
  refine ⟨puts_asc r p, ?_, fun x hx y hy => ?_⟩
  · rw [List.pairwise_flatMap]
    refine ⟨fun s _ => from_asc r p s, (squares_asc p).imp fun {a b} hab => ?_⟩
    intro x hx y hy
    have h1 := (from_mem.1 hx).2.1
    have h2 := (from_mem.1 hy).2.1
    exact .inl (by omega)
  · obtain ⟨s, hs, h2⟩ := List.mem_flatMap.1 hy
    have h3 := (puts_mem.1 hx).1
    have h4 := (from_mem.1 h2).2.1
    rw [squares_mem] at hs
    exact .inl (by omega)
theorem all_nodup (r : RulesD) (p : PlaceD) : (allD r p).Nodup := (all_asc r p).imp fun h => ltM_ne h
theorem all_next {r : RulesD} {p : PlaceD} {i : Nat} {x y : MoveD} (hx : (allD r p)[i]? = some x) (hy : (allD r p)[i + 1]? = some y) : x ≠ y := by
  obtain ⟨h1, rfl⟩ := List.getElem?_eq_some_iff.1 hx
  obtain ⟨h2, rfl⟩ := List.getElem?_eq_some_iff.1 hy
  exact ltM_ne (List.pairwise_iff_getElem.1 (all_asc r p) i (i + 1) h1 h2 (by omega))
end Go.Proofs.Ythbilpgecombiaa
