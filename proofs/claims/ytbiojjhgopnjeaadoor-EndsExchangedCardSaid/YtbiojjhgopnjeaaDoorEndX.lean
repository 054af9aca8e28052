/- The result of the position in which the players are exchanged is the exchanged result. No walk in it. -/
import Derived.Test.YtbiojjhgopnjeaaDoorEndA
import Derived.Test.YtbiojjhgopnjeaaDoorExch
set_option maxRecDepth 100000
namespace Go.Proofs.YtbiojjhgopnjeaaDoor
open Go.RowKit

theorem mine_turn {r : RulesD} {p : PlaceD} (h : POkay r p) (pl x y : Int) : mineAt r (otherD r p) (1 - pl) x (r.height - 1 - y) = mineAt r p pl x y := by
  unfold mineAt
  rw [onB_turn]
  cases hb : onB r x y
  · rfl
  · obtain ⟨⟨x0, x1⟩, y0, y1⟩ := onB_in hb
    obtain ⟨s0, s1⟩ := sq_in h hb
    rw [← turn_xy x0 x1 y0, cell_turn h s0 s1, isOf_turn (cell_in h _).1]
theorem along_turn {r : RulesD} {p : PlaceD} (h : POkay r p) {pl x y dx dy : Int} {c : Nat} (ha : alongB r p pl x y dx dy c = true) : alongB r (otherD r p) (1 - pl) x (r.height - 1 - y) dx (-dy) c = true := by
  rw [along_iff] at ha ⊢
  intro i hi
  have h1 := ha i hi
  rw [← mine_turn h] at h1
  rw [show r.height - 1 - y + (i : Int) * -dy = r.height - 1 - (y + (i : Int) * dy) by rw [Int.mul_neg]; omega]
  exact h1
theorem dirs_turn {d : Int × Int} (hd : d ∈ lineDirs) : (d.1, -d.2) ∈ lineDirs ∨ (-d.1, - -d.2) ∈ lineDirs := by
  have hd' : d = (-1, 0) ∨ d = (0, -1) ∨ d = (-1, -1) ∨ d = (1, -1) := by simpa [lineDirs] using hd
  rcases hd' with rfl | rfl | rfl | rfl <;> simp [lineDirs]
theorem line_le {r : RulesD} {p : PlaceD} (h : POkay r p) {pl : Int} {c : Nat} (hc : 1 ≤ c) (hl : linePl r p pl c = true) : linePl r (otherD r p) (1 - pl) c = true := by
  obtain ⟨_, hw, hh, _⟩ := rulesE_ok h.e
  rw [inB_iff] at hw hh
  obtain ⟨x, y, d, hd, ha⟩ := (line_iff hw.2 hh.2 hc).1 hl
  exact line_any hw.2 hh.2 hc (dirs_turn hd) (along_turn h ha)
theorem line_turn {r : RulesD} {p : PlaceD} (h : POkay r p) {pl : Int} {c : Nat} (hc : 1 ≤ c) : linePl r (otherD r p) (1 - pl) c = linePl r p pl c := by
  rw [Bool.eq_iff_iff]
  constructor
  · intro hl
    have h1 := line_le (otherD_same h) hc hl
    rw [otherD_twice h, show 1 - (1 - pl) = pl by omega] at h1
    exact h1
  · exact line_le h hc
theorem exch_val {k pl : Int} (h0 : 0 ≤ k) (p0 : 0 ≤ pl) (p1 : pl ≤ 1) : exch (2 * k + pl + 1) = 2 * k + (1 - pl) + 1 := by
  unfold exch
  repeat' split
  all_goals omega
theorem last_turn {r : RulesD} {p : PlaceD} (h : POkay r p) {pl : Int} (p0 : 0 ≤ pl) (p1 : pl ≤ 1) {s : Int} (s0 : 0 ≤ s) (s1 : s < p.cells.length) (hl : s / r.width = lastRowI r pl) : turnI r s / r.width = lastRowI r (1 - pl) := by
  rw [turn_div h s0 s1]
  unfold lastRowI at hl ⊢
  by_cases e : pl = 1
  · rw [if_pos e] at hl; rw [if_neg (by omega)]; omega
  · rw [if_neg e] at hl; rw [if_pos (by omega)]; omega
theorem reach_le {r : RulesD} {p : PlaceD} (h : POkay r p) {pl k : Int} (h0 : 0 ≤ k) (p0 : 0 ≤ pl) (p1 : pl ≤ 1) (hr : reachB r p pl k = true) : reachB r (otherD r p) (1 - pl) k = true := by
  obtain ⟨s, ⟨s0, s1⟩, h1, h2⟩ := reach_iff.1 hr
  refine reach_iff.2 ⟨turnI r s, ?_, ?_, last_turn h p0 p1 s0 s1 h2⟩
  · rw [other_len h]; exact turn_in h s0 s1
  · rw [cell_turn h s0 s1, h1, exch_val h0 p0 p1]
theorem reachB_turn {r : RulesD} {p : PlaceD} (h : POkay r p) {pl k : Int} (h0 : 0 ≤ k) (p0 : 0 ≤ pl) (p1 : pl ≤ 1) : reachB r (otherD r p) (1 - pl) k = reachB r p pl k := by
  rw [Bool.eq_iff_iff]
  constructor
  · intro hl
    have h1 := reach_le (otherD_same h) h0 (by omega) (by omega) hl
    rw [otherD_twice h, show 1 - (1 - pl) = pl by omega] at h1
    exact h1
  · exact reach_le h h0 p0 p1
theorem few_le {r : RulesD} {p : PlaceD} (h : POkay r p) (v : Int) : fewN p v ≤ fewN (otherD r p) (exch v) := by
  unfold fewN
  have hn : (((squares p).filter fun s => decide (cellI p s = v)).map (turnI r)).Nodup := by
    have hs : ((squares p).filter fun s => decide (cellI p s = v)).Nodup := ((squares_asc p).sublist List.filter_sublist).imp fun h => by omega
    unfold List.Nodup at hs ⊢
    rw [List.pairwise_map]
    refine hs.imp_of_mem ?_
    intro a b ha hb hab e
    have ha' := squares_mem.1 (List.mem_filter.1 ha).1
    have hb' := squares_mem.1 (List.mem_filter.1 hb).1
    apply hab
    rw [← turn_turn h ha'.1 ha'.2, ← turn_turn h hb'.1 hb'.2, e]
  have h2 := length_sub _ ((squares (otherD r p)).filter fun s => decide (cellI (otherD r p) s = exch v)) hn (fun x hx => by
    obtain ⟨s, hs, rfl⟩ := List.mem_map.1 hx
    rw [List.mem_filter, decide_eq_true_eq] at hs ⊢
    have hs' := squares_mem.1 hs.1
    rw [other_squares h, squares_mem, cell_turn h hs'.1 hs'.2, hs.2]
    exact ⟨turn_in h hs'.1 hs'.2, rfl⟩)
  rwa [List.length_map] at h2
theorem few_turn {r : RulesD} {p : PlaceD} (h : POkay r p) {k pl : Int} (h0 : 0 ≤ k) (p0 : 0 ≤ pl) (p1 : pl ≤ 1) : fewN (otherD r p) (2 * k + (1 - pl) + 1) = fewN p (2 * k + pl + 1) := by
  have h1 := few_le h (2 * k + pl + 1)
  rw [exch_val h0 p0 p1] at h1
  have h2 := few_le (otherD_same h) (2 * k + (1 - pl) + 1)
  rw [otherD_twice h, exch_val h0 (by omega) (by omega), show 1 - (1 - pl) = pl by omega] at h2
  omega
/-- What a good condition is. -/
theorem end_facts {x : EndD} {n : Nat} (h : endE x n = 0) : (x.kind = 0 ∧ 1 ≤ x.count ∧ x.count ≤ 64) ∨ (x.kind = 1 ∧ 0 ≤ x.piece) ∨ (x.kind = 2 ∧ 0 ≤ x.piece) := by
  have hk : inB x.kind 0 2 = true := by
    cases hz : inB x.kind 0 2
    · exact absurd h (by rw [endE, if_pos hz]; decide)
    · rfl
  rw [endE, if_neg (by rw [hk]; decide)] at h
  rw [inB_iff] at hk
  by_cases hc : ((if x.kind = 1 then decide (x.count = 0) else inB x.count 1 64) && (if x.kind = 0 then decide (x.piece = 0) else inB x.piece 0 ((n : Int) - 1))) = true
  · rw [Bool.and_eq_true] at hc
    obtain ⟨c1, c2⟩ := hc
    obtain e | e | e : x.kind = 0 ∨ x.kind = 1 ∨ x.kind = 2 := by omega
    · rw [if_neg (by omega), inB_iff] at c1; exact .inl ⟨e, c1⟩
    · rw [if_neg (by omega), inB_iff] at c2; exact .inr (.inl ⟨e, c2.1⟩)
    · rw [if_neg (by omega), inB_iff] at c2; exact .inr (.inr ⟨e, c2.1⟩)
  · rw [if_neg hc] at h; cases h
theorem endsGo_all {n : Nat} : ∀ {l : List EndD}, endsGo l n = 0 → ∀ x ∈ l, endE x n = 0
  | [], _, x, hx => by cases hx
  | y :: l, h, x, hx => by
    unfold endsGo at h
    split at h
    · rename_i h1
      rcases List.mem_cons.1 hx with rfl | hx
      · exact h1
      · exact endsGo_all h x hx
    · rename_i h1; exact absurd h h1
theorem ends_good {r : RulesD} (h : rulesE r = 0) {x : EndD} (hx : x ∈ r.ends) : (x.kind = 0 ∧ 1 ≤ x.count ∧ x.count ≤ 64) ∨ (x.kind = 1 ∧ 0 ≤ x.piece) ∨ (x.kind = 2 ∧ 0 ≤ x.piece) := by
  obtain ⟨_, _, _, _, _, he, _⟩ := rulesE_ok h
  unfold endsE at he
  split at he
  · cases he
  · exact end_facts (endsGo_all he x hx)
theorem met_turn {r : RulesD} {p : PlaceD} (h : POkay r p) {e : EndD} (he : e ∈ r.ends) : metB r (otherD r p) e = metB r p e := by
  have t0 := h.t0
  have t1 := h.t1
  unfold metB
  show (if e.kind = 0 then linePl r (otherD r p) (1 - (1 - p.turn)) e.count.toNat else if e.kind = 1 then reachB r (otherD r p) (1 - (1 - p.turn)) e.piece else decide ((fewN (otherD r p) (2 * e.piece + (1 - p.turn) + 1) : Int) < e.count)) = _
  rcases ends_good h.e he with ⟨k, c1, c2⟩ | ⟨k, q⟩ | ⟨k, q⟩
  · rw [if_pos k, if_pos k, line_turn h (pl := 1 - p.turn) (by omega)]
  · rw [if_neg (by omega), if_pos k, if_neg (by omega), if_pos k, reachB_turn h (pl := 1 - p.turn) q (by omega) (by omega)]
  · rw [if_neg (by omega), if_neg (by omega), if_neg (by omega), if_neg (by omega), few_turn h q t0 t1]
/-- A result with the players exchanged. -/
def swapR (x : Int) : Int := if x = 1 then 2 else if x = 2 then 1 else x
theorem swap_12 {x : Int} (h : x = 1 ∨ x = 2) : swapR x = 3 - x := by
  rcases h with rfl | rfl <;> rfl
theorem ends_turn {r : RulesD} {p : PlaceD} (h : POkay r p) : ∀ l : List EndD, (∀ e ∈ l, e ∈ r.ends) → endsR r (otherD r p) l = swapR (endsR r p l)
  | [], _ => rfl
  | e :: l, hl => by
    have t0 := h.t0
    have t1 := h.t1
    unfold endsR
    rw [met_turn h (hl e List.mem_cons_self)]
    split
    · have hw := wins_in h e
      rw [swap_12 hw]
      show (if e.loses = true then 1 + (1 - p.turn) else 1 + (1 - (1 - p.turn))) = 3 - winsI p e
      unfold winsI
      split <;> omega
    · exact ends_turn h l fun x hx => hl x (List.mem_cons_of_mem _ hx)
theorem swap_zero {x : Int} : swapR x = 0 ↔ x = 0 := by
  unfold swapR
  repeat' split
  all_goals omega
theorem result_ends {r : RulesD} {p : PlaceD} (h : endsR r p r.ends ≠ 0) : resultD r p = endsR r p r.ends := by rw [resultD, if_pos h]
theorem result_none {r : RulesD} {p : PlaceD} (h : endsR r p r.ends = 0) : resultD r p = if calmB r p = true then 3 else if allD r p ≠ [] then 0 else stuckI r p := by rw [resultD, if_neg (by simpa using h)]
/-- Without Falls, the result of the exchanged position is the exchanged result. -/
theorem result_turn {r : RulesD} {p : PlaceD} (h : POkay r p) (hf : r.falls = false) : resultD r (otherD r p) = swapR (resultD r p) := by
  have t0 := h.t0
  have t1 := h.t1
  have he := ends_turn h r.ends fun _ h => h
  have hl := turned_length h hf
  have ha : allD r (otherD r p) ≠ [] ↔ allD r p ≠ [] := by
    rw [← List.length_pos_iff, ← List.length_pos_iff, hl]
  by_cases h1 : endsR r p r.ends = 0
  · rw [result_none h1, result_none (by rw [he, h1]; rfl)]
    show (if calmB r p = true then 3 else _) = _
    by_cases h3 : calmB r p = true
    · rw [if_pos h3, if_pos h3]; rfl
    · rw [if_neg h3, if_neg h3]
      by_cases h2 : allD r p ≠ []
      · rw [if_pos (ha.2 h2), if_pos h2]; rfl
      · rw [if_neg (fun x => h2 (ha.1 x)), if_neg h2]
        show (if r.blocked = 0 then 1 + (1 - (1 - p.turn)) else if r.blocked = 1 then 1 + (1 - p.turn) else 3) = swapR (stuckI r p)
        unfold stuckI
        split
        · rw [swap_12 (by omega)]; omega
        · split
          · rw [swap_12 (by omega)]; omega
          · rfl
  · rw [result_ends h1, result_ends (by rw [he]; exact fun x => h1 (swap_zero.1 x)), he]
end Go.Proofs.YtbiojjhgopnjeaaDoor
