/- Moves as data: without Falls, the moves of the position in which the players are exchanged are the moves, seen by the other player. -/
import Derived.Test.YtbiojjhgopnjeaaDoorMvA
import Derived.Test.YtbiojjhgopnjeaaDoorPlcA
set_option maxRecDepth 100000
namespace Go.Proofs.YtbiojjhgopnjeaaDoor
open Go.RowKit

def turnI (r : RulesD) (s : Int) : Int := if s < 0 then s else (r.height - 1 - s / r.width) * r.width + s % r.width
def turnM (r : RulesD) (m : MoveD) : MoveD := (turnI r m.1, turnI r m.2.1, m.2.2)
theorem otherD_same {r : RulesD} {p : PlaceD} (h : POkay r p) : POkay r (otherD r p) := by
  have g := otherD_ok h
  exact ⟨h.e, g.cl, g.l0, g.l1, g.cs, g.n0, g.n1, g.t0, g.t1, g.q0, g.q1⟩
theorem otherD_twice {r : RulesD} {p : PlaceD} (h : POkay r p) : otherD r (otherD r p) = p := otherD_otherD h
theorem other_len {r : RulesD} {p : PlaceD} (h : POkay r p) : (otherD r p).cells.length = p.cells.length := by
  have a := (otherD_same h).cl
  have b := h.cl
  omega
theorem other_squares {r : RulesD} {p : PlaceD} (h : POkay r p) : squares (otherD r p) = squares p := by unfold squares; rw [other_len h]
theorem size_in {r : RulesD} {p : PlaceD} (h : POkay r p) : 1 ≤ r.width ∧ 1 ≤ r.height := by
  obtain ⟨W, H, hw, hh, w1, _, h1, _, _, _⟩ := ok_nats h.e
  omega
theorem row_in {r : RulesD} {p : PlaceD} (h : POkay r p) {s : Int} (s0 : 0 ≤ s) (s1 : s < p.cells.length) : (0 ≤ s / r.width ∧ s / r.width < r.height) ∧ 0 ≤ s % r.width ∧ s % r.width < r.width := by
  obtain ⟨w1, _⟩ := size_in h
  have hcl := h.cl
  refine ⟨⟨Int.ediv_nonneg s0 (by omega), Int.ediv_lt_of_lt_mul (by omega) ?_⟩, Int.emod_nonneg _ (by omega), Int.emod_lt_of_pos _ (by omega)⟩
  rw [Int.mul_comm]; omega
theorem turn_xy {r : RulesD} {x y : Int} (x0 : 0 ≤ x) (x1 : x < r.width) (y0 : 0 ≤ y) : turnI r (y * r.width + x) = (r.height - 1 - y) * r.width + x := by
  have hp : 0 ≤ y * r.width := Int.mul_nonneg y0 (by omega)
  unfold turnI
  rw [if_neg (by omega), Int.add_comm (y * r.width) x, Int.add_mul_ediv_right x y (by omega), Int.ediv_eq_zero_of_lt x0 x1, Int.zero_add, Int.add_mul_emod_self_right, Int.emod_eq_of_lt x0 x1]
theorem xy_back (r : RulesD) (s : Int) : s = s / r.width * r.width + s % r.width := by
  have := Int.mul_ediv_add_emod s r.width
  rw [Int.mul_comm] at this
  omega
theorem turn_at {r : RulesD} {p : PlaceD} (_ : POkay r p) {s : Int} (s0 : 0 ≤ s) : turnI r s = (r.height - 1 - s / r.width) * r.width + s % r.width := by
  unfold turnI; rw [if_neg (by omega)]
theorem turn_mod {r : RulesD} {p : PlaceD} (h : POkay r p) {s : Int} (s0 : 0 ≤ s) (s1 : s < p.cells.length) : turnI r s % r.width = s % r.width := by
  obtain ⟨_, m0, m1⟩ := row_in h s0 s1
  rw [turn_at h s0, Int.add_comm, Int.add_mul_emod_self_right, Int.emod_eq_of_lt m0 m1]
theorem turn_div {r : RulesD} {p : PlaceD} (h : POkay r p) {s : Int} (s0 : 0 ≤ s) (s1 : s < p.cells.length) : turnI r s / r.width = r.height - 1 - s / r.width := by
  obtain ⟨w1, _⟩ := size_in h
  obtain ⟨_, m0, m1⟩ := row_in h s0 s1
  rw [turn_at h s0, Int.add_comm, Int.add_mul_ediv_right _ _ (by omega), Int.ediv_eq_zero_of_lt m0 m1, Int.zero_add]
theorem turn_in {r : RulesD} {p : PlaceD} (h : POkay r p) {s : Int} (s0 : 0 ≤ s) (s1 : s < p.cells.length) : 0 ≤ turnI r s ∧ turnI r s < p.cells.length := by
  obtain ⟨w1, _⟩ := size_in h
  obtain ⟨⟨d0, d1⟩, m0, m1⟩ := row_in h s0 s1
  have hcl := h.cl
  rw [turn_at h s0]
  have a : 0 ≤ (r.height - 1 - s / r.width) * r.width := Int.mul_nonneg (by omega) (by omega)
  have b : (r.height - 1 - s / r.width) * r.width ≤ (r.height - 1) * r.width := Int.mul_le_mul_of_nonneg_right (by omega) (by omega)
  have c : (r.height - 1) * r.width = r.width * r.height - r.width := by rw [Int.sub_mul, Int.one_mul, Int.mul_comm]
  omega
theorem turn_turn {r : RulesD} {p : PlaceD} (h : POkay r p) {s : Int} (s0 : 0 ≤ s) (s1 : s < p.cells.length) : turnI r (turnI r s) = s := by
  obtain ⟨w1, _⟩ := size_in h
  obtain ⟨t0, t1⟩ := turn_in h s0 s1
  rw [turn_at h t0, turn_mod h s0 s1, turn_div h s0 s1]
  have h1 := xy_back r s
  have h2 : r.height - 1 - (r.height - 1 - s / r.width) = s / r.width := by omega
  rw [h2]; exact h1.symm
theorem turn_nat {W H k : Nat} {r : RulesD} (hw : r.width = W) (hh : r.height = H) (hk : k < W * H) : (turnI r (k : Int)).toNat = mirSq W H k := by
  have hd := row_lt hk
  have e1 : turnI r (k : Int) = ((mirSq W H k : Nat) : Int) := by
    unfold turnI mirSq
    rw [if_neg (by omega), hw, hh, Int.natCast_add, Int.natCast_mul]
    have e2 : ((H - 1 - k / W : Nat) : Int) = (H : Int) - 1 - (k : Int) / (W : Int) := by
      have : (k : Int) / (W : Int) = ((k / W : Nat) : Int) := by simp
      rw [this]; omega
    have e3 : ((k % W : Nat) : Int) = (k : Int) % (W : Int) := by simp
    rw [e2, e3, Int.add_comm]
  rw [e1, Int.toNat_natCast]
theorem cell_turn {r : RulesD} {p : PlaceD} (h : POkay r p) {s : Int} (s0 : 0 ≤ s) (s1 : s < p.cells.length) : cellI (otherD r p) (turnI r s) = exch (cellI p s) := by
  obtain ⟨W, H, hw, hh, w1, _, h1, _, _, _⟩ := ok_nats h.e
  have hl : p.cells.length = W * H := by
    have := h.cl; rw [hw, hh, ← Int.natCast_mul] at this; exact_mod_cast this
  obtain ⟨k, rfl⟩ : ∃ k : Nat, s = (k : Int) := ⟨s.toNat, by omega⟩
  have hk : k < W * H := by omega
  show (mirL r.width.toNat r.height.toNat p.cells)[(turnI r (k : Int)).toNat]?.getD 0 = exch (p.cells[(k : Int).toNat]?.getD 0)
  rw [turn_nat hw hh hk, hw, hh, Int.toNat_natCast, Int.toNat_natCast, Int.toNat_natCast, mirL_at w1 p.cells (mir_lt w1 hk), mir_mir w1 hk]
theorem exch_zero {c : Int} (_ : 0 ≤ c) : exch c = 0 ↔ c = 0 := by
  unfold exch
  split
  · rename_i h1; exact ⟨fun _ => h1, fun _ => rfl⟩
  · split <;> omega
theorem isOf_turn {c pl : Int} (h : 0 ≤ c) : isOfB (exch c) (1 - pl) = isOfB c pl := by
  rw [Bool.eq_iff_iff]
  unfold isOfB exch
  simp only [Bool.and_eq_true, decide_eq_true_eq]
  split
  · omega
  · split <;> omega
theorem kind_turn {c : Int} (_ : 0 ≤ c) : kindOfI (exch c) = kindOfI c := by
  unfold kindOfI exch
  split
  · rename_i h1; rw [h1]
  · split <;> omega
theorem canEnd_turn {take c pl : Int} (h : 0 ≤ c) : canEndB take (exch c) (1 - pl) = canEndB take c pl := by
  have h1 := isOf_turn (c := c) (pl := 1 - pl) h
  have h2 : decide (exch c = 0) = decide (c = 0) := by rw [decide_eq_decide]; exact exch_zero h
  unfold canEndB
  rw [h1, h2]
theorem onB_turn {r : RulesD} {x y : Int} : onB r x (r.height - 1 - y) = onB r x y := by
  rw [Bool.eq_iff_iff]
  unfold onB
  simp only [Bool.and_eq_true, decide_eq_true_eq]
  omega
theorem onB_in {r : RulesD} {x y : Int} (h : onB r x y = true) : (0 ≤ x ∧ x < r.width) ∧ 0 ≤ y ∧ y < r.height := by
  unfold onB at h
  simp only [Bool.and_eq_true, decide_eq_true_eq] at h
  omega
theorem reach_turn {r : RulesD} {p : PlaceD} (h : POkay r p) (dx dy take : Int) : ∀ (m : Nat) (x y : Int), reach r (otherD r p) dx (-dy) take m x (r.height - 1 - y) = (reach r p dx dy take m x y).map (turnI r)
  | 0, _, _ => by simp [reach]
  | m + 1, x, y => by
    have e1 : r.height - 1 - y + -dy = r.height - 1 - (y + dy) := by omega
    have ih := reach_turn h dx dy take m (x + dx) (y + dy)
    unfold reach
    rw [e1, onB_turn]
    by_cases hb : onB r (x + dx) (y + dy) = true
    · rw [if_pos hb, if_pos hb]
      obtain ⟨⟨a0, a1⟩, b0, b1⟩ := onB_in hb
      have hs := turn_xy (r := r) (x := x + dx) (y := y + dy) a0 a1 b0
      have hcl := h.cl
      have s0 : 0 ≤ (y + dy) * r.width + (x + dx) := by have := Int.mul_nonneg b0 (show (0 : Int) ≤ r.width by omega); omega
      have s1 : (y + dy) * r.width + (x + dx) < p.cells.length := by
        have c1 : (y + dy) * r.width ≤ (r.height - 1) * r.width := Int.mul_le_mul_of_nonneg_right (by omega) (by omega)
        have c2 : (r.height - 1) * r.width = r.width * r.height - r.width := by rw [Int.sub_mul, Int.one_mul, Int.mul_comm]
        omega
      have hc := cell_turn h s0 s1
      have hc0 := (cell_in h ((y + dy) * r.width + (x + dx))).1
      rw [hs] at hc
      have ht : (otherD r p).turn = 1 - p.turn := rfl
      rw [hc, ht, canEnd_turn hc0, List.map_append]
      congr 1
      · split
        · rw [List.map_cons, List.map_nil, hs]
        · rfl
      · by_cases hz : cellI p ((y + dy) * r.width + (x + dx)) = 0
        · rw [if_pos hz, if_pos ((exch_zero hc0).2 hz), ih]
        · rw [if_neg hz, if_neg (fun e => hz ((exch_zero hc0).1 e))]; rfl
    · rw [if_neg hb, if_neg hb]; rfl
theorem up_turn {r : RulesD} {p : PlaceD} (h : POkay r p) (dy : Int) : upI (otherD r p) dy = -upI p dy := by
  have ht : (otherD r p).turn = 1 - p.turn := rfl
  have h0 := h.t0
  have h1 := h.t1
  unfold upI
  rw [ht]
  by_cases e : p.turn = 1
  · rw [if_pos e, if_neg (by omega)]; omega
  · rw [if_neg e, if_pos (by omega)]
theorem reachOf_turn {r : RulesD} {p : PlaceD} (h : POkay r p) {s : Int} (s0 : 0 ≤ s) (s1 : s < p.cells.length) (way : WayD) : reachOf r (otherD r p) (turnI r s) way = (reachOf r p s way).map (turnI r) := by
  unfold reachOf
  rw [up_turn h, turn_mod h s0 s1, turn_div h s0 s1]
  exact reach_turn h _ _ _ _ _ _
theorem tos_turn {r : RulesD} {p : PlaceD} (h : POkay r p) {s : Int} (s0 : 0 ≤ s) (s1 : s < p.cells.length) {t : Int} (ht : t ∈ tosD r p s) : turnI r t ∈ tosD r (otherD r p) (turnI r s) := by
  unfold tosD at ht ⊢
  obtain ⟨y, hy, hr⟩ := List.mem_flatMap.1 ht
  rw [cell_turn h s0 s1, kind_turn (cell_in h s).1]
  refine List.mem_flatMap.2 ⟨y, hy, ?_⟩
  rw [reachOf_turn h s0 s1]
  exact List.mem_map_of_mem hr
theorem hand_turn {r : RulesD} {p : PlaceD} (h : POkay r p) : handI (otherD r p) = handI p := by
  have h0 := h.t0
  have h1 := h.t1
  show (if 1 - p.turn = 0 then p.h1 else p.h0) = if p.turn = 0 then p.h0 else p.h1
  by_cases e : p.turn = 0
  · rw [if_pos e, if_neg (by omega)]
  · rw [if_neg e, if_pos (by omega)]
theorem kindAt_turn {r : RulesD} {p : PlaceD} (h : POkay r p) {t : Int} (t0 : 0 ≤ t) (t1 : t < p.cells.length) (k : Int) : kindAtI r (1 - p.turn) k (turnI r t) = kindAtI r p.turn k t := by
  have h0 := h.t0
  have h1 := h.t1
  have e1 : (turnI r t / r.width = lastRowI r (1 - p.turn)) ↔ (t / r.width = lastRowI r p.turn) := by
    rw [turn_div h t0 t1]
    unfold lastRowI
    by_cases e : p.turn = 1
    · rw [if_pos e, if_neg (by omega)]; omega
    · rw [if_neg e, if_pos (by omega)]; omega
  unfold kindAtI
  split
  · rfl
  · by_cases e : t / r.width = lastRowI r p.turn
    · rw [if_pos e, if_pos (e1.2 e)]
    · rw [if_neg e, if_neg (fun x => e (e1.1 x))]
theorem turned_mem {r : RulesD} {p : PlaceD} (h : POkay r p) (hf : r.falls = false) {m : MoveD} (hm : m ∈ allD r p) : turnM r m ∈ allD r (otherD r p) := by
  unfold allD at hm ⊢
  rcases List.mem_append.1 hm with hm | hm
  · obtain ⟨h1, h2, h3, h4⟩ := puts_mem.1 hm
    have h2' := squares_mem.1 h2
    refine List.mem_append.2 (.inl (puts_mem.2 ⟨?_, ?_, ?_, ?_⟩))
    · show turnI r m.1 = -1
      unfold turnI; rw [if_pos (by omega), h1]
    · rw [other_squares h, squares_mem]
      exact turn_in h h2'.1 h2'.2
    · show freeB r (otherD r p) (turnI r m.2.1) = true
      unfold freeB at h3 ⊢
      rw [cell_turn h h2'.1 h2'.2, hf]
      rw [Bool.and_eq_true, decide_eq_true_eq] at h3
      rw [h3.1]
      rfl
    · show m.2.2 ∈ kindsOf (otherD r p)
      rw [kindsOf_mem, hand_turn h]
      exact kindsOf_mem.1 h4
  · obtain ⟨s, hs, h2⟩ := List.mem_flatMap.1 hm
    obtain ⟨h3, h4, h5, h6, h7⟩ := from_mem.1 h2
    have hs' := squares_mem.1 hs
    have h5' := squares_mem.1 h5
    refine List.mem_append.2 (.inr (List.mem_flatMap.2 ⟨turnI r s, ?_, from_mem.2 ⟨?_, ?_, ?_, ?_, ?_⟩⟩))
    · rw [other_squares h, squares_mem]; exact turn_in h hs'.1 hs'.2
    · rw [cell_turn h hs'.1 hs'.2]
      show isOfB (exch (cellI p s)) (1 - p.turn) = true
      rw [isOf_turn (cell_in h s).1]; exact h3
    · show turnI r m.1 = turnI r s
      rw [h4]
    · show turnI r m.2.1 ∈ squares (otherD r p)
      rw [other_squares h, squares_mem]; exact turn_in h h5'.1 h5'.2
    · exact tos_turn h hs'.1 hs'.2 h6
    · show m.2.2 = kindAtI r (1 - p.turn) (kindOfI (cellI (otherD r p) (turnI r s))) (turnI r m.2.1)
      rw [cell_turn h hs'.1 hs'.2, kind_turn (cell_in h s).1, kindAt_turn h h5'.1 h5'.2]; exact h7
theorem from_in {r : RulesD} {p : PlaceD} (h : POkay r p) {m : MoveD} (hm : m ∈ allD r p) : (m.1 = -1 ∨ (0 ≤ m.1 ∧ m.1 < p.cells.length)) ∧ 0 ≤ m.2.1 ∧ m.2.1 < p.cells.length := by
  have hO := legal_ok h (legalB_all.2 hm)
  refine ⟨?_, hO.t0, hO.t1⟩
  rcases hO.src with ⟨h1, _⟩ | h1
  · exact .inl h1
  · exact .inr h1
theorem turnI_back {r : RulesD} {p : PlaceD} (h : POkay r p) {s : Int} (hs : s = -1 ∨ (0 ≤ s ∧ s < p.cells.length)) : turnI r (turnI r s) = s := by
  rcases hs with rfl | ⟨h0, h1⟩
  · simp [turnI]
  · exact turn_turn h h0 h1
theorem turnM_back {r : RulesD} {p : PlaceD} (h : POkay r p) {m : MoveD} (hm : m ∈ allD r p) : turnM r (turnM r m) = m := by
  obtain ⟨h1, h2⟩ := from_in h hm
  unfold turnM
  rw [turnI_back h h1, turnI_back h (.inr h2)]
theorem length_sub {α : Type} [BEq α] [LawfulBEq α] : ∀ (l k : List α), l.Nodup → (∀ x ∈ l, x ∈ k) → l.length ≤ k.length
  | [], _, _, _ => Nat.zero_le _
  | a :: l, k, hn, hs => by
    obtain ⟨h1, h2⟩ := List.nodup_cons.1 hn
    have ha := hs a List.mem_cons_self
    have h3 := length_sub l (k.erase a) h2 (fun x hx => (List.mem_erase_of_ne (fun e => h1 (by rw [← e]; exact hx))).2 (hs x (List.mem_cons_of_mem _ hx)))
    have h4 := List.length_erase_of_mem ha
    have h5 : 0 < k.length := List.length_pos_of_mem ha
    rw [List.length_cons]; omega
theorem turned_le {r : RulesD} {p : PlaceD} (h : POkay r p) (hf : r.falls = false) : (allD r p).length ≤ (allD r (otherD r p)).length := by
  have h1 : ((allD r p).map (turnM r)).Nodup := by
    have hn := all_nodup r p
    unfold List.Nodup at hn ⊢
    rw [List.pairwise_map]
    refine hn.imp_of_mem ?_
    intro a b ha hb hab e
    apply hab
    rw [← turnM_back h ha, ← turnM_back h hb, e]
  have h2 := length_sub _ (allD r (otherD r p)) h1 (fun x hx => by
    obtain ⟨m, hm, rfl⟩ := List.mem_map.1 hx
    exact turned_mem h hf hm)
  rwa [List.length_map] at h2
theorem turned_length {r : RulesD} {p : PlaceD} (h : POkay r p) (hf : r.falls = false) : (allD r (otherD r p)).length = (allD r p).length := by
  have h1 := turned_le h hf
  have h2 := turned_le (otherD_same h) hf
  rw [otherD_twice h] at h2
  omega
end Go.Proofs.YtbiojjhgopnjeaaDoor
