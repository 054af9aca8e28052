/- Moves as data: which are legal, in which order, and what they lead to. -/
import Derived.Test.YthbilpgecombiaaPlc
import Derived.Test.YthbilpgecombiaaMirD
namespace Go.Proofs.Ythbilpgecombiaa
open Go.RowKit

/-- A move: the square from which a piece moves (-1: from the hand), the square to which it goes, its type there. -/
abbrev MoveD := Int × Int × Int
def cellI (p : PlaceD) (s : Int) : Int := p.cells[s.toNat]?.getD 0
def isOfB (c pl : Int) : Bool := decide (c ≠ 0) && decide ((c - 1) % 2 = pl)
def kindOfI (c : Int) : Int := (c - 1) / 2
def canEndB (take c pl : Int) : Bool := if take = 0 then decide (c = 0) else if take = 1 then (decide (c = 0) || isOfB c (1 - pl)) else isOfB c (1 - pl)
def onB (r : RulesD) (x y : Int) : Bool := decide (0 ≤ x) && (decide (x < r.width) && (decide (0 ≤ y) && decide (y < r.height)))
/-- The squares on which a piece can end by steps of dx and dy, m at most. -/
def reach (r : RulesD) (p : PlaceD) (dx dy take : Int) : Nat → Int → Int → List Int
  | 0, _, _ => []
  | m + 1, x, y =>
    if onB r (x + dx) (y + dy) = true then
      (if canEndB take (cellI p ((y + dy) * r.width + (x + dx))) p.turn = true then [(y + dy) * r.width + (x + dx)] else []) ++
      (if cellI p ((y + dy) * r.width + (x + dx)) = 0 then reach r p dx dy take m (x + dx) (y + dy) else [])
    else []
def upI (p : PlaceD) (dy : Int) : Int := if p.turn = 1 then -dy else dy
def reachOf (r : RulesD) (p : PlaceD) (src : Int) (way : WayD) : List Int := reach r p way.dx (upI p way.dy) way.take way.most.toNat (src % r.width) (src / r.width)
def pieceOf (r : RulesD) (k : Int) : PieceD := r.pieces[k.toNat]?.getD ⟨0, 0, 0, []⟩
/-- All squares on which the piece of a square can end, in the order of its ways. -/
def tosD (r : RulesD) (p : PlaceD) (src : Int) : List Int := (pieceOf r (kindOfI (cellI p src))).ways.flatMap (reachOf r p src)
def lastRowI (r : RulesD) (pl : Int) : Int := if pl = 1 then 0 else r.height - 1
def kindAtI (r : RulesD) (pl k t : Int) : Int := if (pieceOf r k).promote = 0 then k else if t / r.width = lastRowI r pl then (pieceOf r k).promote - 1 else k
def squares (p : PlaceD) : List Int := (List.range p.cells.length).map fun i : Nat => (i : Int)
def mkFrom (r : RulesD) (p : PlaceD) (src t : Int) : MoveD := (src, t, kindAtI r p.turn (kindOfI (cellI p src)) t)
def fromD (r : RulesD) (p : PlaceD) (src : Int) : List MoveD :=
  if isOfB (cellI p src) p.turn = true then ((squares p).filter fun t => decide (t ∈ tosD r p src)).map (mkFrom r p src) else []
def handI (p : PlaceD) : List Int := if p.turn = 0 then p.h0 else p.h1
def suppB (r : RulesD) (p : PlaceD) (t : Int) : Bool := (List.range t.toNat).all fun s => !decide ((s : Int) % r.width = t % r.width) || !decide (cellI p s = 0)
def kindsOf (p : PlaceD) : List Int := ((List.range (handI p).length).filter fun k => decide (0 < (handI p)[k]?.getD 0)).map fun k : Nat => (k : Int)
def freeB (r : RulesD) (p : PlaceD) (t : Int) : Bool := decide (cellI p t = 0) && (!r.falls || suppB r p t)
def putAt (r : RulesD) (p : PlaceD) (t : Int) : List MoveD := if freeB r p t = true then (kindsOf p).map fun k => (-1, t, k) else []
def putsD (r : RulesD) (p : PlaceD) : List MoveD := (squares p).flatMap (putAt r p)
def movesOf (r : RulesD) (p : PlaceD) (src : Int) : List MoveD := if src = -1 then putsD r p else fromD r p src
def allD (r : RulesD) (p : PlaceD) : List MoveD := putsD r p ++ (squares p).flatMap (fromD r p)
def legalB (r : RulesD) (p : PlaceD) (m : MoveD) : Bool := decide (-1 ≤ m.1) && (decide (m.1 < p.cells.length) && decide (m ∈ movesOf r p m.1))
def nth (l : List Int) (i : Int) : Int := l[i.toNat]?.getD 0
def setI (l : List Int) (i x : Int) : List Int := l.set i.toNat x
def isPut (m : MoveD) : Bool := decide (m.1 = -1)
def handPut (p : PlaceD) (m : MoveD) : List Int := if m.1 = -1 then setI (handI p) m.2.2 (nth (handI p) m.2.2 - 1) else handI p
def handD (r : RulesD) (p : PlaceD) (m : MoveD) : List Int :=
  if cellI p m.2.1 ≠ 0 ∧ r.keeps = true then setI (handPut p m) (kindOfI (cellI p m.2.1)) (min (nth (handPut p m) (kindOfI (cellI p m.2.1)) + 1) 1000) else handPut p m
def cellsD (p : PlaceD) (m : MoveD) : List Int := setI (if m.1 = -1 then p.cells else setI p.cells m.1 0) m.2.1 (2 * m.2.2 + p.turn + 1)
def afterD (r : RulesD) (p : PlaceD) (m : MoveD) : PlaceD :=
  ⟨cellsD p m, if p.turn = 0 then handD r p m else p.h0, if p.turn = 0 then p.h1 else handD r p m, 1 - p.turn, if m.1 = -1 ∨ cellI p m.2.1 ≠ 0 then 0 else min (p.quiet + 1) 200⟩

/-! ### What stands in a good position -/
theorem cell_in {r : RulesD} {p : PlaceD} (h : POkay r p) (s : Int) : 0 ≤ cellI p s ∧ cellI p s ≤ 2 * r.pieces.length := by
  unfold cellI
  cases hc : p.cells[s.toNat]? with
  | none => simp only [Option.getD_none]; omega
  | some c => exact h.cs c (List.mem_of_getElem? hc)
theorem nth_in {l : List Int} {m : Int} (hm : 0 ≤ m) (h : ∀ c ∈ l, 0 ≤ c ∧ c ≤ m) (i : Int) : 0 ≤ nth l i ∧ nth l i ≤ m := by
  unfold nth
  cases hc : l[i.toNat]? with
  | none => simp only [Option.getD_none]; omega
  | some c => exact h c (List.mem_of_getElem? hc)
theorem hand_in {r : RulesD} {p : PlaceD} (h : POkay r p) : ∀ c ∈ handI p, 0 ≤ c ∧ c ≤ 1000 := by
  unfold handI; split
  · exact h.n0
  · exact h.n1
theorem hand_len {r : RulesD} {p : PlaceD} (h : POkay r p) : (handI p).length = r.pieces.length := by
  unfold handI; split
  · exact h.l0
  · exact h.l1
theorem pieces_len {r : RulesD} (h : rulesE r = 0) : 1 ≤ r.pieces.length ∧ r.pieces.length ≤ 6 := by
  obtain ⟨_, _, _, k4, _, _, _⟩ := rulesE_ok h
  obtain ⟨h1, h2⟩ := piecesE_ok k4
  exact ⟨List.length_pos_iff.2 h1, h2⟩
theorem pieceOf_in {r : RulesD} {k : Int} (h1 : k < r.pieces.length) (h0 : 0 ≤ k) : r.pieces[k.toNat]? = some (pieceOf r k) := by
  unfold pieceOf
  have hk : k.toNat < r.pieces.length := by omega
  rw [List.getElem?_eq_getElem hk]; rfl
theorem piece_facts {x : PieceD} {es : List PieceD} {n : Nat} (h : pieceE x es n = 0) : 0 ≤ x.promote ∧ x.promote ≤ n ∧ x.ways.length ≤ 16 ∧ ∀ y ∈ x.ways, wayB y = true := by
  have hl := ways_ok h
  unfold pieceE at h
  split at h
  · cases h
  · split at h
    · cases h
    · split at h
      · cases h
      · rename_i h3
        rw [if_neg (by omega)] at h
        split at h
        · cases h
        · rename_i h4
          have h5 : (inB x.hand 0 64 && inB x.promote 0 n) = true := by simpa using h3
          rw [Bool.and_eq_true, inB_iff, inB_iff] at h5
          have h6 : x.ways.all wayB = true := by simpa using h4
          exact ⟨h5.2.1, h5.2.2, hl, fun y hy => List.all_eq_true.1 h6 y hy⟩
theorem way_facts {y : WayD} (h : wayB y = true) : (-7 ≤ y.dx ∧ y.dx ≤ 7) ∧ (-7 ≤ y.dy ∧ y.dy ≤ 7) ∧ ¬ (y.dx = 0 ∧ y.dy = 0) ∧ (1 ≤ y.most ∧ y.most ≤ 7) ∧ 0 ≤ y.take ∧ y.take ≤ 2 := by
  unfold wayB at h
  simp only [Bool.and_eq_true, inB_iff, Bool.not_eq_true', Bool.and_eq_false_iff, decide_eq_false_iff_not] at h
  obtain ⟨h1, h2, h3, h4, h5⟩ := h
  exact ⟨h1, h2, by omega, h4, h5⟩
theorem ways_good {r : RulesD} (h : rulesE r = 0) {k : Int} (h0 : 0 ≤ k) (h1 : k < r.pieces.length) : 0 ≤ (pieceOf r k).promote ∧ (pieceOf r k).promote ≤ r.pieces.length ∧ (pieceOf r k).ways.length ≤ 16 ∧ ∀ y ∈ (pieceOf r k).ways, wayB y = true := piece_facts (piece_ok h (pieceOf_in h1 h0))
theorem kind_in {r : RulesD} {p : PlaceD} (h : POkay r p) {s : Int} (hc : cellI p s ≠ 0) : 0 ≤ kindOfI (cellI p s) ∧ kindOfI (cellI p s) < r.pieces.length := by
  have := cell_in h s
  unfold kindOfI
  omega
theorem squares_mem {p : PlaceD} {t : Int} : t ∈ squares p ↔ 0 ≤ t ∧ t < p.cells.length := by
  unfold squares
  simp only [List.mem_map, List.mem_range]
  constructor
  · rintro ⟨i, h1, rfl⟩; omega
  · intro ⟨h1, h2⟩; exact ⟨t.toNat, by omega, by omega⟩
theorem squares_asc (p : PlaceD) : (squares p).Pairwise (· < ·) := by
  unfold squares
  rw [List.pairwise_map]
  exact List.pairwise_lt_range.imp fun h => by omega
theorem squares_length (p : PlaceD) : (squares p).length = p.cells.length := by simp [squares]

/-! ### Squares that are reached -/
theorem onB_iff {r : RulesD} {x y : Int} : onB r x y = true ↔ 0 ≤ x ∧ x < r.width ∧ 0 ≤ y ∧ y < r.height := by simp [onB]
theorem sq_in {r : RulesD} {p : PlaceD} (h : POkay r p) {x y : Int} (hb : onB r x y = true) : 0 ≤ y * r.width + x ∧ y * r.width + x < p.cells.length := by
  rw [onB_iff] at hb
  obtain ⟨h1, h2, h3, h4⟩ := hb
  have h5 : (y + 1) * r.width ≤ r.height * r.width := Int.mul_le_mul_of_nonneg_right (by omega) (by omega)
  have h6 : 0 ≤ y * r.width := Int.mul_nonneg h3 (by omega)
  rw [Int.add_mul, Int.one_mul, Int.mul_comm r.height] at h5
  rw [h.cl]
  omega
theorem reach_in {r : RulesD} {p : PlaceD} (h : POkay r p) (dx dy take : Int) : ∀ (m : Nat) (x y t : Int), t ∈ reach r p dx dy take m x y → 0 ≤ t ∧ t < p.cells.length
  | 0, _, _, _, ht => by cases ht
  | m + 1, x, y, t, ht => by
    unfold reach at ht
    split at ht
    · rename_i hb
      rcases List.mem_append.1 ht with h1 | h1
      · split at h1
        · rw [List.mem_singleton] at h1; subst h1; exact sq_in h hb
        · cases h1
      · split at h1
        · exact reach_in h dx dy take m _ _ t h1
        · cases h1
    · cases ht
theorem reach_length (r : RulesD) (p : PlaceD) (dx dy take : Int) : ∀ (m : Nat) (x y : Int), (reach r p dx dy take m x y).length ≤ m
  | 0, _, _ => Nat.le_refl _
  | m + 1, x, y => by
    have ih := reach_length r p dx dy take m (x + dx) (y + dy)
    unfold reach
    split
    · rw [List.length_append]
      split <;> split <;> simp only [List.length_cons, List.length_nil] <;> omega
    · exact Nat.zero_le _
theorem tos_in {r : RulesD} {p : PlaceD} (h : POkay r p) {src t : Int} (ht : t ∈ tosD r p src) : 0 ≤ t ∧ t < p.cells.length := by
  unfold tosD at ht
  obtain ⟨way, _, h2⟩ := List.mem_flatMap.1 ht
  exact reach_in h _ _ _ _ _ _ _ h2
theorem flat_length {α β : Type} (f : α → List β) (n : Nat) : ∀ (l : List α), (∀ x ∈ l, (f x).length ≤ n) → (l.flatMap f).length ≤ l.length * n
  | [], _ => by simp
  | x :: l, h => by
    have h1 := h x (List.mem_cons_self ..)
    have h2 := flat_length f n l fun y hy => h y (List.mem_cons_of_mem _ hy)
    rw [List.flatMap_cons, List.length_append, List.length_cons, Nat.add_mul, Nat.one_mul]
    omega
theorem cells_len {r : RulesD} {p : PlaceD} (h : POkay r p) : 1 ≤ p.cells.length ∧ p.cells.length ≤ 64 := by
  obtain ⟨W, H, hw, hh, w1, w2, h1, h2, _, _⟩ := ok_nats h.e
  have hl : p.cells.length = W * H := by
    have := h.cl; rw [hw, hh, ← Int.natCast_mul] at this; exact_mod_cast this
  have a1 : W * H ≤ 8 * 8 := Nat.mul_le_mul w2 h2
  have a2 : 0 < W * H := Nat.mul_pos (by omega) (by omega)
  omega
theorem fromD_length {r : RulesD} {p : PlaceD} (h : POkay r p) (src : Int) : (fromD r p src).length ≤ 64 := by
  unfold fromD
  split
  · rw [List.length_map]
    have h1 := List.length_filter_le (fun t => decide (t ∈ tosD r p src)) (squares p)
    rw [squares_length] at h1
    have := (cells_len h).2
    omega
  · exact Nat.zero_le _
theorem kindsOf_length {r : RulesD} {p : PlaceD} (h : POkay r p) : (kindsOf p).length ≤ 6 := by
  unfold kindsOf
  rw [List.length_map]
  have h1 := List.length_filter_le (fun k => decide (0 < (handI p)[k]?.getD 0)) (List.range (handI p).length)
  have h2 := hand_len h
  have := (pieces_len h.e).2
  rw [List.length_range] at h1
  omega
theorem putAt_length {r : RulesD} {p : PlaceD} (h : POkay r p) (t : Int) : (putAt r p t).length ≤ 6 := by
  unfold putAt
  split
  · rw [List.length_map]; exact kindsOf_length h
  · exact Nat.zero_le _
theorem putsD_length {r : RulesD} {p : PlaceD} (h : POkay r p) : (putsD r p).length ≤ 384 := by
  have h1 := flat_length (putAt r p) 6 (squares p) fun t _ => putAt_length h t
  rw [squares_length] at h1
  have := (cells_len h).2
  unfold putsD; omega
theorem allD_length {r : RulesD} {p : PlaceD} (h : POkay r p) : (allD r p).length ≤ 5000 := by
  have h1 := flat_length (fromD r p) 64 (squares p) fun t _ => fromD_length h t
  rw [squares_length] at h1
  have := (cells_len h).2
  have := putsD_length h
  unfold allD
  rw [List.length_append]; omega
/-- Two ascending lists of the same numbers are the same. -/
theorem asc_ext : ∀ {l k : List Int}, l.Pairwise (· < ·) → k.Pairwise (· < ·) → (∀ x, x ∈ l ↔ x ∈ k) → l = k
  | [], [], _, _, _ => rfl
  | [], y :: k, _, _, h => by have := (h y).2 (List.mem_cons_self ..); cases this
  | x :: l, [], _, _, h => by have := (h x).1 (List.mem_cons_self ..); cases this
  | x :: l, y :: k, h1, h2, h => by
    rw [List.pairwise_cons] at h1 h2
    have hxy : x = y := by
      rcases List.mem_cons.1 ((h x).1 (List.mem_cons_self ..)) with e | e
      · exact e
      · rcases List.mem_cons.1 ((h y).2 (List.mem_cons_self ..)) with e2 | e2
        · exact e2.symm
        · have a := h2.1 x e; have b := h1.1 y e2; omega
    subst hxy
    rw [asc_ext h1.2 h2.2 fun z => ?_]
    constructor
    · intro hz
      rcases List.mem_cons.1 ((h z).1 (List.mem_cons_of_mem _ hz)) with e | e
      · subst e; have := h1.1 z hz; omega
      · exact e
    · intro hz
      rcases List.mem_cons.1 ((h z).2 (List.mem_cons_of_mem _ hz)) with e | e
      · subst e; have := h2.1 z hz; omega
      · exact e
theorem legalB_all {r : RulesD} {p : PlaceD} {m : MoveD} : legalB r p m = true ↔ m ∈ allD r p := by
  unfold legalB allD movesOf
  simp only [Bool.and_eq_true, decide_eq_true_eq, List.mem_append]
  have hp : m ∈ putsD r p → m.1 = -1 := by
    intro h
    obtain ⟨t, _, h2⟩ := List.mem_flatMap.1 h
    unfold putAt at h2
    split at h2
    · obtain ⟨k, _, rfl⟩ := List.mem_map.1 h2; rfl
    · cases h2
  have hf : ∀ s, m ∈ fromD r p s → m.1 = s := by
    intro s h
    unfold fromD at h
    split at h
    · obtain ⟨t, _, rfl⟩ := List.mem_map.1 h; rfl
    · cases h
  constructor
  · rintro ⟨h1, h2, h3⟩
    split at h3
    · exact .inl h3
    · exact .inr (List.mem_flatMap.2 ⟨m.1, squares_mem.2 ⟨by omega, h2⟩, h3⟩)
  · rintro (h | h)
    · have := hp h
      exact ⟨by omega, by omega, by rw [if_pos this]; exact h⟩
    · obtain ⟨s, h1, h2⟩ := List.mem_flatMap.1 h
      have hs := hf s h2
      rw [squares_mem] at h1
      subst hs
      exact ⟨by omega, h1.2, by rw [if_neg (by omega)]; exact h2⟩
end Go.Proofs.Ythbilpgecombiaa
