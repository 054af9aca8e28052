/- Merged by merge.py of the texts MovD MovS MovR MovG. -/
import Derived.Test.YtdhhdkbnlddnbaaGreatDoorPlcA
import Derived.Test.YtdhhdkbnlddnbaaGreatDoorRulB
namespace Go.Proofs.YtdhhdkbnlddnbaaGreatDoor
open Go.RowKit

/-- A move: the square from which a piece moves (-1: from the hand), the square to which it goes, its type there. -/
abbrev MoveD := Int × Int × Int
def cellI (p : PlaceD) (s : Int) : Int := p.cells[s.toNat]?.getD 0
def isOfB (c pl : Int) : Bool := decide (c ≠ 0) && decide ((c - 1) % 2 = pl)
def kindOfI (c : Int) : Int := (c - 1) / 2
def canEndB (take c pl : Int) : Bool := if take = 0 then decide (c = 0) else if take = 1 then (decide (c = 0) || isOfB c (1 - pl)) else isOfB c (1 - pl)
def onB (r : RulesD) (x y : Int) : Bool := decide (0 ≤ x) && (decide (x < r.width) && (decide (0 ≤ y) && decide (y < r.height)))
/-- The squares on which a piece can end by steps of dx and dy, m at most. -/
def reach (r : RulesD) (p : PlaceD) (dx dy take : Int) : Nat → Int → Int → List Int
  | 0, _, _ => []
  | m + 1, x, y =>
    if onB r (x + dx) (y + dy) = true then
      (if canEndB take (cellI p ((y + dy) * r.width + (x + dx))) p.turn = true then [(y + dy) * r.width + (x + dx)] else []) ++
      (if cellI p ((y + dy) * r.width + (x + dx)) = 0 then reach r p dx dy take m (x + dx) (y + dy) else [])
    else []
def upI (p : PlaceD) (dy : Int) : Int := if p.turn = 1 then -dy else dy
def reachOf (r : RulesD) (p : PlaceD) (src : Int) (way : WayD) : List Int := reach r p way.dx (upI p way.dy) way.take way.most.toNat (src % r.width) (src / r.width)
def pieceOf (r : RulesD) (k : Int) : PieceD := r.pieces[k.toNat]?.getD ⟨0, 0, 0, []⟩
/-- All squares on which the piece of a square can end, in the order of its ways. -/
def tosD (r : RulesD) (p : PlaceD) (src : Int) : List Int := (pieceOf r (kindOfI (cellI p src))).ways.flatMap (reachOf r p src)
def lastRowI (r : RulesD) (pl : Int) : Int := if pl = 1 then 0 else r.height - 1
def kindAtI (r : RulesD) (pl k t : Int) : Int := if (pieceOf r k).promote = 0 then k else if t / r.width = lastRowI r pl then (pieceOf r k).promote - 1 else k
def squares (p : PlaceD) : List Int := (List.range p.cells.length).map fun i : Nat => (i : Int)
def mkFrom (r : RulesD) (p : PlaceD) (src t : Int) : MoveD := (src, t, kindAtI r p.turn (kindOfI (cellI p src)) t)
def fromD (r : RulesD) (p : PlaceD) (src : Int) : List MoveD :=
  if isOfB (cellI p src) p.turn = true then ((squares p).filter fun t => decide (t ∈ tosD r p src)).map (mkFrom r p src) else []
def handI (p : PlaceD) : List Int := if p.turn = 0 then p.h0 else p.h1
def suppB (r : RulesD) (p : PlaceD) (t : Int) : Bool := (List.range t.toNat).all fun s => !decide ((s : Int) % r.width = t % r.width) || !decide (cellI p s = 0)
def kindsOf (p : PlaceD) : List Int := ((List.range (handI p).length).filter fun k => decide (0 < (handI p)[k]?.getD 0)).map fun k : Nat => (k : Int)
def freeB (r : RulesD) (p : PlaceD) (t : Int) : Bool := decide (cellI p t = 0) && (!r.falls || suppB r p t)
def putAt (r : RulesD) (p : PlaceD) (t : Int) : List MoveD := if freeB r p t = true then (kindsOf p).map fun k => (-1, t, k) else []
def putsD (r : RulesD) (p : PlaceD) : List MoveD := (squares p).flatMap (putAt r p)
def movesOf (r : RulesD) (p : PlaceD) (src : Int) : List MoveD := if src = -1 then putsD r p else fromD r p src
def allD (r : RulesD) (p : PlaceD) : List MoveD := putsD r p ++ (squares p).flatMap (fromD r p)
def legalB (r : RulesD) (p : PlaceD) (m : MoveD) : Bool := decide (-1 ≤ m.1) && (decide (m.1 < p.cells.length) && decide (m ∈ movesOf r p m.1))
def nth (l : List Int) (i : Int) : Int := l[i.toNat]?.getD 0
def setI (l : List Int) (i x : Int) : List Int := l.set i.toNat x
def isPut (m : MoveD) : Bool := decide (m.1 = -1)
def handPut (p : PlaceD) (m : MoveD) : List Int := if m.1 = -1 then setI (handI p) m.2.2 (nth (handI p) m.2.2 - 1) else handI p
def handD (r : RulesD) (p : PlaceD) (m : MoveD) : List Int :=
  if cellI p m.2.1 ≠ 0 ∧ r.keeps = true then setI (handPut p m) (kindOfI (cellI p m.2.1)) (min (nth (handPut p m) (kindOfI (cellI p m.2.1)) + 1) 1000) else handPut p m
def cellsD (p : PlaceD) (m : MoveD) : List Int := setI (if m.1 = -1 then p.cells else setI p.cells m.1 0) m.2.1 (2 * m.2.2 + p.turn + 1)
def afterD (r : RulesD) (p : PlaceD) (m : MoveD) : PlaceD :=
  ⟨cellsD p m, if p.turn = 0 then handD r p m else p.h0, if p.turn = 0 then p.h1 else handD r p m, 1 - p.turn, if m.1 = -1 ∨ cellI p m.2.1 ≠ 0 then 0 else min (p.quiet + 1) 200⟩

/-! ### What stands in a good position -/
theorem cell_in {r : RulesD} {p : PlaceD} (h : POkay r p) (s : Int) : 0 ≤ cellI p s ∧ cellI p s ≤ 2 * r.pieces.length := by
  unfold cellI
  cases hc : p.cells[s.toNat]? with
  | none => simp only [Option.getD_none]; omega
  | some c => exact h.cs c (List.mem_of_getElem? hc)
theorem nth_in {l : List Int} {m : Int} (hm : 0 ≤ m) (h : ∀ c ∈ l, 0 ≤ c ∧ c ≤ m) (i : Int) : 0 ≤ nth l i ∧ nth l i ≤ m := by
  unfold nth
  cases hc : l[i.toNat]? with
  | none => simp only [Option.getD_none]; omega
  | some c => exact h c (List.mem_of_getElem? hc)
theorem hand_in {r : RulesD} {p : PlaceD} (h : POkay r p) : ∀ c ∈ handI p, 0 ≤ c ∧ c ≤ 1000 := by
  unfold handI; split
  · exact h.n0
  · exact h.n1
theorem hand_len {r : RulesD} {p : PlaceD} (h : POkay r p) : (handI p).length = r.pieces.length := by
  unfold handI; split
  · exact h.l0
  · exact h.l1
theorem pieces_len {r : RulesD} (h : rulesE r = 0) : 1 ≤ r.pieces.length ∧ r.pieces.length ≤ 6 := by
  obtain ⟨_, _, _, k4, _, _, _⟩ := rulesE_ok h
  obtain ⟨h1, h2⟩ := piecesE_ok k4
  exact ⟨List.length_pos_iff.2 h1, h2⟩
theorem pieceOf_in {r : RulesD} {k : Int} (h1 : k < r.pieces.length) (h0 : 0 ≤ k) : r.pieces[k.toNat]? = some (pieceOf r k) := by
  unfold pieceOf
  have hk : k.toNat < r.pieces.length := by omega
  rw [List.getElem?_eq_getElem hk]; rfl
theorem piece_facts {x : PieceD} {es : List PieceD} {n : Nat} (h : pieceE x es n = 0) : 0 ≤ x.promote ∧ x.promote ≤ n ∧ x.ways.length ≤ 16 ∧ ∀ y ∈ x.ways, wayB y = true := by
  have hl := ways_ok h
  unfold pieceE at h
  split at h
  · cases h
  · split at h
    · cases h
    · split at h
      · cases h
      · rename_i h3
        rw [if_neg (by omega)] at h
        split at h
        · cases h
        · rename_i h4
          have h5 : (inB x.hand 0 64 && inB x.promote 0 n) = true := by simpa using h3
          rw [Bool.and_eq_true, inB_iff, inB_iff] at h5
          have h6 : x.ways.all wayB = true := by simpa using h4
          exact ⟨h5.2.1, h5.2.2, hl, fun y hy => List.all_eq_true.1 h6 y hy⟩
theorem way_facts {y : WayD} (h : wayB y = true) : (-7 ≤ y.dx ∧ y.dx ≤ 7) ∧ (-7 ≤ y.dy ∧ y.dy ≤ 7) ∧ ¬ (y.dx = 0 ∧ y.dy = 0) ∧ (1 ≤ y.most ∧ y.most ≤ 7) ∧ 0 ≤ y.take ∧ y.take ≤ 2 := by
  unfold wayB at h
  simp only [Bool.and_eq_true, inB_iff, Bool.not_eq_true', Bool.and_eq_false_iff, decide_eq_false_iff_not] at h
  obtain ⟨h1, h2, h3, h4, h5⟩ := h
  exact ⟨h1, h2, by omega, h4, h5⟩
theorem ways_good {r : RulesD} (h : rulesE r = 0) {k : Int} (h0 : 0 ≤ k) (h1 : k < r.pieces.length) : 0 ≤ (pieceOf r k).promote ∧ (pieceOf r k).promote ≤ r.pieces.length ∧ (pieceOf r k).ways.length ≤ 16 ∧ ∀ y ∈ (pieceOf r k).ways, wayB y = true := piece_facts (piece_ok h (pieceOf_in h1 h0))
theorem kind_in {r : RulesD} {p : PlaceD} (h : POkay r p) {s : Int} (hc : cellI p s ≠ 0) : 0 ≤ kindOfI (cellI p s) ∧ kindOfI (cellI p s) < r.pieces.length := by
  have := cell_in h s
  unfold kindOfI
  omega
theorem squares_mem {p : PlaceD} {t : Int} : t ∈ squares p ↔ 0 ≤ t ∧ t < p.cells.length := by
  unfold squares
  simp only [List.mem_map, List.mem_range]
  constructor
  · rintro ⟨i, h1, rfl⟩; omega
  · intro ⟨h1, h2⟩; exact ⟨t.toNat, by omega, by omega⟩
theorem squares_asc (p : PlaceD) : (squares p).Pairwise (· < ·) := by
  unfold squares
  rw [List.pairwise_map]
  exact List.pairwise_lt_range.imp fun h => by omega
theorem squares_length (p : PlaceD) : (squares p).length = p.cells.length := by simp [squares]

/-! ### Squares that are reached -/
theorem onB_iff {r : RulesD} {x y : Int} : onB r x y = true ↔ 0 ≤ x ∧ x < r.width ∧ 0 ≤ y ∧ y < r.height := by simp [onB]
theorem sq_in {r : RulesD} {p : PlaceD} (h : POkay r p) {x y : Int} (hb : onB r x y = true) : 0 ≤ y * r.width + x ∧ y * r.width + x < p.cells.length := by
  rw [onB_iff] at hb
  obtain ⟨h1, h2, h3, h4⟩ := hb
  have h5 : (y + 1) * r.width ≤ r.height * r.width := Int.mul_le_mul_of_nonneg_right (by omega) (by omega)
  have h6 : 0 ≤ y * r.width := Int.mul_nonneg h3 (by omega)
  rw [Int.add_mul, Int.one_mul, Int.mul_comm r.height] at h5
  rw [h.cl]
  omega
theorem reach_in {r : RulesD} {p : PlaceD} (h : POkay r p) (dx dy take : Int) : ∀ (m : Nat) (x y t : Int), t ∈ reach r p dx dy take m x y → 0 ≤ t ∧ t < p.cells.length
  | 0, _, _, _, ht => by cases ht
  | m + 1, x, y, t, ht => by
    unfold reach at ht
    split at ht
    · rename_i hb
      rcases List.mem_append.1 ht with h1 | h1
      · split at h1
        · rw [List.mem_singleton] at h1; subst h1; exact sq_in h hb
        · cases h1
      · split at h1
        · exact reach_in h dx dy take m _ _ t h1
        · cases h1
    · cases ht
theorem reach_length (r : RulesD) (p : PlaceD) (dx dy take : Int) : ∀ (m : Nat) (x y : Int), (reach r p dx dy take m x y).length ≤ m
  | 0, _, _ => Nat.le_refl _
  | m + 1, x, y => by
    have ih := reach_length r p dx dy take m (x + dx) (y + dy)
    unfold reach
    split
    · rw [List.length_append]
      split <;> split <;> simp only [List.length_cons, List.length_nil] <;> omega
    · exact Nat.zero_le _
theorem tos_in {r : RulesD} {p : PlaceD} (h : POkay r p) {src t : Int} (ht : t ∈ tosD r p src) : 0 ≤ t ∧ t < p.cells.length := by
  unfold tosD at ht
  obtain ⟨way, _, h2⟩ := List.mem_flatMap.1 ht
  exact reach_in h _ _ _ _ _ _ _ h2
theorem flat_length {α β : Type} (f : α → List β) (n : Nat) : ∀ (l : List α), (∀ x ∈ l, (f x).length ≤ n) → (l.flatMap f).length ≤ l.length * n
  | [], _ => by simp
  | x :: l, h => by
    have h1 := h x (List.mem_cons_self ..)
    have h2 := flat_length f n l fun y hy => h y (List.mem_cons_of_mem _ hy)
    rw [List.flatMap_cons, List.length_append, List.length_cons, Nat.add_mul, Nat.one_mul]
    omega
theorem cells_len {r : RulesD} {p : PlaceD} (h : POkay r p) : 1 ≤ p.cells.length ∧ p.cells.length ≤ 64 := by
  obtain ⟨W, H, hw, hh, w1, w2, h1, h2, _, _⟩ := ok_nats h.e
  have hl : p.cells.length = W * H := by
    have := h.cl; rw [hw, hh, ← Int.natCast_mul] at this; exact_mod_cast this
  have a1 : W * H ≤ 8 * 8 := Nat.mul_le_mul w2 h2
  have a2 : 0 < W * H := Nat.mul_pos (by omega) (by omega)
  omega
theorem fromD_length {r : RulesD} {p : PlaceD} (h : POkay r p) (src : Int) : (fromD r p src).length ≤ 64 := by
  unfold fromD
  split
  · rw [List.length_map]
    have h1 := List.length_filter_le (fun t => decide (t ∈ tosD r p src)) (squares p)
    rw [squares_length] at h1
    have := (cells_len h).2
    omega
  · exact Nat.zero_le _
theorem kindsOf_length {r : RulesD} {p : PlaceD} (h : POkay r p) : (kindsOf p).length ≤ 6 := by
  unfold kindsOf
  rw [List.length_map]
  have h1 := List.length_filter_le (fun k => decide (0 < (handI p)[k]?.getD 0)) (List.range (handI p).length)
  have h2 := hand_len h
  have := (pieces_len h.e).2
  rw [List.length_range] at h1
  omega
theorem putAt_length {r : RulesD} {p : PlaceD} (h : POkay r p) (t : Int) : (putAt r p t).length ≤ 6 := by
  unfold putAt
  split
  · rw [List.length_map]; exact kindsOf_length h
  · exact Nat.zero_le _
theorem putsD_length {r : RulesD} {p : PlaceD} (h : POkay r p) : (putsD r p).length ≤ 384 := by
  have h1 := flat_length (putAt r p) 6 (squares p) fun t _ => putAt_length h t
  rw [squares_length] at h1
  have := (cells_len h).2
  unfold putsD; omega
theorem allD_length {r : RulesD} {p : PlaceD} (h : POkay r p) : (allD r p).length ≤ 5000 := by
  have h1 := flat_length (fromD r p) 64 (squares p) fun t _ => fromD_length h t
  rw [squares_length] at h1
  have := (cells_len h).2
  have := putsD_length h
  unfold allD
  rw [List.length_append]; omega
/-- Two ascending lists of the same numbers are the same. -/
theorem asc_ext : ∀ {l k : List Int}, l.Pairwise (· < ·) → k.Pairwise (· < ·) → (∀ x, x ∈ l ↔ x ∈ k) → l = k
  | [], [], _, _, _ => rfl
  | [], y :: k, _, _, h => by have := (h y).2 (List.mem_cons_self ..); cases this
  | x :: l, [], _, _, h => by have := (h x).1 (List.mem_cons_self ..); cases this
  | x :: l, y :: k, h1, h2, h => by
    rw [List.pairwise_cons] at h1 h2
    have hxy : x = y := by
      rcases List.mem_cons.1 ((h x).1 (List.mem_cons_self ..)) with e | e
      · exact e
      · rcases List.mem_cons.1 ((h y).2 (List.mem_cons_self ..)) with e2 | e2
        · exact e2.symm
        · have a := h2.1 x e; have b := h1.1 y e2; omega
    subst hxy
    rw [asc_ext h1.2 h2.2 fun z => ?_]
    constructor
    · intro hz
      rcases List.mem_cons.1 ((h z).1 (List.mem_cons_of_mem _ hz)) with e | e
      · subst e; have := h1.1 z hz; omega
      · exact e
    · intro hz
      rcases List.mem_cons.1 ((h z).2 (List.mem_cons_of_mem _ hz)) with e | e
      · subst e; have := h2.1 z hz; omega
      · exact e
theorem legalB_all {r : RulesD} {p : PlaceD} {m : MoveD} : legalB r p m = true ↔ m ∈ allD r p := by
  unfold legalB allD movesOf
  simp only [Bool.and_eq_true, decide_eq_true_eq, List.mem_append]
  have hp : m ∈ putsD r p → m.1 = -1 := by
    intro h
    obtain ⟨t, _, h2⟩ := List.mem_flatMap.1 h
    unfold putAt at h2
    split at h2
    · obtain ⟨k, _, rfl⟩ := List.mem_map.1 h2; rfl
    · cases h2
  have hf : ∀ s, m ∈ fromD r p s → m.1 = s := by
    intro s h
    unfold fromD at h
    split at h
    · obtain ⟨t, _, rfl⟩ := List.mem_map.1 h; rfl
    · cases h
  constructor
  · rintro ⟨h1, h2, h3⟩
    split at h3
    · exact .inl h3
    · exact .inr (List.mem_flatMap.2 ⟨m.1, squares_mem.2 ⟨by omega, h2⟩, h3⟩)
  · rintro (h | h)
    · have := hp h
      exact ⟨by omega, by omega, by rw [if_pos this]; exact h⟩
    · obtain ⟨s, h1, h2⟩ := List.mem_flatMap.1 h
      have hs := hf s h2
      rw [squares_mem] at h1
      subst hs
      exact ⟨by omega, h1.2, by rw [if_neg (by omega)]; exact h2⟩
end Go.Proofs.YtdhhdkbnlddnbaaGreatDoor

set_option maxRecDepth 100000
namespace Go.Proofs.YtdhhdkbnlddnbaaGreatDoor
open Go.ChangeShapes Go.WideShapes Go.ChangeAt Go.RowKit

theorem mIsOf_any (c pl : Int) (w : World) (h0 : 0 ≤ c) (h1 : c ≤ 1000) :
    Calls Tryz.prog 73 #[.int .i64 c, .int .i64 pl] w fun e w' => e = .returned (.bool (isOfB c pl)) ∧ w' = w := by
  by_cases hc : c = 0
  · subst hc
    go_enter Tryz.func73, Tryz.ntmps73
    go_wp2
    go_ret
    exact ⟨rfl, rfl⟩
  · obtain ⟨d, hd⟩ : ∃ d, d = c - 1 := ⟨_, rfl⟩
    have hne : (c != 0) = true := by simpa using hc
    have K : Hid (((c - 1) % 2 == pl) = isOfB c pl) := Lib.hid (by
      unfold isOfB; rw [decide_eq_true hc, Bool.true_and]
      by_cases h : (c - 1) % 2 = pl <;> simp [h])
    have h2 : 0 ≤ c - 1 := by omega
    clear hd hc
    go_enter Tryz.func73, Tryz.ntmps73
    go_wp2
    go_ret
    exact ⟨ret_bool K.out, rfl⟩
theorem mKindOf_any (c : Int) (w : World) (h0 : 1 ≤ c) (h1 : c ≤ 1000) :
    Calls Tryz.prog 55 #[.int .i64 c] w fun e w' => e = .returned (.int .i64 (kindOfI c)) ∧ w' = w := by
  have K : Hid ((c - 1) / 2 = kindOfI c) := Lib.hid rfl
  have h2 : 0 ≤ c - 1 := by omega
  go_enter Tryz.func55, Tryz.ntmps55
  go_wp2
  go_ret
  exact ⟨ret_i64 K.out, rfl⟩
theorem mCellOf_any (k pl : Int) (w : World) (h0 : 0 ≤ k) (h1 : k ≤ 100) (p0 : 0 ≤ pl) (p1 : pl ≤ 1) :
    Calls Tryz.prog 56 #[.int .i64 k, .int .i64 pl] w fun e w' => e = .returned (.int .i64 (2 * k + pl + 1)) ∧ w' = w := by
  go_enter Tryz.func56, Tryz.ntmps56
  go_wp2
  go_ret
  exact ⟨rfl, rfl⟩
theorem mOpp_any (pl : Int) (w : World) (p0 : 0 ≤ pl) (p1 : pl ≤ 1) :
    Calls Tryz.prog 54 #[.int .i64 pl] w fun e w' => e = .returned (.int .i64 (1 - pl)) ∧ w' = w := by
  go_enter Tryz.func54, Tryz.ntmps54
  go_wp2
  go_ret
  exact ⟨rfl, rfl⟩
set_option maxHeartbeats 1000000 in
theorem canEnd_any (take c pl : Int) (w : World) (h0 : 0 ≤ c) (h1 : c ≤ 1000) (p0 : 0 ≤ pl) (p1 : pl ≤ 1) :
    Calls Tryz.prog 96 #[.int .i64 take, .int .i64 c, .int .i64 pl] w fun e w' => e = .returned (.bool (canEndB take c pl)) ∧ w' = w := by
  obtain ⟨b, hb⟩ : ∃ b, b = isOfB c (1 - pl) := ⟨_, rfl⟩
  have HI : Hid (∀ W, Calls Tryz.prog 73 #[.int .i64 c, .int .i64 (1 - pl)] W fun e w' => e = .returned (.bool b) ∧ W = w') := Lib.hid (fun W => by rw [hb]; exact turned (mIsOf_any _ _ _ h0 h1))
  have HO : Hid (∀ W, Calls Tryz.prog 54 #[.int .i64 pl] W fun e w' => e = .returned (.int .i64 (1 - pl)) ∧ W = w') := Lib.hid (fun W => turned (mOpp_any _ _ p0 p1))
  have HK : Hid (canEndB take c pl = if take = 0 then decide (c = 0) else if take = 1 then (decide (c = 0) || b) else b) := Lib.hid (by rw [canEndB, hb])
  clear hb h0 h1 p0 p1
  by_cases t0 : take = 0
  · subst t0
    have K : Hid ((c == 0) = canEndB 0 c pl) := Lib.hid (by rw [HK.out, if_pos rfl]; by_cases h : c = 0 <;> simp [h])
    clear HK
    go_enter Tryz.func96, Tryz.ntmps96
    go_wp2_with fail
    go_at_call 54; refine (HO.out _).mono ?_; rintro e w' ⟨rfl, rfl⟩
    go_wp2_with fail
    go_at_call 73; refine (HI.out _).mono ?_; rintro e w' ⟨rfl, rfl⟩
    go_wp2_with fail
    go_ret
    exact ⟨ret_bool K.out, rfl⟩
  · have e0 : (take == 0) = false := by simpa using t0
    by_cases t1 : take = 1
    · subst t1
      by_cases hc : c = 0
      · have K : Hid (true = canEndB 1 c pl) := Lib.hid (by rw [HK.out, if_neg t0, if_pos rfl]; simp [hc])
        have hc2 : (c == 0) = true := by simpa using hc
        clear HK t0 hc
        go_enter Tryz.func96, Tryz.ntmps96
        go_wp2_with fail
        go_at_call 54; refine (HO.out _).mono ?_; rintro e w' ⟨rfl, rfl⟩
        go_wp2_with fail
        go_at_call 73; refine (HI.out _).mono ?_; rintro e w' ⟨rfl, rfl⟩
        go_wp2_with fail
        go_ret
        exact ⟨ret_bool K.out, rfl⟩
      · have K : Hid (b = canEndB 1 c pl) := Lib.hid (by rw [HK.out, if_neg t0, if_pos rfl]; simp [hc])
        have hc2 : (c == 0) = false := by simpa using hc
        clear HK t0 hc
        go_enter Tryz.func96, Tryz.ntmps96
        go_wp2_with fail
        go_at_call 54; refine (HO.out _).mono ?_; rintro e w' ⟨rfl, rfl⟩
        go_wp2_with fail
        go_at_call 73; refine (HI.out _).mono ?_; rintro e w' ⟨rfl, rfl⟩
        go_wp2_with fail
        go_ret
        exact ⟨ret_bool K.out, rfl⟩
    · have K : Hid (b = canEndB take c pl) := Lib.hid (by rw [HK.out, if_neg t0, if_neg t1])
      have e1 : (take == 1) = false := by simpa using t1
      clear HK t0 t1
      go_enter Tryz.func96, Tryz.ntmps96
      go_wp2_with fail
      go_at_call 54; refine (HO.out _).mono ?_; rintro e w' ⟨rfl, rfl⟩
      go_wp2_with fail
      go_at_call 73; refine (HI.out _).mono ?_; rintro e w' ⟨rfl, rfl⟩
      go_wp2_with fail
      go_ret
      exact ⟨ret_bool K.out, rfl⟩
theorem kindAtI_same {r : RulesD} {pl k t : Int} (h : (pieceOf r k).promote = 0) : kindAtI r pl k t = k := by rw [kindAtI, if_pos h]
set_option maxHeartbeats 4000000 in
theorem kindAt_any (r : RulesD) (vp vs ve : Value) (pl k t : Int) (w : World) (hr : IsRules w r vp vs ve) (hz : rulesE r = 0) (p0 : 0 ≤ pl) (p1 : pl ≤ 1) (k0 : 0 ≤ k) (k1 : k < r.pieces.length) (t0 : 0 ≤ t) (t1 : t ≤ 100) :
    Calls Tryz.prog 75 #[RulesV r vp vs ve, .int .i64 pl, .int .i64 k, .int .i64 t] w (BelPost (.int .i64 (kindAtI r pl k t)) w) := by
  obtain ⟨n, hn⟩ : ∃ n : Nat, n = r.pieces.length := ⟨_, rfl⟩
  obtain ⟨_, hw, hh, _⟩ := rulesE_ok hz
  rw [inB_iff] at hw hh
  obtain ⟨g1, g2, _, _⟩ := ways_good hz k0 k1
  have hn6 := (pieces_len hz).2
  obtain ⟨ap, cp, rfl, hcp, hcell⟩ := hr.1.shape hn
  obtain ⟨j, rfl⟩ : ∃ j : Nat, k = (j : Int) := ⟨k.toNat, by omega⟩
  have hjn : j < n := by omega
  obtain ⟨g, off, x, rfl, hx, hq⟩ := hcell j hjn
  have hxp : pieceOf r (j : Int) = x := by
    have h := pieceOf_in (r := r) k1 k0
    rw [Int.toNat_natCast, hx] at h
    exact (Option.some.inj h).symm
  have hB : Below w.heap.size w (w.alloc (.cells (RulesCells r (.slice (some ⟨g, off, none⟩) n cp) vs ve) 26)) := (Below.refl _ _).alloc (Nat.le_refl _) _
  obtain ⟨u, d0, d1, d2, d3, _⟩ := piece_keeps _ _ _ _ _ _ hB (Nat.le_refl _) hq
  have HB : Hid _ := Lib.hid hB
  have hY := boxR_new w r (.slice (some ⟨g, off, none⟩) n cp) vs ve 26
  obtain ⟨y0, y1, y2, y3, y4, y5, y6, y7, y8, y9, y10⟩ := hY
  obtain ⟨pr, hpr⟩ : ∃ pr, pr = x.promote := ⟨_, rfl⟩
  rw [hxp, ← hpr] at g1 g2
  rw [← hpr] at d2
  have HK : Hid (∀ c, (if pr = 0 then (j : Int) else if t / r.width = (if pl = 1 then 0 else r.height - 1) then pr - 1 else (j : Int)) = c → c = kindAtI r pl (j : Int) t) := Lib.hid (fun c h => by rw [← h, kindAtI, hxp, ← hpr]; rfl)
  rw [← hn] at g2 k1 hn6
  obtain ⟨hw1, hw2⟩ := hw
  obtain ⟨hh1, hh2⟩ := hh
  have q0 : 0 ≤ t / r.width := Int.ediv_nonneg t0 (by omega)
  unfold RulesCells at HB y0 y1 y2 y3 y4 y5 y6 y7 y8 y9 y10 d0 d1 d2 d3
  unfold RulesV
  clear hr hn hz hcell hx hq hxp hpr hB k0 d0 d1 d3
  by_cases e1 : pl = 1
  · subst e1
    by_cases e2 : pr = 0
    · have K : Hid ((j : Int) = kindAtI r 1 (j : Int) t) := Lib.hid (HK.out _ (by rw [if_pos e2]))
      have e2b : (pr == 0) = true := by simpa using e2
      clear HK e2
      go_enter Tryz.func75, Tryz.ntmps75
      go_wp2
      go_ret
      exact ⟨ret_i64 K.out, HB.out⟩
    · have e2b : (pr == 0) = false := by simpa using e2
      by_cases e3 : t / r.width = 0
      · have K : Hid (pr - 1 = kindAtI r 1 (j : Int) t) := Lib.hid (HK.out _ (by rw [if_neg e2, if_pos rfl, if_pos e3]))
        have e3b : (t / r.width != 0) = false := by simpa using e3
        clear HK e2 e3
        go_enter Tryz.func75, Tryz.ntmps75
        go_wp2
        go_ret
        exact ⟨ret_i64 K.out, HB.out⟩
      · have K : Hid ((j : Int) = kindAtI r 1 (j : Int) t) := Lib.hid (HK.out _ (by rw [if_neg e2, if_pos rfl, if_neg e3]))
        have e3b : (t / r.width != 0) = true := by simpa using e3
        clear HK e2 e3
        go_enter Tryz.func75, Tryz.ntmps75
        go_wp2
        go_ret
        exact ⟨ret_i64 K.out, HB.out⟩
  · have e1b : (pl == 1) = false := by simpa using e1
    by_cases e2 : pr = 0
    · have K : Hid ((j : Int) = kindAtI r pl (j : Int) t) := Lib.hid (HK.out _ (by rw [if_pos e2]))
      have e2b : (pr == 0) = true := by simpa using e2
      clear HK e2 e1
      go_enter Tryz.func75, Tryz.ntmps75
      go_wp2
      go_ret
      exact ⟨ret_i64 K.out, HB.out⟩
    · have e2b : (pr == 0) = false := by simpa using e2
      by_cases e3 : t / r.width = r.height - 1
      · have K : Hid (pr - 1 = kindAtI r pl (j : Int) t) := Lib.hid (HK.out _ (by rw [if_neg e2, if_neg e1, if_pos e3]))
        have e3b : (t / r.width != r.height - 1) = false := by simpa using e3
        clear HK e2 e3 e1
        go_enter Tryz.func75, Tryz.ntmps75
        go_wp2
        go_ret
        exact ⟨ret_i64 K.out, HB.out⟩
      · have K : Hid ((j : Int) = kindAtI r pl (j : Int) t) := Lib.hid (HK.out _ (by rw [if_neg e2, if_neg e1, if_neg e3]))
        have e3b : (t / r.width != r.height - 1) = true := by simpa using e3
        clear HK e2 e3 e1
        go_enter Tryz.func75, Tryz.ntmps75
        go_wp2
        go_ret
        exact ⟨ret_i64 K.out, HB.out⟩
end Go.Proofs.YtdhhdkbnlddnbaaGreatDoor

set_option maxRecDepth 100000
namespace Go.Proofs.YtdhhdkbnlddnbaaGreatDoor
open Go.ChangeShapes Go.WideShapes Go.ChangeAt Go.RowKit

theorem ints_open {W : World} {v : Value} {xs : List Int} (h : IsSl IntAt 1 W v xs) (hne : 1 ≤ xs.length) : ∃ g off cap, v = .slice (some ⟨g, off, none⟩) xs.length cap ∧ xs.length ≤ cap ∧ ∀ j, j < xs.length → W.cell? ⟨g, off + j, none⟩ = some (.int .i64 (xs[j]?.getD 0)) := by
  rcases h with ⟨rfl, _⟩ | ⟨g, off, cap, e1, e2, e3, e4, hc⟩
  · simp at hne
  · refine ⟨g, off, cap, e1, e3, fun j hj => ?_⟩
    have h := hc j _ (List.getElem?_eq_getElem hj)
    rw [IntAt, Nat.mul_one] at h
    rw [h, List.getElem?_eq_getElem hj]; rfl
/-- The boxes of rules and of a position that a call begins with. -/
theorem rp_boxes (w : World) (r : RulesD) (p : PlaceD) (vp vs ve vc v0 v1 : Value) : Below w.heap.size w ((w.alloc (.cells (RulesCells r vp vs ve) 26)).alloc (.cells (PlaceCells p vc v0 v1) 29)) ∧
    BoxR ((w.alloc (.cells (RulesCells r vp vs ve) 26)).alloc (.cells (PlaceCells p vc v0 v1) 29)) w.heap.size r vp vs ve ∧
    BoxP ((w.alloc (.cells (RulesCells r vp vs ve) 26)).alloc (.cells (PlaceCells p vc v0 v1) 29)) (w.heap.size + 1) p vc v0 v1 := by
  refine ⟨((Below.refl _ _).alloc (Nat.le_refl _) _).alloc (by simp) _, (boxR_new w r vp vs ve _).below ((Below.refl _ _).alloc (Nat.le_refl _) _) (Nat.le_refl _), ?_⟩
  have h := boxP_new (w.alloc (.cells (RulesCells r vp vs ve) 26)) p vc v0 v1 29
  rwa [World.size_alloc] at h
theorem supp_end (r : RulesD) (p : PlaceD) (t i : Int) (hi : i < 0) (hall : ∀ s : Int, i < s → s < t → s % r.width = t % r.width → cellI p s ≠ 0) : suppB r p t = true := by
  unfold suppB
  rw [List.all_eq_true]
  intro s hs
  rw [List.mem_range] at hs
  by_cases h1 : (s : Int) % r.width = t % r.width
  · have h2 := hall s (by omega) (by omega) h1
    simp [h1, h2]
  · simp [h1]
theorem supp_no (r : RulesD) (p : PlaceD) (t i : Int) (h0 : 0 ≤ i) (h1 : i < t) (h2 : i % r.width = t % r.width) (h3 : cellI p i = 0) : suppB r p t = false := by
  rw [Bool.eq_false_iff]
  intro h
  unfold suppB at h
  rw [List.all_eq_true] at h
  have h4 := h i.toNat (List.mem_range.2 (by omega))
  rw [Int.toNat_of_nonneg h0] at h4
  simp [h2, h3] at h4
theorem mod_gap {W s i : Int} (h1 : i < s) (h2 : s < i + W) : s % W ≠ i % W := by
  intro h
  have h3 : (s - i) % W = 0 := by rw [Int.sub_emod, h]; simp
  have h4 := Int.emod_eq_of_lt (a := s - i) (b := W) (by omega) (by omega)
  omega
set_option maxHeartbeats 4000000 in
theorem isSupported_any (r : RulesD) (p : PlaceD) (vp vs ve vc v0 v1 : Value) (t : Int) (w : World) (hp : PlaceIn w p vc v0 v1) (hk : POkay r p) (t0 : 0 ≤ t) (t1 : t < p.cells.length) :
    Calls Tryz.prog 95 #[RulesV r vp vs ve, PlaceV p vc v0 v1, .int .i64 t] w (BelPost (.bool (suppB r p t)) w) := by
  obtain ⟨_, hw, hh, _⟩ := rulesE_ok hk.e
  rw [inB_iff] at hw hh
  obtain ⟨hw1, hw2⟩ := hw
  have hcl := cells_len hk
  obtain ⟨g, off, cc, rfl, hcc, hcell⟩ := ints_open hp.c hcl.1
  obtain ⟨m, hm⟩ : ∃ m, m = p.cells.length := ⟨_, rfl⟩
  rw [← hm] at t1 hcc hcell hcl ⊢
  obtain ⟨hB, hY, hX⟩ := rp_boxes w r p vp vs ve (.slice (some ⟨g, off, none⟩) m cc) v0 v1
  have HB := Lib.hid hB
  have HC : Hid (∀ j, j < m → ((w.alloc (.cells (RulesCells r vp vs ve) 26)).alloc (.cells (PlaceCells p (.slice (some ⟨g, off, none⟩) m cc) v0 v1) 29)).cell? ⟨g, off + j, none⟩ = some (.int .i64 (cellI p (j : Int)))) := Lib.hid (fun j hj => by
    rw [cellI, Int.toNat_natCast]; exact cell_keeps hB (Nat.le_refl _) (hcell j hj))
  have HS := Lib.hid (supp_end r p t)
  have HN := Lib.hid (supp_no r p t)
  unfold RulesCells PlaceCells at HB HC hX hY
  unfold RulesV PlaceV PlaceCells
  have HX := Lib.hid hX
  have HY := Lib.hid hY
  obtain ⟨x0, x1, x2, x3, x4⟩ := hX
  obtain ⟨y0, y1, y2, y3, y4, y5, y6, y7, y8, y9, y10⟩ := hY
  clear hp hk hm hcell hB hh
  go_enter Tryz.func95, Tryz.ntmps95
  go_wp2
  clear x0 x1 x2 x3 x4 y0 y1 y2 y3 y4 y5 y6 y7 y8 y9 y10
  go_loopw [7] (fun v wr => ∃ i : Int, v = .int .i64 i ∧ -8 ≤ i ∧ i < t ∧ Hid (i % r.width = t % r.width) ∧ Hid (∀ s : Int, i < s → s < t → s % r.width = t % r.width → cellI p s ≠ 0) ∧ wr = ((w.alloc (.cells #[.string r.name, .int .i64 r.width, .int .i64 r.height, vp, vs, .bool r.falls, .bool r.keeps, ve, .int .i64 r.blocked, .int .i64 r.quiet, .int .i64 r.rep] 26)).alloc (.cells #[.slice (some ⟨g, off, none⟩) m cc, v0, v1, .int .i64 p.turn, .int .i64 p.quiet] 29))) (fun v _ => (intOf v + 9).toNat)
  case atStart =>
    refine ⟨t - r.width, rfl, by omega, by omega, Lib.hid (by rw [Int.sub_emod_right]), Lib.hid (fun s h1 h2 h3 => ?_), rfl⟩
    exact absurd h3.symm (mod_gap h2 (by omega))
  case round =>
    obtain ⟨i, rfl, hi0, hi1, hmod, hall, rfl⟩ := hrel
    obtain ⟨y0, y1, y2, y3, y4, y5, y6, y7, y8, y9, y10⟩ := HY.out
    obtain ⟨x0, x1, x2, x3, x4⟩ := HX.out
    by_cases hneg : i < 0
    · have K : Hid (true = suppB r p t) := Lib.hid (HS.out _ hneg hall.out).symm
      have hd : decide (i ≥ 0) = false := by simp; omega
      clear HC HS HN
      go_wp2
      go_ret
      exact ⟨ret_bool K.out, HB.out⟩
    · obtain ⟨j, rfl⟩ : ∃ j : Nat, i = (j : Int) := ⟨i.toNat, by omega⟩
      have hjm : j < m := by omega
      have hjc : j < cc := by omega
      have c0 := HC.out j hjm
      obtain ⟨c, hc⟩ : ∃ c, c = cellI p (j : Int) := ⟨_, rfl⟩
      rw [← hc] at c0
      by_cases hz : c = 0
      · have K : Hid (false = suppB r p t) := Lib.hid (HN.out _ (by omega) hi1 hmod.out (by rw [← hc]; exact hz)).symm
        have hz2 : (c == 0) = true := by simpa using hz
        clear HC HS HN hc hz
        go_wp2
        go_ret
        exact ⟨ret_bool K.out, HB.out⟩
      · have hz2 : (c == 0) = false := by simpa using hz
        have KM : Hid (((j : Int) - r.width) % r.width = t % r.width) := Lib.hid (by rw [Int.sub_emod_right]; exact hmod.out)
        have KA : Hid (∀ s : Int, (j : Int) - r.width < s → s < t → s % r.width = t % r.width → cellI p s ≠ 0) := Lib.hid (fun s h1 h2 h3 => by
          by_cases h4 : (j : Int) < s
          · exact hall.out s h4 h2 h3
          · by_cases h5 : s = (j : Int)
            · rw [h5, ← hc]; exact hz
            · exfalso
              have := mod_gap (W := r.width) (i := s) (s := (j : Int)) (by omega) (by omega)
              exact this (by rw [h3, hmod.out]))
        clear HC HS HN hc hz
        go_wp2
        go_roundw
        case rel => exact ⟨(j : Int) - r.width, by go_num, by omega, by omega, KM, KA, by first | rfl | trivial⟩
        case measure => simp [intOf]; omega

/-- Cells that a slice of one's own leads to. -/
theorem ints_of_owns {W : World} {B : Nat} {e : TypeId} {v : Value} {n : Nat} {xs : List Int} (h : W.ownsRow B e 1 v n (xs.map (Value.int .i64))) : IsSl IntAt 1 W v xs := by
  have hl : xs.length = n := by have := h.1; simpa using this
  rcases h.2 with ⟨rfl, rfl⟩ | ⟨g, cap, cur, rfl, _, _, hkc, hcm, _, _⟩
  · exact .inl ⟨List.eq_nil_of_length_eq_zero hl, none, 0, rfl⟩
  · by_cases e : xs = []
    · subst e
      obtain rfl : n = 0 := by simpa using hl.symm
      exact .inl ⟨rfl, _, _, rfl⟩
    · refine .inr ⟨g, 0, cap, by rw [hl], e, by omega, hcm, fun i x hx => ?_⟩
      have hi : i < n := by rw [← hl]; exact (List.getElem?_eq_some_iff.1 hx).1
      have h2 := h.cellAt i (by omega)
      rw [List.getElem?_map, hx] at h2
      rw [IntAt, Nat.zero_add, Nat.mul_one]; exact h2
def SlPost {α : Type} (q : World → Nat → Nat → α → Prop) (k : Nat) (xs : List α) (w : World) (e : Ending) (w' : World) : Prop := ∃ a n c, e = .returned (.slice a n c) ∧ IsSl q k w' (.slice a n c) xs ∧ (a = none → n = 0 ∧ c = 0) ∧ Below w.heap.size w w'
theorem owns_nil {W : World} {B : Nat} {e : TypeId} {k : Nat} {a : Option Addr} {n m c : Nat} {xs : List Value} (h : W.ownsRow B e k (.slice a n c) m xs) (ha : a = none) : n = 0 ∧ c = 0 := by
  rcases h.2 with ⟨h1, _⟩ | ⟨g, cap, cur, e1, _⟩
  · simp only [Value.slice.injEq] at h1; exact h1.2
  · simp only [Value.slice.injEq] at e1; rw [ha] at e1; cases e1.1
def iv (xs : List Int) : List Value := xs.map (Value.int .i64)
theorem iv_append (xs : List Int) (x : Int) : iv (xs ++ [x]) = iv xs ++ [.int .i64 x] := by simp [iv]
theorem reach_off {r : RulesD} {p : PlaceD} {dx dy take x y : Int} {m : Nat} (h : onB r (x + dx) (y + dy) = false) : reach r p dx dy take m x y = [] := by
  cases m with
  | zero => rfl
  | succ m => rw [reach, if_neg (by simp [h])]
theorem reach_on {r : RulesD} {p : PlaceD} {dx dy take x y X Y T : Int} {m : Nat} (hX : x + dx = X) (hY : y + dy = Y) (hT : Y * r.width + X = T) (h : onB r X Y = true) :
    reach r p dx dy take (m + 1) x y = (if canEndB take (cellI p T) p.turn = true then [T] else []) ++ (if cellI p T = 0 then reach r p dx dy take m X Y else []) := by
  rw [reach, hX, hY, hT, if_pos h]
end Go.Proofs.YtdhhdkbnlddnbaaGreatDoor

set_option maxRecDepth 100000
namespace Go.Proofs.YtdhhdkbnlddnbaaGreatDoor
open Go.RowKit

/-- What every legal move is, whichever it is. -/
structure MoveOK (r : RulesD) (p : PlaceD) (m : MoveD) : Prop where
  t0 : 0 ≤ m.2.1
  t1 : m.2.1 < p.cells.length
  k0 : 0 ≤ m.2.2
  k1 : m.2.2 < r.pieces.length
  src : (m.1 = -1 ∧ cellI p m.2.1 = 0 ∧ 1 ≤ nth (handI p) m.2.2) ∨ (0 ≤ m.1 ∧ m.1 < p.cells.length)
theorem puts_mem {r : RulesD} {p : PlaceD} {m : MoveD} : m ∈ putsD r p ↔ m.1 = -1 ∧ m.2.1 ∈ squares p ∧ freeB r p m.2.1 = true ∧ m.2.2 ∈ kindsOf p := by
  unfold putsD
  rw [List.mem_flatMap]
  constructor
  · rintro ⟨t, h1, h2⟩
    unfold putAt at h2
    split at h2
    · rename_i hf
      obtain ⟨k, hk, rfl⟩ := List.mem_map.1 h2
      exact ⟨rfl, h1, hf, hk⟩
    · cases h2
  · rintro ⟨h1, h2, h3, h4⟩
    refine ⟨m.2.1, h2, ?_⟩
    unfold putAt
    rw [if_pos h3, List.mem_map]
    exact ⟨m.2.2, h4, by rw [← h1]⟩
theorem kindsOf_mem {p : PlaceD} {k : Int} : k ∈ kindsOf p ↔ 0 ≤ k ∧ k < (handI p).length ∧ 0 < nth (handI p) k := by
  unfold kindsOf nth
  simp only [List.mem_map, List.mem_filter, List.mem_range, decide_eq_true_eq]
  constructor
  · rintro ⟨i, ⟨h1, h2⟩, rfl⟩
    rw [Int.toNat_natCast]
    exact ⟨by omega, by omega, h2⟩
  · rintro ⟨h0, h1, h2⟩
    exact ⟨k.toNat, ⟨by omega, h2⟩, by omega⟩
theorem from_mem {r : RulesD} {p : PlaceD} {s : Int} {m : MoveD} : m ∈ fromD r p s ↔ isOfB (cellI p s) p.turn = true ∧ m.1 = s ∧ m.2.1 ∈ squares p ∧ m.2.1 ∈ tosD r p s ∧ m.2.2 = kindAtI r p.turn (kindOfI (cellI p s)) m.2.1 := by
  unfold fromD
  split
  · rename_i h
    rw [List.mem_map]
    constructor
    · rintro ⟨t, ht, rfl⟩
      rw [List.mem_filter, decide_eq_true_eq] at ht
      exact ⟨h, rfl, ht.1, ht.2, rfl⟩
    · rintro ⟨_, h1, h2, h3, h4⟩
      exact ⟨m.2.1, List.mem_filter.2 ⟨h2, decide_eq_true h3⟩, by unfold mkFrom; rw [← h4, ← h1]⟩
  · rename_i h
    constructor
    · intro h1; cases h1
    · rintro ⟨h1, _⟩; exact absurd h1 h
theorem isOf_ne {c pl : Int} (h : isOfB c pl = true) : c ≠ 0 := by
  intro e; unfold isOfB at h; rw [e] at h; simp at h
theorem kindAt_in {r : RulesD} (hz : rulesE r = 0) {pl k t : Int} (h0 : 0 ≤ k) (h1 : k < r.pieces.length) : 0 ≤ kindAtI r pl k t ∧ kindAtI r pl k t < r.pieces.length := by
  obtain ⟨g1, g2, _, _⟩ := ways_good hz h0 h1
  unfold kindAtI
  split
  · exact ⟨h0, h1⟩
  · split
    · omega
    · exact ⟨h0, h1⟩
theorem legal_ok {r : RulesD} {p : PlaceD} (h : POkay r p) {m : MoveD} (hm : legalB r p m = true) : MoveOK r p m := by
  rw [legalB_all] at hm
  unfold allD at hm
  rcases List.mem_append.1 hm with hm | hm
  · obtain ⟨h1, h2, h3, h4⟩ := puts_mem.1 hm
    rw [squares_mem] at h2
    rw [kindsOf_mem, hand_len h] at h4
    unfold freeB at h3
    rw [Bool.and_eq_true, decide_eq_true_eq] at h3
    exact ⟨h2.1, h2.2, h4.1, h4.2.1, .inl ⟨h1, h3.1, by omega⟩⟩
  · obtain ⟨s, hs, h2⟩ := List.mem_flatMap.1 hm
    obtain ⟨h3, h4, h5, _, h7⟩ := from_mem.1 h2
    rw [squares_mem] at hs h5
    have hk := kind_in h (isOf_ne h3)
    have hka := kindAt_in (pl := p.turn) (t := m.2.1) h.e hk.1 hk.2
    rw [← h7] at hka
    exact ⟨h5.1, h5.2, hka.1, hka.2, .inr (by rw [h4]; exact hs)⟩
theorem set_in {l : List Int} {i x a b : Int} (hl : ∀ c ∈ l, a ≤ c ∧ c ≤ b) (hx : a ≤ x ∧ x ≤ b) : ∀ c ∈ setI l i x, a ≤ c ∧ c ≤ b := by
  intro c hc
  unfold setI at hc
  rcases List.mem_or_eq_of_mem_set hc with h | h
  · exact hl c h
  · rw [h]; exact hx
theorem setI_length (l : List Int) (i x : Int) : (setI l i x).length = l.length := by simp [setI]
theorem handPut_in {r : RulesD} {p : PlaceD} (h : POkay r p) {m : MoveD} (hm : MoveOK r p m) : (∀ c ∈ handPut p m, 0 ≤ c ∧ c ≤ 1000) ∧ (handPut p m).length = r.pieces.length := by
  unfold handPut
  split
  · rename_i h1
    have h2 := nth_in (by omega) (hand_in h) m.2.2
    have h3 : 1 ≤ nth (handI p) m.2.2 := by
      rcases hm.src with hs | hs
      · exact hs.2.2
      · omega
    exact ⟨set_in (hand_in h) (by omega), by rw [setI_length, hand_len h]⟩
  · exact ⟨hand_in h, hand_len h⟩
theorem handD_in {r : RulesD} {p : PlaceD} (h : POkay r p) {m : MoveD} (hm : MoveOK r p m) : (∀ c ∈ handD r p m, 0 ≤ c ∧ c ≤ 1000) ∧ (handD r p m).length = r.pieces.length := by
  obtain ⟨h1, h2⟩ := handPut_in h hm
  unfold handD
  split
  · have h3 := nth_in (by omega) h1 (kindOfI (cellI p m.2.1))
    exact ⟨set_in h1 (by omega), by rw [setI_length, h2]⟩
  · exact ⟨h1, h2⟩
theorem after_ok {r : RulesD} {p : PlaceD} (h : POkay r p) {m : MoveD} (hm : MoveOK r p m) : POkay r (afterD r p m) := by
  obtain ⟨h1, h2⟩ := handD_in h hm
  have t0 := h.t0
  have t1 := h.t1
  have k0 := hm.k0
  have k1 := hm.k1
  refine ⟨h.e, ?_, ?_, ?_, ?_, ?_, ?_, ?_, ?_, ?_, ?_⟩
  · show ((cellsD p m).length : Int) = _
    unfold cellsD
    rw [setI_length]
    split
    · exact h.cl
    · rw [setI_length]; exact h.cl
  · show (if p.turn = 0 then handD r p m else p.h0).length = _
    split
    · exact h2
    · exact h.l0
  · show (if p.turn = 0 then p.h1 else handD r p m).length = _
    split
    · exact h.l1
    · exact h2
  · show ∀ c ∈ cellsD p m, _
    unfold cellsD
    refine set_in ?_ (by omega)
    split
    · exact h.cs
    · exact set_in h.cs (by omega)
  · show ∀ c ∈ (if p.turn = 0 then handD r p m else p.h0), _
    split
    · exact h1
    · exact h.n0
  · show ∀ c ∈ (if p.turn = 0 then p.h1 else handD r p m), _
    split
    · exact h.n1
    · exact h1
  · show 0 ≤ 1 - p.turn
    omega
  · show 1 - p.turn ≤ 1
    omega
  · show 0 ≤ (if m.1 = -1 ∨ cellI p m.2.1 ≠ 0 then 0 else min (p.quiet + 1) 200)
    have := h.q0
    split <;> omega
  · show (if m.1 = -1 ∨ cellI p m.2.1 ≠ 0 then 0 else min (p.quiet + 1) 200) ≤ 200
    split <;> omega

/-! ### The order of all moves -/
def ltM (x y : MoveD) : Prop := x.1 < y.1 ∨ (x.1 = y.1 ∧ (x.2.1 < y.2.1 ∨ (x.2.1 = y.2.1 ∧ x.2.2 < y.2.2)))
theorem ltM_ne {x y : MoveD} (h : ltM x y) : x ≠ y := by
  intro e; subst e
  unfold ltM at h; omega
theorem kindsOf_asc (p : PlaceD) : (kindsOf p).Pairwise (· < ·) := by
  unfold kindsOf
  rw [List.pairwise_map]
  exact (List.pairwise_lt_range.sublist List.filter_sublist).imp fun h => by omega
theorem puts_asc (r : RulesD) (p : PlaceD) : (putsD r p).Pairwise ltM := by
  unfold putsD
  rw [List.pairwise_flatMap]
  refine ⟨fun t _ => ?_, (squares_asc p).imp fun {a b} hab => ?_⟩
  · unfold putAt
    split
    · rw [List.pairwise_map]
      exact (kindsOf_asc p).imp fun h => .inr ⟨rfl, .inr ⟨rfl, h⟩⟩
    · exact List.Pairwise.nil
  · intro x hx y hy
    unfold putAt at hx hy
    split at hx
    · split at hy
      · obtain ⟨k, _, rfl⟩ := List.mem_map.1 hx
        obtain ⟨l, _, rfl⟩ := List.mem_map.1 hy
        exact .inr ⟨rfl, .inl hab⟩
      · cases hy
    · cases hx
theorem from_asc (r : RulesD) (p : PlaceD) (s : Int) : (fromD r p s).Pairwise ltM := by
  unfold fromD
  split
  · rw [List.pairwise_map]
    exact ((squares_asc p).sublist List.filter_sublist).imp fun h => .inr ⟨rfl, .inl h⟩
  · exact List.Pairwise.nil
theorem all_asc (r : RulesD) (p : PlaceD) : (allD r p).Pairwise ltM := by
  unfold allD
  rw [List.pairwise_append]
  refine ⟨puts_asc r p, ?_, fun x hx y hy => ?_⟩
  · rw [List.pairwise_flatMap]
    refine ⟨fun s _ => from_asc r p s, (squares_asc p).imp fun {a b} hab => ?_⟩
    intro x hx y hy
    have h1 := (from_mem.1 hx).2.1
    have h2 := (from_mem.1 hy).2.1
    exact .inl (by omega)
  · obtain ⟨s, hs, h2⟩ := List.mem_flatMap.1 hy
    have h3 := (puts_mem.1 hx).1
    have h4 := (from_mem.1 h2).2.1
    rw [squares_mem] at hs
    exact .inl (by omega)
theorem all_nodup (r : RulesD) (p : PlaceD) : (allD r p).Nodup := (all_asc r p).imp fun h => ltM_ne h
theorem all_next {r : RulesD} {p : PlaceD} {i : Nat} {x y : MoveD} (hx : (allD r p)[i]? = some x) (hy : (allD r p)[i + 1]? = some y) : x ≠ y := by
  obtain ⟨h1, rfl⟩ := List.getElem?_eq_some_iff.1 hx
  obtain ⟨h2, rfl⟩ := List.getElem?_eq_some_iff.1 hy
  exact ltM_ne (List.pairwise_iff_getElem.1 (all_asc r p) i (i + 1) h1 h2 (by omega))
end Go.Proofs.YtdhhdkbnlddnbaaGreatDoor
