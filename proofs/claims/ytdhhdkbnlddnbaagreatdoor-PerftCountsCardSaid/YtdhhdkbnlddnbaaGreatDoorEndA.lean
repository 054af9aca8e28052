/- Merged by merge.py of the texts Shft EndD EndL EndS EndH EndK EndI EndO. -/
import Derived.Test.YtdhhdkbnlddnbaaGreatDoorRows
import Derived.Test.YtdhhdkbnlddnbaaGreatDoorWords
import Derived.Test.YtdhhdkbnlddnbaaGreatDoorRulA
import Derived.WalkKit
import Derived.ProofKit
import Derived.Lib.Hide
import Derived.Test.YtdhhdkbnlddnbaaGreatDoorMvA
import Derived.Test.YtdhhdkbnlddnbaaGreatDoorPlcA
import Derived.IntWalk
import Derived.Deep.RegionHeld3
import Derived.Test.YtdhhdkbnlddnbaaGreatDoorMvB
set_option maxRecDepth 100000
namespace Go.Proofs.YtdhhdkbnlddnbaaGreatDoor
open Go.ChangeShapes Go.WideShapes Go.ChangeAt Go.RowKit

theorem ret_u64 {a b : Int} (h : a = b) : Ending.returned (.int .u64 a) = .returned (.int .u64 b) := by rw [h]

theorem cols_any (b : BitVec 64) (dx : Int) (w : World) (h0 : -8 < dx) (h1 : dx < 8) :
    Calls Tryz.prog 148 #[.int .u64 (b.toNat : Int), .int .i64 dx] w fun e w' => e = .returned (.int .u64 ((colsV b dx).toNat : Int)) ∧ w' = w := by
  by_cases hn : dx < 0
  · have hm := maskN_int ⟨(-dx).toNat, by omega⟩
    simp only at hm
    have e : ((b.toNat : Int) = b.toNat) := rfl
    have key : bits BinOp.and IntKind.u64 (b.toNat : Int) (IntKind.u64.wrap (72340172838076673 * bits BinOp.and IntKind.u64 (IntKind.u64.wrap (255 * 2 ^ (-dx).toNat)) 255)) / 2 ^ (-dx).toNat = ((colsV b dx).toNat : Int) := by
      rw [hm, b_and, b_shr, colsV, if_pos hn]
    have K : Hid _ := Lib.hid key
    clear hm key e
    go_enter Tryz.func148, Tryz.ntmps148
    go_wp2
    go_ret
    exact ⟨ret_u64 K.out, rfl⟩
  · have hm := maskP_int ⟨dx.toNat, by omega⟩
    simp only at hm
    have key : IntKind.u64.wrap (bits BinOp.and IntKind.u64 (b.toNat : Int) (IntKind.u64.wrap (72340172838076673 * (255 / 2 ^ dx.toNat))) * 2 ^ dx.toNat) = ((colsV b dx).toNat : Int) := by
      rw [hm, b_and, b_shl, colsV, if_neg hn]
    have K : Hid _ := Lib.hid key
    clear hm key
    have hp : 0 ≤ dx := by omega
    clear hn
    go_enter Tryz.func148, Tryz.ntmps148
    go_wp2
    go_ret
    exact ⟨ret_u64 K.out, rfl⟩
theorem rows_any (b : BitVec 64) (dy : Int) (w : World) (h0 : -8 < dy) (h1 : dy < 8) :
    Calls Tryz.prog 147 #[.int .u64 (b.toNat : Int), .int .i64 dy] w fun e w' => e = .returned (.int .u64 ((rowsV b dy).toNat : Int)) ∧ w' = w := by
  by_cases hn : dy < 0
  · have key : (b.toNat : Int) / 2 ^ (8 * -dy).toNat = ((rowsV b dy).toNat : Int) := by rw [b_shr, rowsV, if_pos hn]
    have K : Hid _ := Lib.hid key
    clear key
    go_enter Tryz.func147, Tryz.ntmps147
    go_wp2
    go_ret
    exact ⟨ret_u64 K.out, rfl⟩
  · have key : IntKind.u64.wrap ((b.toNat : Int) * 2 ^ (8 * dy).toNat) = ((rowsV b dy).toNat : Int) := by rw [b_shl, rowsV, if_neg hn]
    have K : Hid _ := Lib.hid key
    clear key
    have hp : 0 ≤ dy := by omega
    clear hn
    go_enter Tryz.func147, Tryz.ntmps147
    go_wp2
    go_ret
    exact ⟨ret_u64 K.out, rfl⟩
theorem shift_near (b : BitVec 64) (dx dy : Int) (w : World) (h0 : -8 < dx) (h1 : dx < 8) (h2 : -8 < dy) (h3 : dy < 8) :
    Calls Tryz.prog 144 #[.int .u64 (b.toNat : Int), .int .i64 dx, .int .i64 dy] w fun e w' => e = .returned (.int .u64 ((shiftV b dx dy).toNat : Int)) ∧ w' = w := by
  have K : Hid (rowsV (colsV b dx) dy = shiftV b dx dy) := Lib.hid (by rw [shiftV, if_neg (by omega)])
  go_enter Tryz.func144, Tryz.ntmps144
  go_wp2_with (first
    | (go_at_call 148; refine (cols_any b dx _ (by omega) (by omega)).mono ?_; rintro e w' ⟨rfl, rfl⟩)
    | (go_at_call 147; refine (rows_any (colsV b dx) dy _ (by omega) (by omega)).mono ?_; rintro e w' ⟨rfl, rfl⟩))
  go_ret
  exact ⟨ret_u64 (by rw [K.out]), rfl⟩
theorem shift_far (b : BitVec 64) (dx dy : Int) (w : World) (h : dx ≤ -8 ∨ 8 ≤ dx ∨ dy ≤ -8 ∨ 8 ≤ dy) :
    Calls Tryz.prog 144 #[.int .u64 (b.toNat : Int), .int .i64 dx, .int .i64 dy] w fun e w' => e = .returned (.int .u64 ((shiftV b dx dy).toNat : Int)) ∧ w' = w := by
  have K : Hid ((0 : Int) = ((shiftV b dx dy).toNat : Int)) := Lib.hid (by rw [shiftV, if_pos h]; rfl)
  by_cases h0 : dx ≤ -8
  · clear h
    go_enter Tryz.func144, Tryz.ntmps144
    go_wp2
    go_ret
    exact ⟨ret_u64 K.out, rfl⟩
  · by_cases h1 : 8 ≤ dx
    · clear h
      go_enter Tryz.func144, Tryz.ntmps144
      go_wp2
      go_ret
      exact ⟨ret_u64 K.out, rfl⟩
    · by_cases h2 : dy ≤ -8
      · clear h
        go_enter Tryz.func144, Tryz.ntmps144
        go_wp2
        go_ret
        exact ⟨ret_u64 K.out, rfl⟩
      · have h3 : 8 ≤ dy := by omega
        clear h
        go_enter Tryz.func144, Tryz.ntmps144
        go_wp2
        go_ret
        exact ⟨ret_u64 K.out, rfl⟩
theorem shift_any (b : BitVec 64) (dx dy : Int) (w : World) :
    Calls Tryz.prog 144 #[.int .u64 (b.toNat : Int), .int .i64 dx, .int .i64 dy] w fun e w' => e = .returned (.int .u64 ((shiftV b dx dy).toNat : Int)) ∧ w' = w := by
  by_cases h : dx ≤ -8 ∨ 8 ≤ dx ∨ dy ≤ -8 ∨ 8 ≤ dy
  · exact shift_far b dx dy w h
  · exact shift_near b dx dy w (by omega) (by omega) (by omega) (by omega)

/-- The set of one square. (A name of its own: the walk would write the shift out.) -/
def bitW (s : Nat) : BitVec 64 := 1#64 <<< s
theorem bitW_int (s : Nat) : IntKind.u64.wrap (2 ^ s) = ((bitW s).toNat : Int) := by
  have := b_shl 1#64 s; simpa [bitW] using this
end Go.Proofs.YtdhhdkbnlddnbaaGreatDoor

set_option maxRecDepth 100000
namespace Go.Proofs.YtdhhdkbnlddnbaaGreatDoor
open Go.RowKit

/-- Whether a column and a row have a piece of a player; nothing lies off the board. -/
def mineAt (r : RulesD) (p : PlaceD) (pl x y : Int) : Bool := onB r x y && isOfB (cellI p (y * r.width + x)) pl
/-- The directions in which lines are looked for. -/
def lineDirs : List (Int × Int) := [(-1, 0), (0, -1), (-1, -1), (1, -1)]
def alongB (r : RulesD) (p : PlaceD) (pl x y dx dy : Int) (c : Nat) : Bool := (List.range c).all fun i : Nat => mineAt r p pl (x + (i : Int) * dx) (y + (i : Int) * dy)
/-- Whether a player has so many pieces in a row. -/
def linePl (r : RulesD) (p : PlaceD) (pl : Int) (c : Nat) : Bool := (List.range 8).any fun y : Nat => (List.range 8).any fun x : Nat => lineDirs.any fun d => alongB r p pl (x : Int) (y : Int) d.1 d.2 c
def onLast (r : RulesD) (p : PlaceD) (pl k s : Int) : Bool := decide (cellI p s = 2 * k + pl + 1) && decide (s / r.width = lastRowI r pl)
def reachB (r : RulesD) (p : PlaceD) (pl k : Int) : Bool := (squares p).any (onLast r p pl k)
def fewN (p : PlaceD) (v : Int) : Nat := ((squares p).filter fun s => decide (cellI p s = v)).length
/-- Whether a condition is satisfied; the mover is the player whose turn it is not. -/
def metB (r : RulesD) (p : PlaceD) (e : EndD) : Bool :=
  if e.kind = 0 then linePl r p (1 - p.turn) e.count.toNat else if e.kind = 1 then reachB r p (1 - p.turn) e.piece else decide ((fewN p (2 * e.piece + p.turn + 1) : Int) < e.count)
def winsI (p : PlaceD) (e : EndD) : Int := if e.loses = true then 1 + p.turn else 1 + (1 - p.turn)
/-- The result by the conditions from some one on; 0: none is satisfied. -/
def endsR (r : RulesD) (p : PlaceD) : List EndD → Int
  | [] => 0
  | e :: l => if metB r p e = true then winsI p e else endsR r p l
def stuckI (r : RulesD) (p : PlaceD) : Int := if r.blocked = 0 then 1 + (1 - p.turn) else if r.blocked = 1 then 1 + p.turn else 3
def calmB (r : RulesD) (p : PlaceD) : Bool := decide (r.quiet ≠ 0) && decide (r.quiet ≤ p.quiet)
def resultD (r : RulesD) (p : PlaceD) : Int :=
  if endsR r p r.ends ≠ 0 then endsR r p r.ends else if calmB r p = true then 3 else if allD r p ≠ [] then 0 else stuckI r p
/-- What Of returns: the result, or 0 and an error. -/
def ofD (r : RulesD) (p : PlaceD) : Int := if placeE r p = 0 then resultD r p else 0

/-! ### Lines -/
theorem along_iff {r : RulesD} {p : PlaceD} {pl x y dx dy : Int} {c : Nat} : alongB r p pl x y dx dy c = true ↔ ∀ i : Nat, i < c → mineAt r p pl (x + (i : Int) * dx) (y + (i : Int) * dy) = true := by
  unfold alongB
  rw [List.all_eq_true]
  exact ⟨fun h i hi => h i (List.mem_range.2 hi), fun h i hi => h i (List.mem_range.1 hi)⟩
theorem mine_on {r : RulesD} {p : PlaceD} {pl x y : Int} (h : mineAt r p pl x y = true) : onB r x y = true := by
  unfold mineAt at h; rw [Bool.and_eq_true] at h; exact h.1
theorem line_iff {r : RulesD} {p : PlaceD} {pl : Int} {c : Nat} (hw : r.width ≤ 8) (hh : r.height ≤ 8) (hc : 1 ≤ c) : linePl r p pl c = true ↔ ∃ x y : Int, ∃ d ∈ lineDirs, alongB r p pl x y d.1 d.2 c = true := by
  unfold linePl
  simp only [List.any_eq_true]
  constructor
  · rintro ⟨y, _, x, _, d, hd, h⟩
    exact ⟨x, y, d, hd, h⟩
  · rintro ⟨x, y, d, hd, h⟩
    have h0 := mine_on (along_iff.1 h 0 (by omega))
    rw [onB_iff] at h0
    simp only [Int.natCast_zero, Int.zero_mul, Int.add_zero] at h0
    refine ⟨y.toNat, List.mem_range.2 (by omega), x.toNat, List.mem_range.2 (by omega), d, hd, ?_⟩
    rw [Int.toNat_of_nonneg h0.1, Int.toNat_of_nonneg h0.2.2.1]
    exact h
/-- A line seen from its other end. -/
theorem along_back {r : RulesD} {p : PlaceD} {pl x y dx dy : Int} {c : Nat} (hc : 1 ≤ c) (h : alongB r p pl x y dx dy c = true) : alongB r p pl (x + ((c - 1 : Nat) : Int) * dx) (y + ((c - 1 : Nat) : Int) * dy) (-dx) (-dy) c = true := by
  rw [along_iff] at h ⊢
  intro i hi
  have h1 := h (c - 1 - i) (by omega)
  have e : ((c - 1 - i : Nat) : Int) = ((c - 1 : Nat) : Int) - (i : Int) := by omega
  rw [e] at h1
  have e1 : ∀ a d : Int, a + ((c - 1 : Nat) : Int) * d + (i : Int) * -d = a + (((c - 1 : Nat) : Int) - (i : Int)) * d := fun a d => by
    rw [Int.sub_mul, Int.mul_neg]; omega
  rw [e1, e1]; exact h1
theorem along_len {r : RulesD} {p : PlaceD} {pl x y : Int} {d : Int × Int} {c : Nat} (hw : r.width ≤ 8) (hh : r.height ≤ 8) (hd : d ∈ lineDirs) (h : alongB r p pl x y d.1 d.2 c = true) : c ≤ 8 := by
  by_cases h0 : c = 0
  · omega
  have h1 := mine_on (along_iff.1 h 0 (by omega))
  have h2 := mine_on (along_iff.1 h (c - 1) (by omega))
  rw [onB_iff] at h1 h2
  have hd' : d = (-1, 0) ∨ d = (0, -1) ∨ d = (-1, -1) ∨ d = (1, -1) := by simpa [lineDirs] using hd
  obtain ⟨k, hk⟩ : ∃ k : Nat, c = k + 1 := ⟨c - 1, by omega⟩
  subst hk
  simp only [Nat.add_sub_cancel] at h2
  rcases hd' with rfl | rfl | rfl | rfl <;> simp only [Int.natCast_zero, Int.add_zero, Int.mul_zero, Int.mul_one, Int.mul_neg] at h1 h2 <;> omega
theorem line_many {r : RulesD} {p : PlaceD} {pl : Int} {c : Nat} (hw : r.width ≤ 8) (hh : r.height ≤ 8) (hc : 9 ≤ c) : linePl r p pl c = false := by
  rw [Bool.eq_false_iff]
  intro h
  obtain ⟨x, y, d, hd, h⟩ := (line_iff hw hh (by omega)).1 h
  have := along_len hw hh hd h
  omega
/-- A line in a direction or the opposite one is a line. -/
theorem line_any {r : RulesD} {p : PlaceD} {pl x y dx dy : Int} {c : Nat} (hw : r.width ≤ 8) (hh : r.height ≤ 8) (hc : 1 ≤ c) (hd : (dx, dy) ∈ lineDirs ∨ (-dx, -dy) ∈ lineDirs) (h : alongB r p pl x y dx dy c = true) : linePl r p pl c = true := by
  rw [line_iff hw hh hc]
  rcases hd with hd | hd
  · exact ⟨x, y, (dx, dy), hd, h⟩
  · exact ⟨_, _, (-dx, -dy), hd, along_back hc h⟩

/-! ### The other conditions -/
theorem reach_iff {r : RulesD} {p : PlaceD} {pl k : Int} : reachB r p pl k = true ↔ ∃ s : Int, (0 ≤ s ∧ s < p.cells.length) ∧ cellI p s = 2 * k + pl + 1 ∧ s / r.width = lastRowI r pl := by
  unfold reachB onLast
  rw [List.any_eq_true]
  constructor
  · rintro ⟨s, hs, h⟩
    rw [Bool.and_eq_true, decide_eq_true_eq, decide_eq_true_eq] at h
    exact ⟨s, squares_mem.1 hs, h⟩
  · rintro ⟨s, hs, h⟩
    refine ⟨s, squares_mem.2 hs, ?_⟩
    rw [Bool.and_eq_true, decide_eq_true_eq, decide_eq_true_eq]
    exact h
theorem fewN_le (p : PlaceD) (v : Int) : fewN p v ≤ p.cells.length := by
  unfold fewN
  refine Nat.le_trans (List.length_filter_le _ _) ?_
  rw [squares_length]; exact Nat.le_refl _
/-! ### The range of results -/
theorem wins_in {r : RulesD} {p : PlaceD} (h : POkay r p) (e : EndD) : winsI p e = 1 ∨ winsI p e = 2 := by
  have h0 := h.t0
  have h1 := h.t1
  unfold winsI; split <;> omega
theorem ends_in {r : RulesD} {p : PlaceD} (h : POkay r p) : ∀ l, endsR r p l = 0 ∨ endsR r p l = 1 ∨ endsR r p l = 2
  | [] => .inl rfl
  | e :: l => by
    unfold endsR
    split
    · exact .inr (wins_in h e)
    · exact ends_in h l
theorem stuck_in {r : RulesD} {p : PlaceD} (h : POkay r p) : 1 ≤ stuckI r p ∧ stuckI r p ≤ 3 := by
  have h0 := h.t0
  have h1 := h.t1
  unfold stuckI; split
  · omega
  · split <;> omega
theorem result_in {r : RulesD} {p : PlaceD} (h : POkay r p) : 0 ≤ resultD r p ∧ resultD r p ≤ 3 := by
  unfold resultD
  split
  · rcases ends_in h r.ends with e | e | e <;> omega
  · split
    · omega
    · split
      · omega
      · have := stuck_in h; omega
theorem result_open {r : RulesD} {p : PlaceD} (h : POkay r p) (h0 : resultD r p = 0) : allD r p ≠ [] := by
  unfold resultD at h0
  split at h0
  · rename_i h1; exact absurd h0 h1
  · split at h0
    · cases h0
    · split at h0
      · assumption
      · have := stuck_in h; omega
end Go.Proofs.YtdhhdkbnlddnbaaGreatDoor

set_option maxRecDepth 100000
namespace Go.Proofs.YtdhhdkbnlddnbaaGreatDoor
open Go.RowKit

theorem has_bit {s : Nat} (hs : s < 64) {x y : Int} : has (bitW s) x y = (inb x y && decide (x + 8 * y = (s : Int))) := by
  by_cases h : 0 ≤ x ∧ x < 8 ∧ 0 ≤ y ∧ y < 8
  · rw [has_of h, inb_iff.2 h, Bool.true_and, bitW, BitVec.getLsbD_shiftLeft]
    by_cases e : x + 8 * y = (s : Int)
    · rw [decide_eq_true e, show (x + 8 * y).toNat = s by omega]; simp [hs]
    · rw [decide_eq_false e]
      by_cases h1 : (x + 8 * y).toNat < s
      · simp [h1]
      · have h2 : (x + 8 * y).toNat - s ≠ 0 := by omega
        have h3 : (1#64).getLsbD ((x + 8 * y).toNat - s) = false := by
          rw [BitVec.getLsbD_one]; simp; omega
        rw [h3, Bool.and_false]
  · rw [has_no h, inb_no h]; rfl
/-- Where a square's bit lies. -/
def sqBit (r : RulesD) (n : Nat) : Nat := (((n : Int) / r.width) * 8 + (n : Int) % r.width).toNat
/-- The set of the squares with pieces of a player, among the first ones. -/
def setTo (r : RulesD) (p : PlaceD) (pl : Int) : Nat → BitVec 64
  | 0 => 0#64
  | n + 1 => if isOfB (cellI p (n : Int)) pl = true then setTo r p pl n ||| bitW (sqBit r n) else setTo r p pl n
def setD (r : RulesD) (p : PlaceD) (pl : Int) : BitVec 64 := setTo r p pl p.cells.length
theorem sq_parts {r : RulesD} {p : PlaceD} (h : POkay r p) {n : Nat} (hn : n < p.cells.length) : (0 ≤ (n : Int) % r.width ∧ (n : Int) % r.width < r.width) ∧ (0 ≤ (n : Int) / r.width ∧ (n : Int) / r.width < r.height) ∧ (n : Int) / r.width * r.width + (n : Int) % r.width = n ∧ r.width ≤ 8 ∧ r.height ≤ 8 ∧ 1 ≤ r.width := by
  obtain ⟨_, hw, hh, _⟩ := rulesE_ok h.e
  rw [inB_iff] at hw hh
  have h4 := h.cl
  refine ⟨⟨Int.emod_nonneg _ (by omega), Int.emod_lt_of_pos _ (by omega)⟩, ⟨Int.ediv_nonneg (by omega) (by omega), Int.ediv_lt_of_lt_mul (by omega) (by rw [Int.mul_comm]; omega)⟩, ?_, hw.2, hh.2, hw.1⟩
  rw [Int.mul_comm]; exact Int.mul_ediv_add_emod _ _
theorem sqBit_lt {r : RulesD} {p : PlaceD} (h : POkay r p) {n : Nat} (hn : n < p.cells.length) : sqBit r n < 64 := by
  obtain ⟨⟨a, b⟩, ⟨c, d⟩, _, e, f, _⟩ := sq_parts h hn
  unfold sqBit; omega
theorem sq_one {W x y a b : Int} (x0 : 0 ≤ x) (x1 : x < W) (a0 : 0 ≤ a) (a1 : a < W) (h : y * W + x = b * W + a) : x = a ∧ y = b := by
  have e1 : (y * W + x) % W = x := by rw [Int.add_comm, Int.add_mul_emod_self_right, Int.emod_eq_of_lt x0 x1]
  have e2 : (b * W + a) % W = a := by rw [Int.add_comm, Int.add_mul_emod_self_right, Int.emod_eq_of_lt a0 a1]
  have e3 : (y * W + x) / W = y := by rw [Int.add_comm, Int.add_mul_ediv_right _ _ (by omega), Int.ediv_eq_zero_of_lt x0 x1, Int.zero_add]
  have e4 : (b * W + a) / W = b := by rw [Int.add_comm, Int.add_mul_ediv_right _ _ (by omega), Int.ediv_eq_zero_of_lt a0 a1, Int.zero_add]
  rw [h] at e1 e3
  exact ⟨e1.symm.trans e2, e3.symm.trans e4⟩
theorem has_setTo {r : RulesD} {p : PlaceD} (h : POkay r p) (pl : Int) : ∀ n : Nat, n ≤ p.cells.length → ∀ x y : Int, has (setTo r p pl n) x y = (mineAt r p pl x y && decide (y * r.width + x < (n : Int)))
  | 0, _, x, y => by
    show has 0#64 x y = _
    rw [has_zero]
    symm
    rw [Bool.and_eq_false_iff]
    cases hm : mineAt r p pl x y
    · exact .inl rfl
    · refine .inr (decide_eq_false ?_)
      have := (sq_in h (mine_on hm)).1
      omega
  | n + 1, hn, x, y => by
    have ih := has_setTo h pl n (by omega) x y
    obtain ⟨⟨a, b⟩, ⟨c, d⟩, e, f, g, w1⟩ := sq_parts h (show n < p.cells.length by omega)
    have hlt := sqBit_lt h (show n < p.cells.length by omega)
    have hsb : (sqBit r n : Int) = (n : Int) / r.width * 8 + (n : Int) % r.width := by unfold sqBit; omega
    have hkey : onB r x y = true → (y * r.width + x = (n : Int) ↔ x + 8 * y = (sqBit r n : Int)) := by
      intro hb
      rw [onB_iff] at hb
      constructor
      · intro hq
        obtain ⟨q1, q2⟩ := sq_one hb.1 hb.2.1 a b (hq.trans e.symm)
        omega
      · intro hq
        have q1 : x = (n : Int) % r.width := by omega
        have q2 : y = (n : Int) / r.width := by omega
        rw [q1, q2]; exact e
    rw [Bool.eq_iff_iff]
    by_cases hm : mineAt r p pl x y = true
    · have hb := mine_on hm
      have hb' := onB_iff.1 hb
      have hin : inb x y = true := inb_iff.2 (by omega)
      have hmm : isOfB (cellI p (y * r.width + x)) pl = true := by
        unfold mineAt at hm; rw [Bool.and_eq_true] at hm; exact hm.2
      rw [hm, Bool.true_and] at ih ⊢
      unfold setTo
      by_cases hi : isOfB (cellI p (n : Int)) pl = true
      · rw [if_pos hi, has_or, ih, has_bit hlt, hin, Bool.true_and, Bool.or_eq_true, decide_eq_true_eq, decide_eq_true_eq, decide_eq_true_eq, ← hkey hb]
        omega
      · rw [if_neg hi, ih, decide_eq_true_eq, decide_eq_true_eq]
        constructor
        · omega
        · intro hq
          rcases Int.lt_or_le (y * r.width + x) n with h1 | h1
          · exact h1
          · exfalso
            have h2 : y * r.width + x = n := by omega
            rw [h2] at hmm
            exact hi hmm
    · have hm' : mineAt r p pl x y = false := by simpa using hm
      rw [hm', Bool.false_and] at ih ⊢
      unfold setTo
      by_cases hi : isOfB (cellI p (n : Int)) pl = true
      · rw [if_pos hi, has_or, ih, has_bit hlt, Bool.false_or, Bool.and_eq_true, decide_eq_true_eq]
        constructor
        · rintro ⟨hin, hq⟩
          rw [inb_iff] at hin
          exfalso
          have q1 : x = (n : Int) % r.width := by omega
          have q2 : y = (n : Int) / r.width := by omega
          apply hm
          unfold mineAt
          rw [Bool.and_eq_true]
          refine ⟨onB_iff.2 (by omega), ?_⟩
          rw [q1, q2, e]; exact hi
        · intro hq; cases hq
      · rw [if_neg hi, ih]
theorem has_setD {r : RulesD} {p : PlaceD} (h : POkay r p) (pl x y : Int) : has (setD r p pl) x y = mineAt r p pl x y := by
  rw [setD, has_setTo h pl _ (Nat.le_refl _)]
  cases hm : mineAt r p pl x y
  · rfl
  · rw [Bool.true_and, decide_eq_true_eq]; exact (sq_in h (mine_on hm)).2
/-- What stays of a set after so many moves. -/
def runs (S : BitVec 64) (dx dy : Int) : Nat → BitVec 64
  | 0 => S
  | k + 1 => S &&& shiftV (runs S dx dy k) dx dy
theorem has_runs (S : BitVec 64) (dx dy : Int) : ∀ (k : Nat) (x y : Int), has (runs S dx dy k) x y = true ↔ ∀ i : Nat, i ≤ k → has S (x - (i : Int) * dx) (y - (i : Int) * dy) = true
  | 0, x, y => by
    constructor
    · intro h i hi
      obtain rfl : i = 0 := by omega
      simpa [runs] using h
    · intro h; have := h 0 (Nat.le_refl _); simpa [runs] using this
  | k + 1, x, y => by
    show has (S &&& shiftV (runs S dx dy k) dx dy) x y = true ↔ _
    rw [has_and, has_shift, Bool.and_eq_true, Bool.and_eq_true, has_runs S dx dy k]
    have e : ∀ (a d : Int) (i : Nat), a - d - (i : Int) * d = a - ((i + 1 : Nat) : Int) * d := fun a d i => by
      push_cast; rw [Int.add_mul, Int.one_mul]; omega
    constructor
    · rintro ⟨h0, _, h1⟩ i hi
      cases i with
      | zero => simpa using h0
      | succ i =>
        have := h1 i (by omega)
        rwa [e, e] at this
    · intro h
      have h0 : has S x y = true := by have := h 0 (by omega); simpa using this
      refine ⟨h0, inb_iff.2 (has_inb h0), fun i hi => ?_⟩
      rw [e, e]; exact h (i + 1) (by omega)
theorem runs_zero {S : BitVec 64} {dx dy : Int} {k : Nat} (h : runs S dx dy k = 0#64) : ∀ j : Nat, runs S dx dy (k + j) = 0#64
  | 0 => h
  | j + 1 => by
    show S &&& shiftV (runs S dx dy (k + j)) dx dy = 0#64
    rw [runs_zero h j]
    apply ext_has
    intro x y
    rw [has_and, has_shift, has_zero, has_zero]; simp
theorem zero_iff (S : BitVec 64) : S ≠ 0#64 ↔ ∃ x y : Int, has S x y = true := by
  constructor
  · intro h
    apply Classical.byContradiction
    intro hn
    apply h
    apply ext_has
    intro x y
    rw [has_zero]
    cases e : has S x y
    · rfl
    · exact absurd ⟨x, y, e⟩ hn
  · rintro ⟨x, y, h⟩ rfl
    rw [has_zero] at h; cases h
/-- Whether something stays: whether there is a line in the opposite direction. -/
theorem runs_line {r : RulesD} {p : PlaceD} (h : POkay r p) {pl dx dy : Int} {c : Nat} (hc : 1 ≤ c) : runs (setD r p pl) dx dy (c - 1) ≠ 0#64 ↔ ∃ x y : Int, alongB r p pl x y (-dx) (-dy) c = true := by
  rw [zero_iff]
  have e : ∀ (a d : Int) (i : Nat), a - (i : Int) * d = a + (i : Int) * -d := fun a d i => by rw [Int.mul_neg]; omega
  constructor
  · rintro ⟨x, y, hr⟩
    refine ⟨x, y, along_iff.2 fun i hi => ?_⟩
    have h1 := (has_runs _ dx dy (c - 1) x y).1 hr i (by omega)
    rwa [has_setD h, e, e] at h1
  · rintro ⟨x, y, ha⟩
    refine ⟨x, y, (has_runs _ dx dy (c - 1) x y).2 fun i hi => ?_⟩
    rw [has_setD h, e, e]
    exact along_iff.1 ha i (by omega)
/-- The directions of the program. -/
def goDirs : List (Int × Int) := [(1, 0), (0, 1), (1, 1), (1, -1)]
def dirB (S : BitVec 64) (c : Nat) (d : Int × Int) : Bool := decide (runs S d.1 d.2 (c - 1) ≠ 0#64)
theorem lines_eq {r : RulesD} {p : PlaceD} (h : POkay r p) {pl : Int} {c : Nat} (hc : 1 ≤ c) : goDirs.any (dirB (setD r p pl) c) = linePl r p pl c := by
  obtain ⟨_, hw, hh, _⟩ := rulesE_ok h.e
  rw [inB_iff] at hw hh
  rw [Bool.eq_iff_iff, List.any_eq_true]
  constructor
  · rintro ⟨d, hd, hb⟩
    unfold dirB at hb
    rw [decide_eq_true_eq, runs_line h hc] at hb
    obtain ⟨x, y, ha⟩ := hb
    refine line_any hw.2 hh.2 hc ?_ ha
    have hd' : d = (1, 0) ∨ d = (0, 1) ∨ d = (1, 1) ∨ d = (1, -1) := by simpa [goDirs] using hd
    rcases hd' with rfl | rfl | rfl | rfl <;> simp [lineDirs]
  · intro hl
    obtain ⟨x, y, d, hd, ha⟩ := (line_iff hw.2 hh.2 hc).1 hl
    have hd' : d = (-1, 0) ∨ d = (0, -1) ∨ d = (-1, -1) ∨ d = (1, -1) := by simpa [lineDirs] using hd
    have fin : ∀ dx dy : Int, (dx, dy) ∈ goDirs → (∃ x y : Int, alongB r p pl x y (-dx) (-dy) c = true) → ∃ d ∈ goDirs, dirB (setD r p pl) c d = true := fun dx dy h1 h2 => ⟨(dx, dy), h1, by unfold dirB; rw [decide_eq_true_eq, runs_line h hc]; exact h2⟩
    rcases hd' with rfl | rfl | rfl | rfl
    · exact fin 1 0 (by simp [goDirs]) ⟨x, y, ha⟩
    · exact fin 0 1 (by simp [goDirs]) ⟨x, y, ha⟩
    · exact fin 1 1 (by simp [goDirs]) ⟨x, y, ha⟩
    · exact fin 1 (-1) (by simp [goDirs]) ⟨_, _, along_back hc ha⟩
end Go.Proofs.YtdhhdkbnlddnbaaGreatDoor

set_option maxRecDepth 100000
namespace Go.Proofs.YtdhhdkbnlddnbaaGreatDoor
open Go.ChangeShapes Go.WideShapes Go.ChangeAt Go.RowKit

theorem eIsOf_any (c pl : Int) (w : World) (h0 : 0 ≤ c) (h1 : c ≤ 1000) :
    Calls Tryz.prog 145 #[.int .i64 c, .int .i64 pl] w fun e w' => e = .returned (.bool (isOfB c pl)) ∧ w' = w := by
  by_cases hc : c = 0
  · subst hc
    go_enter Tryz.func145, Tryz.ntmps145
    go_wp2
    go_ret
    exact ⟨rfl, rfl⟩
  · have hne : (c != 0) = true := by simpa using hc
    have K : Hid (((c - 1) % 2 == pl) = isOfB c pl) := Lib.hid (by
      unfold isOfB; rw [decide_eq_true hc, Bool.true_and]
      by_cases h : (c - 1) % 2 = pl <;> simp [h])
    have h2 : 0 ≤ c - 1 := by omega
    clear hc
    go_enter Tryz.func145, Tryz.ntmps145
    go_wp2
    go_ret
    exact ⟨ret_bool K.out, rfl⟩
theorem eOpp_any (pl : Int) (w : World) (p0 : 0 ≤ pl) (p1 : pl ≤ 1) :
    Calls Tryz.prog 134 #[.int .i64 pl] w fun e w' => e = .returned (.int .i64 (1 - pl)) ∧ w' = w := by
  go_enter Tryz.func134, Tryz.ntmps134
  go_wp2
  go_ret
  exact ⟨rfl, rfl⟩
theorem eCellOf_any (k pl : Int) (w : World) (h0 : 0 ≤ k) (h1 : k ≤ 100) (p0 : 0 ≤ pl) (p1 : pl ≤ 1) :
    Calls Tryz.prog 139 #[.int .i64 k, .int .i64 pl] w fun e w' => e = .returned (.int .i64 (2 * k + pl + 1)) ∧ w' = w := by
  go_enter Tryz.func139, Tryz.ntmps139
  go_wp2
  go_ret
  exact ⟨rfl, rfl⟩
theorem eWin_any (pl : Int) (w : World) (p0 : 0 ≤ pl) (p1 : pl ≤ 1) :
    Calls Tryz.prog 141 #[.int .i64 pl] w fun e w' => e = .returned (.int .i64 (1 + pl)) ∧ w' = w := by
  obtain rfl | rfl : pl = 0 ∨ pl = 1 := by omega
  · go_enter Tryz.func141, Tryz.ntmps141
    go_wp2
    go_ret
    exact ⟨rfl, rfl⟩
  · go_enter Tryz.func141, Tryz.ntmps141
    go_wp2
    go_ret
    exact ⟨rfl, rfl⟩

/-! ### count -/
/-- How often a number occurs among the first ones. -/
def cntTo (l : List Int) (x : Int) (k : Nat) : Nat := ((l.take k).filter fun c => decide (c = x)).length
theorem cntTo_le (l : List Int) (x : Int) (k : Nat) : cntTo l x k ≤ k := by
  unfold cntTo
  exact Nat.le_trans (List.length_filter_le _ _) (List.length_take_le _ _)
theorem cntTo_yes {l : List Int} {x : Int} {k : Nat} (h : l[k]? = some x) : cntTo l x (k + 1) = cntTo l x k + 1 := by
  unfold cntTo; rw [List.take_add_one, h, List.filter_append]; simp
theorem cntTo_no {l : List Int} {x y : Int} {k : Nat} (h : l[k]? = some y) (hn : y ≠ x) : cntTo l x (k + 1) = cntTo l x k := by
  unfold cntTo; rw [List.take_add_one, h, List.filter_append]; simp [hn]
theorem few_cnt (p : PlaceD) (v : Int) : cntTo p.cells v p.cells.length = fewN p v := by
  unfold cntTo fewN
  rw [List.take_of_length_le (Nat.le_refl _)]
  have e : p.cells = (squares p).map (cellI p) := by
    apply List.ext_getElem?
    intro i
    unfold squares
    rw [List.map_map, List.getElem?_map]
    by_cases h : i < p.cells.length
    · rw [List.getElem?_range h]
      simp [cellI, h]
    · rw [List.getElem?_eq_none (by omega), List.getElem?_eq_none (by simp; omega)]; rfl
  conv => lhs; rw [e]
  rw [List.filter_map, List.length_map]
  rfl
theorem eCount_any (l : List Int) (v : Value) (x : Int) (w : World) (hl : IsSl IntAt 1 w v l) (h1 : 1 ≤ l.length) (h64 : l.length ≤ 64) :
    Calls Tryz.prog 140 #[v, .int .i64 x] w (BelPost (.int .i64 (cntTo l x l.length : Int)) w) := by
  obtain ⟨g, off, cc, rfl, hcc, hcell⟩ := ints_open hl h1
  obtain ⟨m, hm⟩ : ∃ m, m = l.length := ⟨_, rfl⟩
  rw [← hm] at h64 hcc hcell ⊢
  have HL := Lib.hid hm
  have HC := Lib.hid hcell
  have HLE := Lib.hid (cntTo_le l x)
  have HY := Lib.hid (fun k h => cntTo_yes (l := l) (x := x) (k := k) h)
  have HN := Lib.hid (fun k y h hn => cntTo_no (l := l) (x := x) (y := y) (k := k) h hn)
  clear hl hm hcell
  go_enter Tryz.func140, Tryz.ntmps140
  go_wp2
  go_loopw [5, 7, 10] (fun n _ i wr => ∃ k : Nat, k ≤ m ∧ i = .int .i64 (k : Int) ∧ n = .int .i64 (cntTo l x k : Int) ∧ Hid (Below w.heap.size w wr)) (fun _ _ i _ => m - (intOf i).toNat)
  case atStart => exact ⟨0, by omega, rfl, rfl, Lib.hid (Below.refl _ _)⟩
  case round =>
    obtain ⟨k, hk, rfl, rfl, hbel⟩ := hrel
    by_cases hlt : k < m
    · have c0 := cell_keeps hbel.out (Nat.le_refl _) (HC.out k hlt)
      obtain ⟨y, hy⟩ : ∃ y, l[k]? = some y := by
        have h2 : k < l.length := by rw [← HL.out]; exact hlt
        exact ⟨l[k], List.getElem?_eq_getElem h2⟩
      have e : l[k]?.getD 0 = y := by rw [hy]; rfl
      have HLK := HLE.out k
      by_cases hyx : y = x
      · have d1 : (y == x) = true := by simpa using hyx
        have KC : Hid (cntTo l x (k + 1) = cntTo l x k + 1) := Lib.hid (HY.out k (by rw [hy, hyx]))
        rw [e] at c0
        obtain ⟨q, hq⟩ : ∃ q, q = cntTo l x k := ⟨_, rfl⟩
        rw [← hq] at KC HLK ⊢
        clear hq hy e hyx
        go_wp2
        go_roundw
        case rel => exact ⟨k + 1, by omega, by go_num, by rw [KC.out]; go_num, hbel⟩
        case measure => simp [intOf]; omega
      · have d1 : (y == x) = false := by simpa using hyx
        have KC : Hid (cntTo l x (k + 1) = cntTo l x k) := Lib.hid (HN.out k y hy hyx)
        rw [e] at c0
        obtain ⟨q, hq⟩ : ∃ q, q = cntTo l x k := ⟨_, rfl⟩
        rw [← hq] at KC HLK ⊢
        clear hq hy e hyx
        go_wp2
        go_roundw
        case rel => exact ⟨k + 1, by omega, by go_num, by rw [KC.out], hbel⟩
        case measure => simp [intOf]; omega
    · obtain rfl : k = m := by omega
      go_wp2
      go_ret
      exact ⟨rfl, hbel.out⟩

/-! ### slices.Index, Contains -/
/-- Whether a number is in a list, or where it is first. -/
def idxI (l : List Int) (x : Int) : Int := match l.findIdx? (fun c => decide (c = x)) with | some i => (i : Int) | none => -1
theorem idxI_no {l : List Int} {x : Int} (h : ∀ (k : Nat) (y : Int), l[k]? = some y → y ≠ x) : idxI l x = -1 := by
  unfold idxI
  have : l.findIdx? (fun c => decide (c = x)) = none := by
    rw [List.findIdx?_eq_none_iff]
    intro y hy
    obtain ⟨k, hk⟩ := List.getElem?_of_mem hy
    simpa using h k y hk
  rw [this]
theorem idxI_yes {l : List Int} {x : Int} {k : Nat} (hk : l[k]? = some x) (h : ∀ (j : Nat) (y : Int), j < k → l[j]? = some y → y ≠ x) : idxI l x = k := by
  unfold idxI
  have : l.findIdx? (fun c => decide (c = x)) = some k := by
    obtain ⟨h1, h2⟩ := List.getElem?_eq_some_iff.1 hk
    rw [List.findIdx?_eq_some_iff_getElem]
    refine ⟨h1, by simpa using h2, fun j hj => ?_⟩
    have := h j (l[j]) hj (List.getElem?_eq_getElem _)
    simpa using this
  rw [this]
theorem idxI_mem {l : List Int} {x : Int} : decide (0 ≤ idxI l x) = decide (x ∈ l) := by
  unfold idxI
  cases h : l.findIdx? (fun c => decide (c = x)) with
  | none =>
    rw [List.findIdx?_eq_none_iff] at h
    have : x ∉ l := fun hx => by have := h x hx; simp at this
    simp [this]
  | some i =>
    rw [List.findIdx?_eq_some_iff_getElem] at h
    obtain ⟨h1, h2, _⟩ := h
    have : x ∈ l := by
      have h3 : l[i] = x := by simpa using h2
      rw [← h3]; exact List.getElem_mem h1
    simp [this]
theorem eIndex_any (l : List Int) (v : Value) (x : Int) (w : World) (hl : IsSl IntAt 1 w v l) (h1 : 1 ≤ l.length) (h64 : l.length ≤ 64) :
    Calls Tryz.prog 146 #[v, .int .i64 x] w (BelPost (.int .i64 (idxI l x)) w) := by
  obtain ⟨g, off, cc, rfl, hcc, hcell⟩ := ints_open hl h1
  obtain ⟨m, hm⟩ : ∃ m, m = l.length := ⟨_, rfl⟩
  rw [← hm] at h64 hcc hcell ⊢
  have HL := Lib.hid hm
  have HC := Lib.hid hcell
  clear hl hm hcell
  go_enter Tryz.func146, Tryz.ntmps146
  go_wp2
  go_loopw [5, 8] (fun _ i wr => ∃ k : Nat, k ≤ m ∧ i = .int .i64 (k : Int) ∧ Hid (∀ (j : Nat) (y : Int), j < k → l[j]? = some y → y ≠ x) ∧ Hid (Below w.heap.size w wr)) (fun _ i _ => m - (intOf i).toNat)
  case atStart => exact ⟨0, by omega, rfl, Lib.hid (fun j y h => by omega), Lib.hid (Below.refl _ _)⟩
  case round =>
    obtain ⟨k, hk, rfl, hno, hbel⟩ := hrel
    by_cases hlt : k < m
    · have c0 := cell_keeps hbel.out (Nat.le_refl _) (HC.out k hlt)
      obtain ⟨y, hy⟩ : ∃ y, l[k]? = some y := by
        have h2 : k < l.length := by rw [← HL.out]; exact hlt
        exact ⟨l[k], List.getElem?_eq_getElem h2⟩
      have e : l[k]?.getD 0 = y := by rw [hy]; rfl
      by_cases hyx : y = x
      · have d1 : (x == y) = true := by simpa using hyx.symm
        have KC : Hid ((k : Int) = idxI l x) := Lib.hid (idxI_yes (by rw [hy, hyx]) hno.out).symm
        rw [e] at c0
        clear hy e hyx
        go_wp2
        go_ret
        exact ⟨ret_i64 KC.out, hbel.out⟩
      · have d1 : (x == y) = false := by simpa using (fun h => hyx h.symm)
        have KC : Hid (∀ (j : Nat) (z : Int), j < k + 1 → l[j]? = some z → z ≠ x) := Lib.hid (fun j z hj hz => by
          rcases Nat.lt_or_ge j k with h | h
          · exact hno.out j z h hz
          · obtain rfl : j = k := by omega
            rw [hy] at hz; rw [← Option.some.inj hz]; exact hyx)
        rw [e] at c0
        clear hy e hyx
        go_wp2
        go_roundw
        case rel => exact ⟨k + 1, by omega, by go_num, KC, hbel⟩
        case measure => simp [intOf]; omega
    · obtain rfl : k = m := by omega
      have KC : Hid ((-1 : Int) = idxI l x) := Lib.hid (idxI_no (fun j y hj => hno.out j y (by
        obtain ⟨h1, _⟩ := List.getElem?_eq_some_iff.1 hj
        rw [HL.out]; exact h1) hj)).symm
      go_wp2
      go_ret
      exact ⟨ret_i64 KC.out, hbel.out⟩
theorem eContains_any (l : List Int) (v : Value) (x : Int) (w : World) (hl : IsSl IntAt 1 w v l) (h1 : 1 ≤ l.length) (h64 : l.length ≤ 64) :
    Calls Tryz.prog 137 #[v, .int .i64 x] w (BelPost (.bool (decide (x ∈ l))) w) := by
  have K : Hid (decide (0 ≤ idxI l x) = decide (x ∈ l)) := Lib.hid idxI_mem
  have HI := Lib.hid (eIndex_any l v x w hl h1 h64)
  obtain ⟨q, hq⟩ : ∃ q, q = idxI l x := ⟨_, rfl⟩
  rw [← hq] at K HI
  obtain ⟨a, n, c, rfl⟩ := hl.form
  clear hl hq
  go_enter Tryz.func137, Tryz.ntmps137
  go_wp2_with fail
  go_at_call 146; refine HI.out.mono ?_; rintro e w1 ⟨rfl, hb⟩
  have HB := Lib.hid hb
  clear hb HI
  go_wp2_with fail
  go_ret
  exact ⟨ret_bool K.out, HB.out⟩
end Go.Proofs.YtdhhdkbnlddnbaaGreatDoor

set_option maxRecDepth 100000
namespace Go.Proofs.YtdhhdkbnlddnbaaGreatDoor
open Go.ChangeShapes Go.WideShapes Go.ChangeAt Go.RowKit

theorem wrap_quo {a b : Int} (h0 : 0 ≤ a) (h1 : a ≤ 1000) (hb : 1 ≤ b) : wrap64 (a.tdiv b) = a / b := by
  rw [Int.tdiv_eq_ediv_of_nonneg h0]
  have h2 := Int.ediv_nonneg h0 (b := b) (by omega)
  have h3 : a / b ≤ a := Int.ediv_le_self b h0
  generalize a / b = q at h2 h3 ⊢
  unfold wrap64
  omega
set_option maxHeartbeats 8000000 in
theorem squaresOf_any (r : RulesD) (p : PlaceD) (vp vs ve vc v0 v1 : Value) (pl : Int) (w : World) (hp : PlaceIn w p vc v0 v1) (hk : POkay r p) :
    Calls Tryz.prog 136 #[RulesV r vp vs ve, PlaceV p vc v0 v1, .int .i64 pl] w (BelPost (.int .u64 ((setD r p pl).toNat : Int)) w) := by
  obtain ⟨_, hw, hh, _⟩ := rulesE_ok hk.e
  rw [inB_iff] at hw hh
  obtain ⟨hw1, hw2⟩ := hw
  have hcl := cells_len hk
  have HSP := Lib.hid (fun n h => sq_parts (r := r) (p := p) (n := n) hk h)
  have HSL := Lib.hid (fun n h => sqBit_lt (r := r) (p := p) (n := n) hk h)
  have HCI : Hid (∀ s, 0 ≤ cellI p s ∧ cellI p s ≤ 12) := Lib.hid (fun s => by have h1 := cell_in hk s; have h2 := (pieces_len hk.e).2; omega)
  obtain ⟨g, off, cc, rfl, hcc, hcell⟩ := ints_open hp.c hcl.1
  have HD : Hid (setD r p pl = setTo r p pl p.cells.length) := Lib.hid rfl
  obtain ⟨m, hm⟩ : ∃ m, m = p.cells.length := ⟨_, rfl⟩
  rw [← hm] at HSP HSL HD hcc hcell hcl ⊢
  obtain ⟨hB, hY, hX⟩ := rp_boxes w r p vp vs ve (.slice (some ⟨g, off, none⟩) m cc) v0 v1
  obtain ⟨V, hV⟩ : ∃ V, V = (w.alloc (.cells (RulesCells r vp vs ve) 26)).alloc (.cells (PlaceCells p (.slice (some ⟨g, off, none⟩) m cc) v0 v1) 29) := ⟨_, rfl⟩
  rw [← hV] at hB hY hX
  have HB := Lib.hid hB
  have HC : Hid (∀ j, j < m → ∀ W, Below V.heap.size V W → W.cell? ⟨g, off + j, none⟩ = some (.int .i64 (cellI p (j : Int)))) := Lib.hid (fun j hj W hb => by
    rw [cellI, Int.toNat_natCast]; exact cell_keeps hb (Nat.le_refl _) (cell_keeps hB (Nat.le_refl _) (hcell j hj)))
  have HX : Hid (∀ W, Below V.heap.size V W → BoxP W (w.heap.size + 1) p (.slice (some ⟨g, off, none⟩) m cc) v0 v1) := Lib.hid (fun W hb => hX.below hb (Nat.le_refl _))
  have HY : Hid (∀ W, Below V.heap.size V W → BoxR W w.heap.size r vp vs ve) := Lib.hid (fun W hb => hY.below hb (Nat.le_refl _))
  have HIS : Hid (∀ c W, 0 ≤ c → c ≤ 12 → Calls Tryz.prog 145 #[.int .i64 c, .int .i64 pl] W fun e w' => e = .returned (.bool (isOfB c pl)) ∧ W = w') := Lib.hid (fun c W h0 h1 => turned (eIsOf_any c pl W h0 (by omega)))
  have hm64 := hcl.2
  obtain ⟨x0, x1, x2, x3, x4⟩ := hX
  rw [hV] at x0
  unfold RulesCells PlaceCells at hV x0
  unfold RulesV PlaceV PlaceCells
  rw [HD.out]
  clear hp hk hm hcell hB hcl HD hY x1 x2 x3 x4 hh
  go_enter Tryz.func136, Tryz.ntmps136
  go_wp2_with fail
  rw [← hV]
  clear hV x0
  go_loopw [7, 8, 9, 13] (fun s _ _ i wr => ∃ k : Nat, k ≤ m ∧ i = .int .i64 (k : Int) ∧ s = .int .u64 ((setTo r p pl k).toNat : Int) ∧ Hid (Below V.heap.size V wr)) (fun _ _ _ i _ => m - (intOf i).toNat)
  case atStart => exact ⟨0, by omega, rfl, rfl, Lib.hid (Below.refl _ _)⟩
  case round =>
    obtain ⟨k, hkm, rfl, rfl, hbel⟩ := hrel
    by_cases hlt : k < m
    · have c0 := HC.out k hlt wr hbel.out
      obtain ⟨i0, i1⟩ := HCI.out (k : Int)
      obtain ⟨cv, hcv⟩ : ∃ cv, cellI p (k : Int) = cv := ⟨_, rfl⟩
      rw [hcv] at c0 i0 i1
      obtain ⟨b, hb⟩ : ∃ b, isOfB cv pl = b := ⟨_, rfl⟩
      have HI := Lib.hid (HIS.out cv wr i0 i1)
      rw [hb] at HI
      obtain ⟨y0, y1, y2, y3, y4, y5, y6, y7, y8, y9, y10⟩ := HY.out wr hbel.out
      obtain ⟨S, hS⟩ : ∃ S, setTo r p pl k = S := ⟨_, rfl⟩
      cases b with
      | false =>
        have KS : Hid (setTo r p pl (k + 1) = S) := Lib.hid (by
          rw [setTo, if_neg (by rw [hcv, hb]; decide), hS])
        rw [hS]
        clear hcv hb hS
        go_wp2_with fail
        go_at_call 145; refine HI.out.mono ?_; rintro e w2 ⟨rfl, rfl⟩
        go_wp2_with fail
        go_roundw
        case rel => exact ⟨k + 1, by omega, by go_num, by rw [KS.out], hbel⟩
        case measure => simp [intOf]; omega
      | true =>
        have KS : Hid (setTo r p pl (k + 1) = S ||| bitW (sqBit r k)) := Lib.hid (by
          rw [setTo, if_pos (by rw [hcv, hb]), hS])
        obtain ⟨⟨a1, a2⟩, ⟨b1, b2⟩, -, -, h8, -⟩ := HSP.out k hlt
        have hlt64 := HSL.out k hlt
        obtain ⟨B, hBB⟩ : ∃ B, sqBit r k = B := ⟨_, rfl⟩
        rw [hBB] at hlt64 KS
        have hBv : (B : Int) = (k : Int) / r.width * 8 + (k : Int) % r.width := by rw [← hBB]; unfold sqBit; omega
        have hz : (r.width == 0) = false := by simp; omega
        obtain ⟨q, hq⟩ : ∃ q, (k : Int) / r.width = q := ⟨_, rfl⟩
        obtain ⟨t, ht⟩ : ∃ t, (k : Int) % r.width = t := ⟨_, rfl⟩
        rw [hq] at b1 b2 hBv
        have e1 : wrap64 ((k : Int) / r.width) = q := by rw [hq]; unfold wrap64; omega
        rw [ht] at a1 a2 hBv
        have e2 : (k : Int).tmod r.width = t := by rw [Int.tmod_eq_emod_of_nonneg (by omega), ht]
        have e2' : (k : Int) % r.width = t := ht
        have e3 : wrap64 (q * 8) = q * 8 := by unfold wrap64; omega
        have e4 : wrap64 (q * 8 + t) = (B : Int) := by rw [hBv]; unfold wrap64; omega
        have e5 : IntKind.u64.wrap (2 ^ B) = ((bitW B).toNat : Int) := bitW_int B
        have e6 : bits BinOp.or IntKind.u64 (S.toNat : Int) ((bitW B).toNat : Int) = ((S ||| bitW B).toNat : Int) := b_or S (bitW B)
        have E5 := Lib.hid e5
        have E6 := Lib.hid e6
        rw [hS]
        clear hcv hb hS hBB hq ht hBv e5 e6 a1 a2 b1 b2 h8
        go_wp2_with fail
        go_at_call 145; refine HI.out.mono ?_; rintro e w2 ⟨rfl, rfl⟩
        go_wp2_with fail
        go_quiet (fail)
        go_wp2
        go_roundw
        case rel => exact ⟨k + 1, by omega, by go_num, by rw [KS.out]; simp only [E5.out, E6.out], Lib.hid (below_drewN hbel.out _)⟩
        case measure => simp [intOf]; omega
    · obtain rfl : k = m := by omega
      have HBE := Lib.hid (HB.out.trans (hbel.out.mono HB.out.size))
      go_wp2
      go_ret
      exact ⟨rfl, HBE.out⟩
end Go.Proofs.YtdhhdkbnlddnbaaGreatDoor

set_option maxRecDepth 100000
namespace Go.Proofs.YtdhhdkbnlddnbaaGreatDoor
open Go.ChangeShapes Go.WideShapes Go.ChangeAt Go.RowKit

/-- The program's table of directions, as it lies in memory. -/
def dirCells : List Int := [1, 0, 0, 1, 1, 1, 1, -1]
def Dir (w : World) : Prop := ∀ (i : Nat) (z : Int), dirCells[i]? = some z → w.cell? ⟨0, i, none⟩ = some (.int .i64 z)
theorem Dir.size {w : World} (h : Dir w) : 0 < w.heap.size := World.block_lt_of_cell? _ _ (h 0 1 rfl)
theorem Dir.below {n : Nat} {w w' : World} (h : Dir w) (hb : Below n w w') (hn : w.heap.size ≤ n) : Dir w' := fun i z hz => (hb.cell (p := ⟨0, i, none⟩) (Nat.lt_of_lt_of_le h.size hn)).trans (h i z hz)
theorem dir_at (k : Nat) (hk : k < 4) : ∃ dx dy : Int, goDirs[k]? = some (dx, dy) ∧ (-1 ≤ dx ∧ dx ≤ 1) ∧ (-1 ≤ dy ∧ dy ≤ 1) ∧ ∀ w, Sem.run Tryz.prog (Instr.index 165 (.agg #[.int .i64 1, .int .i64 0, .int .i64 0, .int .i64 1, .int .i64 1, .int .i64 1, .int .i64 1, .int .i64 (-1)]) (.int .i64 (k : Int))) w = .ok (.agg #[.int .i64 dx, .int .i64 dy]) w := by
  obtain rfl | rfl | rfl | rfl : k = 0 ∨ k = 1 ∨ k = 2 ∨ k = 3 := by omega
  · exact ⟨1, 0, rfl, by decide, by decide, fun _ => by kernel_rfl⟩
  · exact ⟨0, 1, rfl, by decide, by decide, fun _ => by kernel_rfl⟩
  · exact ⟨1, 1, rfl, by decide, by decide, fun _ => by kernel_rfl⟩
  · exact ⟨1, -1, rfl, by decide, by decide, fun _ => by kernel_rfl⟩
theorem dirs_no {S : BitVec 64} {c k : Nat} {d : Int × Int} (h : goDirs[k]? = some d) (hp : (goDirs.take k).any (dirB S c) = false) (hd : dirB S c d = false) : (goDirs.take (k + 1)).any (dirB S c) = false := by
  rw [List.take_add_one, h, List.any_append, hp]; simp [hd]
theorem dirs_yes {S : BitVec 64} {c k : Nat} {d : Int × Int} (h : goDirs[k]? = some d) (hd : dirB S c d = true) : goDirs.any (dirB S c) = true := by
  rw [List.any_eq_true]; exact ⟨d, List.mem_of_getElem? h, hd⟩
theorem dirs_all {S : BitVec 64} {c : Nat} (hp : (goDirs.take 4).any (dirB S c) = false) : goDirs.any (dirB S c) = false := hp
theorem dirB_no {S : BitVec 64} {c : Nat} {dx dy : Int} (j : Nat) (hj : j ≤ c - 1) (h : runs S dx dy j = 0#64) : dirB S c (dx, dy) = false := by
  obtain ⟨i, hi⟩ : ∃ i, c - 1 = j + i := ⟨c - 1 - j, by omega⟩
  unfold dirB
  rw [hi, runs_zero h i]; simp
theorem dirB_yes {S : BitVec 64} {c : Nat} {dx dy : Int} (j : Nat) (hj : j = c - 1) (h : runs S dx dy j ≠ 0#64) : dirB S c (dx, dy) = true := by
  unfold dirB
  rw [← hj]; simpa using h
theorem nat_ne {B : BitVec 64} (h : B ≠ 0#64) : ((B.toNat : Int) != 0) = true := by
  rw [bne_iff_ne]
  intro e
  exact h (BitVec.eq_of_toNat_eq (by simpa using (by omega : B.toNat = 0)))
set_option maxHeartbeats 8000000 in
theorem hasLine_any (S : BitVec 64) (c : Nat) (w : World) (hT : Dir w) (hc : 1 ≤ c) (h64 : c ≤ 64) :
    Calls Tryz.prog 135 #[.int .u64 (S.toNat : Int), .int .i64 (c : Int)] w (BelPost (.bool (goDirs.any (dirB S c))) w) := by
  have c0 := hT 0 1 rfl
  have c1 := hT 1 0 rfl
  have c2 := hT 2 0 rfl
  have c3 := hT 3 1 rfl
  have c4 := hT 4 1 rfl
  have c5 := hT 5 1 rfl
  have c6 := hT 6 1 rfl
  have c7 := hT 7 (-1) rfl
  have HSH : Hid (∀ B dx dy W, Calls Tryz.prog 144 #[.int .u64 (BitVec.toNat B : Int), .int .i64 dx, .int .i64 dy] W fun e w' => e = .returned (.int .u64 ((shiftV B dx dy).toNat : Int)) ∧ W = w') := Lib.hid (fun B dx dy W => turned (shift_any B dx dy W))
  clear hT
  go_enter Tryz.func135, Tryz.ntmps135
  go_wp2
  clear c0 c1 c2 c3 c4 c5 c6 c7
  go_loopw [6, 7, 8, 10] (fun _ _ _ i wr => ∃ k : Nat, k ≤ 4 ∧ i = .int .i64 (k : Int) ∧ Hid ((goDirs.take k).any (dirB S c) = false) ∧ Hid (Below w.heap.size w wr)) (fun _ _ _ i _ => 4 - (intOf i).toNat)
  case atStart => exact ⟨0, by omega, rfl, Lib.hid rfl, Lib.hid (Below.refl _ _)⟩
  case round =>
    obtain ⟨k, hk, rfl, hno, hbel⟩ := hrel
    by_cases hlt : k < 4
    · obtain ⟨dx, dy, hd, ⟨dx0, dx1⟩, ⟨dy0, dy1⟩, hix⟩ := dir_at k hlt
      have HD := Lib.hid hd
      have hal := (Below.refl wr.heap.size wr).alloc (Nat.le_refl _) (.cells #[.int .i64 dx, .int .i64 dy] 164)
      have HAL := Lib.hid (hbel.out.trans (hal.mono hbel.out.size))
      have d0 : (wr.alloc (.cells #[.int .i64 dx, .int .i64 dy] 164)).cell? ⟨wr.heap.size, 0, none⟩ = some (.int .i64 dx) := by rw [World.cell?_alloc_at (hn := rfl)]; rfl
      have d1 : (wr.alloc (.cells #[.int .i64 dx, .int .i64 dy] 164)).cell? ⟨wr.heap.size, 1, none⟩ = some (.int .i64 dy) := by rw [World.cell?_alloc_at (hn := rfl)]; rfl
      have HD0 := Lib.hid d0
      have HD1 := Lib.hid d1
      have hk4 : decide ((k : Int) < 4) = true := by simp; omega
      clear hd hal hbel d0 d1
      go_wp2_with fail
      clear hk4
      generalize wr.alloc (.cells #[.int .i64 dx, .int .i64 dy] 164) = W1 at HAL HD0 HD1 ⊢
      generalize wr.heap.size = db at HD0 HD1 ⊢
      clear hix
      go_loopw [7, 8] (fun s n wx => ∃ j : Nat, j ≤ c - 1 ∧ n = .int .i64 ((j : Int) + 1) ∧ s = .int .u64 ((runs S dx dy j).toNat : Int) ∧ Hid (wx = W1)) (fun _ n _ => c + 1 - (intOf n).toNat)
      case atStart => exact ⟨0, by omega, rfl, rfl, Lib.hid rfl⟩
      case round =>
        obtain ⟨j, hj, rfl, rfl, hwx⟩ := hrel
        obtain ⟨B, hB⟩ : ∃ B, runs S dx dy j = B := ⟨_, rfl⟩
        rw [hB]
        have hww := hwx.out.symm
        subst hww
        by_cases hz : B = 0#64
        · have KD : Hid (dirB S c (dx, dy) = false) := Lib.hid (dirB_no j hj (by rw [hB, hz]))
          have KN : Hid ((goDirs.take (k + 1)).any (dirB S c) = false) := Lib.hid (dirs_no HD.out hno.out KD.out)
          have hb0 : ((B.toNat : Int) != 0) = false := by rw [hz]; rfl
          by_cases hjc : j + 1 < c
          · have hd : decide ((j : Int) + 1 < (c : Int)) = true := by simp; omega
            clear hz hB hwx
            go_wp2_with fail
            go_roundw
            case rel => exact ⟨k + 1, by omega, by go_num, KN, HAL⟩
            case measure => simp [intOf]; omega
          · have hd : decide ((j : Int) + 1 < (c : Int)) = false := by simp; omega
            clear hz hB hwx
            go_wp2_with fail
            go_roundw
            case rel => exact ⟨k + 1, by omega, by go_num, KN, HAL⟩
            case measure => simp [intOf]; omega
        · have hb0 : ((B.toNat : Int) != 0) = true := nat_ne hz
          by_cases hjc : j + 1 < c
          · have hd : decide ((j : Int) + 1 < (c : Int)) = true := by simp; omega
            have KR : Hid (runs S dx dy (j + 1) = S &&& shiftV B dx dy) := Lib.hid (by rw [runs, hB])
            have KA : Hid (bits BinOp.and IntKind.u64 (S.toNat : Int) ((shiftV B dx dy).toNat : Int) = ((S &&& shiftV B dx dy).toNat : Int)) := Lib.hid (b_and S (shiftV B dx dy))
            have HS := Lib.hid (HSH.out B dx dy W1)
            have d0 := HD0.out
            have d1 := HD1.out
            clear hz hB hwx
            go_wp2_with fail
            go_at_call 144; refine HS.out.mono ?_; rintro e w2 ⟨rfl, rfl⟩
            go_wp2_with fail
            go_roundw
            case rel => exact ⟨j + 1, by omega, by go_num, by rw [KR.out]; simp only [KA.out], Lib.hid (by first | rfl | trivial)⟩
            case measure => simp [intOf]; omega
          · have hd : decide ((j : Int) + 1 < (c : Int)) = false := by simp; omega
            have KD : Hid (true = goDirs.any (dirB S c)) := Lib.hid (dirs_yes HD.out (dirB_yes j (by omega) (by rw [hB]; exact hz))).symm
            clear hz hB hwx
            go_wp2_with fail
            go_ret
            exact ⟨ret_bool KD.out, HAL.out⟩
    · obtain rfl : k = 4 := by omega
      have KD : Hid (false = goDirs.any (dirB S c)) := Lib.hid (dirs_all hno.out).symm
      go_wp2_with fail
      go_ret
      exact ⟨ret_bool KD.out, hbel.out⟩
end Go.Proofs.YtdhhdkbnlddnbaaGreatDoor

set_option maxRecDepth 100000
namespace Go.Proofs.YtdhhdkbnlddnbaaGreatDoor
open Go.ChangeShapes Go.WideShapes Go.ChangeAt Go.RowKit

/-- The cells of a player's last row. -/
def rowD (r : RulesD) (p : PlaceD) (pl : Int) : List Int := if pl = 0 then p.cells.drop (p.cells.length - r.width.toNat) else p.cells.take r.width.toNat
theorem row_size {r : RulesD} {p : PlaceD} (h : POkay r p) : 1 ≤ r.width.toNat ∧ r.width.toNat ≤ 8 ∧ r.width.toNat ≤ p.cells.length ∧ (r.width.toNat : Int) = r.width := by
  obtain ⟨_, hw, hh, _⟩ := rulesE_ok h.e
  rw [inB_iff] at hw hh
  have h4 := h.cl
  have h5 : r.width * 1 ≤ r.width * r.height := Int.mul_le_mul_of_nonneg_left (by omega) (by omega)
  omega
theorem row_len {r : RulesD} {p : PlaceD} (h : POkay r p) (pl : Int) : (rowD r p pl).length = r.width.toNat := by
  obtain ⟨_, _, h3, _⟩ := row_size h
  unfold rowD
  split
  · rw [List.length_drop]; omega
  · rw [List.length_take]; omega
theorem last_div {r : RulesD} {p : PlaceD} (h : POkay r p) {s : Nat} (hs : s < p.cells.length) : ((s : Int) / r.width = r.height - 1 ↔ p.cells.length - r.width.toNat ≤ s) ∧ ((s : Int) / r.width = 0 ↔ s < r.width.toNat) := by
  obtain ⟨⟨a, b⟩, ⟨c, d⟩, e, f, g, w1⟩ := sq_parts h hs
  obtain ⟨h1, h2, h3, h4⟩ := row_size h
  have h5 := h.cl
  obtain ⟨q, hq⟩ : ∃ q, (s : Int) / r.width = q := ⟨_, rfl⟩
  rw [hq] at c d e ⊢
  have e2 : r.width * r.height = r.height * r.width := Int.mul_comm _ _
  have e3 : (r.height - 1) * r.width = r.height * r.width - r.width := by rw [Int.sub_mul, Int.one_mul]
  constructor
  · constructor
    · intro hx
      rw [hx] at e
      omega
    · intro hx
      rcases Int.lt_or_le q (r.height - 1) with hl | hl
      · exfalso
        have := Int.mul_le_mul_of_nonneg_right (show q + 1 ≤ r.height - 1 by omega) (show 0 ≤ r.width by omega)
        rw [Int.add_mul, Int.one_mul] at this
        omega
      · omega
  · constructor
    · intro hx
      rw [hx] at e
      omega
    · intro hx
      rcases Int.lt_or_le 0 q with hl | hl
      · exfalso
        have := Int.mul_le_mul_of_nonneg_right (show 1 ≤ q by omega) (show 0 ≤ r.width by omega)
        omega
      · omega
theorem row_mem {r : RulesD} {p : PlaceD} (h : POkay r p) {pl k : Int} (p0 : 0 ≤ pl) (p1 : pl ≤ 1) : decide (2 * k + pl + 1 ∈ rowD r p pl) = reachB r p pl k := by
  rw [Bool.eq_iff_iff, decide_eq_true_eq, reach_iff]
  have hget : ∀ s : Nat, s < p.cells.length → p.cells[s]? = some (cellI p (s : Int)) := fun s hs => by
    rw [cellI, Int.toNat_natCast, List.getElem?_eq_getElem hs]; rfl
  unfold rowD lastRowI
  by_cases e : pl = 0
  · rw [if_pos e, if_neg (by omega)]
    constructor
    · intro hm
      obtain ⟨i, hi⟩ := List.getElem?_of_mem hm
      rw [List.getElem?_drop] at hi
      obtain ⟨hlt, _⟩ := List.getElem?_eq_some_iff.1 hi
      rw [hget _ hlt] at hi
      exact ⟨((p.cells.length - r.width.toNat + i : Nat) : Int), ⟨by omega, by omega⟩, Option.some.inj hi, (last_div h hlt).1.2 (by omega)⟩
    · rintro ⟨s, ⟨s0, s1⟩, hc, hd⟩
      obtain ⟨n, rfl⟩ : ∃ n : Nat, s = (n : Int) := ⟨s.toNat, by omega⟩
      have hn : n < p.cells.length := by omega
      have hge := (last_div h hn).1.1 hd
      refine List.mem_of_getElem? (i := n - (p.cells.length - r.width.toNat)) ?_
      rw [List.getElem?_drop, show p.cells.length - r.width.toNat + (n - (p.cells.length - r.width.toNat)) = n by omega, hget n hn, hc]
  · rw [if_neg e, if_pos (by omega)]
    constructor
    · intro hm
      obtain ⟨i, hi⟩ := List.getElem?_of_mem hm
      rw [List.getElem?_take] at hi
      split at hi
      · rename_i hlt
        obtain ⟨hlt2, _⟩ := List.getElem?_eq_some_iff.1 hi
        rw [hget _ hlt2] at hi
        exact ⟨(i : Int), ⟨by omega, by omega⟩, Option.some.inj hi, (last_div h hlt2).2.2 hlt⟩
      · cases hi
    · rintro ⟨s, ⟨s0, s1⟩, hc, hd⟩
      obtain ⟨n, rfl⟩ : ∃ n : Nat, s = (n : Int) := ⟨s.toNat, by omega⟩
      have hn : n < p.cells.length := by omega
      have hlt := (last_div h hn).2.1 hd
      refine List.mem_of_getElem? (i := n) ?_
      rw [List.getElem?_take, if_pos hlt, hget n hn, hc]
def RowPost (xs : List Int) (w : World) (e : Ending) (w' : World) : Prop := ∃ a n c, e = .returned (.slice a n c) ∧ IsSl IntAt 1 w' (.slice a n c) xs ∧ Below w.heap.size w w'
set_option maxHeartbeats 4000000 in
theorem lastRow_any (r : RulesD) (p : PlaceD) (vp vs ve vc v0 v1 : Value) (pl : Int) (w : World) (hp : PlaceIn w p vc v0 v1) (hk : POkay r p) :
    Calls Tryz.prog 138 #[RulesV r vp vs ve, PlaceV p vc v0 v1, .int .i64 pl] w (RowPost (rowD r p pl) w) := by
  obtain ⟨q1, q2, q3, q4⟩ := row_size hk
  have hcl := cells_len hk
  obtain ⟨g, off, cc, rfl, hcc, hcell⟩ := ints_open hp.c hcl.1
  have hfit : cc ≤ 9223372036854775807 := by
    rcases hp.c with ⟨h, _⟩ | ⟨g', off', cap, e1, _, _, e4, _⟩
    · rw [h] at hcl; simp at hcl
    · simp only [Value.slice.injEq] at e1; unfold maxLen at e4; omega
  have HRL := Lib.hid (row_len hk pl)
  obtain ⟨m, hm⟩ : ∃ m, m = p.cells.length := ⟨_, rfl⟩
  obtain ⟨q, hq⟩ : ∃ q, q = r.width.toNat := ⟨_, rfl⟩
  rw [← hm] at q3 hcc hcell hcl ⊢
  rw [← hq] at q1 q2 q3 q4 HRL
  obtain ⟨hB, hY, hX⟩ := rp_boxes w r p vp vs ve (.slice (some ⟨g, off, none⟩) m cc) v0 v1
  have HB := Lib.hid hB
  have HC : Hid (∀ i x, p.cells[i]? = some x → ((w.alloc (.cells (RulesCells r vp vs ve) 26)).alloc (.cells (PlaceCells p (.slice (some ⟨g, off, none⟩) m cc) v0 v1) 29)).cell? ⟨g, off + i, none⟩ = some (.int .i64 x)) := Lib.hid (fun i x hx => by
    have hi := (List.getElem?_eq_some_iff.1 hx).1
    have h1 := hcell i (by omega)
    rw [hx] at h1
    exact cell_keeps hB (Nat.le_refl _) h1)
  have HF : Hid (pl = 0 → rowD r p pl = p.cells.drop (m - q)) := Lib.hid (fun h => by rw [rowD, if_pos h, ← hm, ← hq])
  have HS : Hid (pl ≠ 0 → rowD r p pl = p.cells.take q) := Lib.hid (fun h => by rw [rowD, if_neg h, ← hq])
  obtain ⟨x0, x1, x2, x3, x4⟩ := hX
  obtain ⟨y0, y1, y2, y3, y4, y5, y6, y7, y8, y9, y10⟩ := hY
  rw [← q4] at y1
  have QW := Lib.hid q4
  have hm64 := hcl.2
  unfold RulesCells PlaceCells at HB HC x0 x1 x2 x3 x4 y0 y1 y2 y3 y4 y5 y6 y7 y8 y9 y10
  unfold RulesV PlaceV PlaceCells
  rw [← q4] at HB HC x0 x1 x2 x3 x4 y0 y1 y2 y3 y4 y5 y6 y7 y8 y9 y10 ⊢
  clear hp hk hm hcell hB hcl hq q4
  by_cases hpl : pl = 0
  · have KR := Lib.hid (HF.out hpl)
    subst hpl
    have e1 : IntKind.i64.wrap ((m : Int) - (q : Int)) = ((m - q : Nat) : Int) := by rw [show ((m - q : Nat) : Int) = (m : Int) - (q : Int) by omega]; exact IntWalk.i64_in _ (by omega)
    have hlt : m - q < cc := by omega
    go_enter Tryz.func138, Tryz.ntmps138
    go_wp2_with fail
    go_ret
    refine ⟨_, _, _, rfl, .inr ⟨g, off + (m - q), cc - (m - q), ?_, ?_, ?_, ?_, fun i x hx => ?_⟩, HB.out⟩
    · rw [HRL.out, show m - (m - q) = q by omega]
    · intro h; have := HRL.out; rw [h] at this; simp at this; omega
    · rw [HRL.out]; omega
    · unfold maxLen; omega
    · rw [KR.out, List.getElem?_drop] at hx
      rw [IntAt, Nat.mul_one, show off + (m - q) + i = off + (m - q + i) by omega]
      exact HC.out _ _ hx
  · have KR := Lib.hid (HS.out hpl)
    have hd : (pl == 0) = false := by simpa using hpl
    clear hpl
    go_enter Tryz.func138, Tryz.ntmps138
    go_wp2_with fail
    go_ret
    refine ⟨_, _, _, rfl, .inr ⟨g, off, cc, ?_, ?_, ?_, ?_, fun i x hx => ?_⟩, HB.out⟩
    · rw [HRL.out]
    · intro h; have := HRL.out; rw [h] at this; simp at this; omega
    · rw [HRL.out]; omega
    · unfold maxLen; omega
    · rw [KR.out, List.getElem?_take] at hx
      split at hx
      · rw [IntAt, Nat.mul_one]; exact HC.out _ _ hx
      · cases hx
/-- The boxes of rules, of a position and of a condition that a call begins with. -/
theorem rpe_boxes (w : World) (r : RulesD) (p : PlaceD) (vp vs ve vc v0 v1 : Value) (x : EndD) : ∃ V, V = ((w.alloc (.cells (RulesCells r vp vs ve) 26)).alloc (.cells (PlaceCells p vc v0 v1) 29)).alloc (.cells #[.int .i64 x.kind, .int .i64 x.piece, .int .i64 x.count, .bool x.loses] 62) ∧ Below w.heap.size w V ∧ BoxR V w.heap.size r vp vs ve ∧ BoxP V (w.heap.size + 1) p vc v0 v1 ∧ EndAt V (w.heap.size + 2) 0 x := by
  obtain ⟨hB, hY, hX⟩ := rp_boxes w r p vp vs ve vc v0 v1
  have hs : ((w.alloc (.cells (RulesCells r vp vs ve) 26)).alloc (.cells (PlaceCells p vc v0 v1) 29)).heap.size = w.heap.size + 2 := by simp
  generalize (w.alloc (.cells (RulesCells r vp vs ve) 26)).alloc (.cells (PlaceCells p vc v0 v1) 29) = V0 at hB hY hX hs ⊢
  have h1 := (Below.refl V0.heap.size V0).alloc (Nat.le_refl _) (.cells #[.int .i64 x.kind, .int .i64 x.piece, .int .i64 x.count, .bool x.loses] 62)
  refine ⟨_, rfl, hB.trans (h1.mono hB.size), hY.below h1 (Nat.le_refl _), hX.below h1 (Nat.le_refl _), ?_⟩
  rw [← hs]
  refine ⟨?_, ?_, ?_, ?_⟩ <;> (rw [World.cell?_alloc_at (hn := rfl)]; rfl)
/-- What a good condition is. -/
structure EndOk (x : EndD) : Prop where
  k : x.kind = 0 ∧ (1 ≤ x.count ∧ x.count ≤ 64) ∨ x.kind = 1 ∧ (0 ≤ x.piece ∧ x.piece ≤ 5) ∨ x.kind = 2 ∧ (0 ≤ x.piece ∧ x.piece ≤ 5)
theorem endE_good {x : EndD} {n : Nat} (hn : n ≤ 6) (h : endE x n = 0) : EndOk x := by
  have hk : inB x.kind 0 2 = true := by
    cases hz : inB x.kind 0 2
    · exact absurd h (by rw [endE, if_pos hz]; decide)
    · rfl
  rw [endE, if_neg (by rw [hk]; decide)] at h
  rw [inB_iff] at hk
  by_cases hc : ((if x.kind = 1 then decide (x.count = 0) else inB x.count 1 64) && (if x.kind = 0 then decide (x.piece = 0) else inB x.piece 0 ((n : Int) - 1))) = true
  · rw [Bool.and_eq_true] at hc
    obtain ⟨c1, c2⟩ := hc
    obtain e | e | e : x.kind = 0 ∨ x.kind = 1 ∨ x.kind = 2 := by omega
    · rw [if_neg (by omega), inB_iff] at c1; exact ⟨.inl ⟨e, c1⟩⟩
    · rw [if_neg (by omega), inB_iff] at c2; exact ⟨.inr (.inl ⟨e, c2.1, by omega⟩)⟩
    · rw [if_neg (by omega), inB_iff] at c2; exact ⟨.inr (.inr ⟨e, c2.1, by omega⟩)⟩
  · rw [if_neg hc] at h; cases h
theorem endsGo_good {n : Nat} (hn : n ≤ 6) : ∀ {l : List EndD}, endsGo l n = 0 → ∀ x ∈ l, EndOk x
  | [], _, x, hx => by cases hx
  | y :: l, h, x, hx => by
    unfold endsGo at h
    split at h
    · rename_i h1
      rcases List.mem_cons.1 hx with rfl | hx
      · exact endE_good hn h1
      · exact endsGo_good hn h x hx
    · rename_i h1; exact absurd h h1
theorem ends_okay {r : RulesD} (h : rulesE r = 0) : r.ends.length ≤ 6 ∧ ∀ x ∈ r.ends, EndOk x := by
  have hn := (pieces_len h).2
  obtain ⟨_, _, _, _, _, he, _⟩ := rulesE_ok h
  unfold endsE at he
  split at he
  · cases he
  · exact ⟨by omega, endsGo_good hn he⟩
set_option maxHeartbeats 8000000 in
theorem isSatisfied_any (r : RulesD) (p : PlaceD) (vp vs ve vc v0 v1 : Value) (x : EndD) (w : World) (hp : PlaceIn w p vc v0 v1) (hk : POkay r p) (hx : EndOk x) (hT : Dir w) :
    Calls Tryz.prog 123 #[RulesV r vp vs ve, PlaceV p vc v0 v1, .agg #[.int .i64 x.kind, .int .i64 x.piece, .int .i64 x.count, .bool x.loses]] w (BelPost (.bool (metB r p x)) w) := by
  have t0 := hk.t0
  have t1 := hk.t1
  have hcl := cells_len hk
  obtain ⟨V, hV, hB, hY, hX, hE⟩ := rpe_boxes w r p vp vs ve vc v0 v1 x
  have HB := Lib.hid hB
  have HX : Hid (∀ W, Below V.heap.size V W → BoxP W (w.heap.size + 1) p vc v0 v1) := Lib.hid (fun W hb => hX.below hb (Nat.le_refl _))
  have HY : Hid (∀ W, Below V.heap.size V W → BoxR W w.heap.size r vp vs ve) := Lib.hid (fun W hb => hY.below hb (Nat.le_refl _))
  have HE : Hid (∀ W, Below V.heap.size V W → EndAt W (w.heap.size + 2) 0 x) := Lib.hid (fun W hb => end_keeps _ _ _ _ _ _ hb (Nat.le_refl _) hE)
  have HT : Hid (∀ W, Below V.heap.size V W → Dir W) := Lib.hid (fun W hb => (hT.below hB (Nat.le_refl _)).below hb (Nat.le_refl _))
  have HP : Hid (∀ W, Below V.heap.size V W → PlaceIn W p vc v0 v1) := Lib.hid (fun W hb => (hp.below hB (Nat.le_refl _)).below hb (Nat.le_refl _))
  have HO : Hid (∀ W, Calls Tryz.prog 134 #[.int .i64 p.turn] W fun e w' => e = .returned (.int .i64 (1 - p.turn)) ∧ W = w') := Lib.hid (fun W => turned (eOpp_any _ _ t0 t1))
  obtain ⟨x0, x1, x2, x3, x4⟩ := hX
  obtain ⟨e0, e1, e2, e3⟩ := hE
  obtain ⟨kd, pc, ct, ls⟩ := x
  have HK := Lib.hid hk
  have hXk := hx.k
  dsimp only at hXk hV e0 e1 e2 e3 HE ⊢
  unfold EndAt at HE
  dsimp only at HE
  rw [hV] at x3 e0
  unfold RulesCells PlaceCells at hV x3 e0
  clear hx hT hB hY x0 x1 x2 x4 e1 e2 e3
  rcases hXk with ⟨rfl, c0, c1⟩ | ⟨rfl, c0, c1⟩ | ⟨rfl, c0, c1⟩
  · obtain ⟨c, rfl⟩ : ∃ c : Nat, ct = (c : Int) := ⟨ct.toNat, by omega⟩
    have KM : Hid (goDirs.any (dirB (setD r p (1 - p.turn)) c) = metB r p ⟨0, pc, (c : Int), ls⟩) := Lib.hid (by
      rw [lines_eq hk (by omega)]; rfl)
    have HSQ : Hid (∀ W, Below V.heap.size V W → Calls Tryz.prog 136 #[RulesV r vp vs ve, PlaceV p vc v0 v1, .int .i64 (1 - p.turn)] W (BelPost (.int .u64 ((setD r p (1 - p.turn)).toNat : Int)) W)) := Lib.hid (fun W hb => squaresOf_any r p vp vs ve vc v0 v1 _ W (HP.out W hb) HK.out)
    have HHL : Hid (∀ S W, Below V.heap.size V W → Calls Tryz.prog 135 #[.int .u64 (BitVec.toNat S : Int), .int .i64 (c : Int)] W (BelPost (.bool (goDirs.any (dirB S c))) W)) := Lib.hid (fun S W hb => hasLine_any S c W (HT.out W hb) (by omega) (by omega))
    generalize setD r p (1 - p.turn) = S at KM HSQ
    generalize metB r p ⟨0, pc, (c : Int), ls⟩ = M at KM ⊢
    unfold RulesV PlaceV PlaceCells at HSQ
    unfold RulesV PlaceV PlaceCells
    clear hp hk HP HT HK hcl
    go_enter Tryz.func123, Tryz.ntmps123
    go_wp2_with fail
    go_at_call 134; refine (HO.out _).mono ?_; rintro e w1 ⟨rfl, rfl⟩
    go_wp2_with fail
    rw [← hV]
    clear hV x3 e0
    have hBc : Below V.heap.size V V.drew := (Below.refl _ _).drew
    obtain ⟨x0, x1, x2, x3, x4⟩ := HX.out V (Below.refl _ _)
    obtain ⟨y0, y1, y2, y3, y4, y5, y6, y7, y8, y9, y10⟩ := HY.out V (Below.refl _ _)
    obtain ⟨e0, e1, e2, e3⟩ := HE.out V (Below.refl _ _)
    go_region_held3 (fun w' => (w'.cell? ⟨w.heap.size, 0, none⟩ = some (.string r.name) ∧ w'.cell? ⟨w.heap.size, 1, none⟩ = some (.int .i64 r.width) ∧ w'.cell? ⟨w.heap.size, 2, none⟩ = some (.int .i64 r.height) ∧ w'.cell? ⟨w.heap.size, 3, none⟩ = some vp ∧ w'.cell? ⟨w.heap.size, 4, none⟩ = some vs ∧ w'.cell? ⟨w.heap.size, 5, none⟩ = some (.bool r.falls) ∧ w'.cell? ⟨w.heap.size, 6, none⟩ = some (.bool r.keeps) ∧ w'.cell? ⟨w.heap.size, 7, none⟩ = some ve ∧ w'.cell? ⟨w.heap.size, 8, none⟩ = some (.int .i64 r.blocked) ∧ w'.cell? ⟨w.heap.size, 9, none⟩ = some (.int .i64 r.quiet) ∧ w'.cell? ⟨w.heap.size, 10, none⟩ = some (.int .i64 r.rep)) ∧
      (w'.cell? ⟨w.heap.size + 1, 0, none⟩ = some vc ∧ w'.cell? ⟨w.heap.size + 1, 1, none⟩ = some v0 ∧ w'.cell? ⟨w.heap.size + 1, 2, none⟩ = some v1 ∧ w'.cell? ⟨w.heap.size + 1, 3, none⟩ = some (.int .i64 p.turn) ∧ w'.cell? ⟨w.heap.size + 1, 4, none⟩ = some (.int .i64 p.quiet)) ∧
      w'.cell? ⟨w.heap.size + 2, 2, none⟩ = some (.int .i64 (c : Int))) (exact ⟨HY.out _ hBc, HX.out _ hBc, (HE.out _ hBc).2.2.1⟩) (first
      | (go_at_call 136; refine (HSQ.out _ hBc).mono ?_; rintro e w1 ⟨rfl, hb⟩; have hBc := hBc.trans (hb.mono hBc.size); clear hb)
      | (go_at_call 135; refine (HHL.out _ _ hBc).mono ?_; rintro e w2 ⟨rfl, hb⟩; have hBc := hBc.trans (hb.mono hBc.size); clear hb))
    have HBE := Lib.hid (HB.out.trans (hBc.mono HB.out.size))
    clear hBc
    go_wp2_with fail
    go_ret
    exact ⟨ret_bool KM.out, HBE.out⟩
  · have KM : Hid (decide (2 * pc + (1 - p.turn) + 1 ∈ rowD r p (1 - p.turn)) = metB r p ⟨1, pc, ct, ls⟩) := Lib.hid (by
      rw [row_mem hk (by omega) (by omega)]; rfl)
    have HLR : Hid (∀ W, Below V.heap.size V W → Calls Tryz.prog 138 #[RulesV r vp vs ve, PlaceV p vc v0 v1, .int .i64 (1 - p.turn)] W (RowPost (rowD r p (1 - p.turn)) W)) := Lib.hid (fun W hb => lastRow_any r p vp vs ve vc v0 v1 _ W (HP.out W hb) HK.out)
    have HCE : Hid (∀ W, Calls Tryz.prog 139 #[.int .i64 pc, .int .i64 (1 - p.turn)] W fun e w' => e = .returned (.int .i64 (2 * pc + (1 - p.turn) + 1)) ∧ W = w') := Lib.hid (fun W => turned (eCellOf_any _ _ W (by omega) (by omega) (by omega) (by omega)))
    obtain ⟨cv, hcv⟩ : ∃ cv, 2 * pc + (1 - p.turn) + 1 = cv := ⟨_, rfl⟩
    rw [hcv] at KM HCE
    have HCO : Hid (∀ a n c W, IsSl IntAt 1 W (.slice a n c) (rowD r p (1 - p.turn)) → Calls Tryz.prog 137 #[.slice a n c, .int .i64 cv] W (BelPost (.bool (decide (cv ∈ rowD r p (1 - p.turn)))) W)) := Lib.hid (fun a n c W h => by
      obtain ⟨q1, q2, _⟩ := row_size HK.out
      have q3 := row_len HK.out (1 - p.turn)
      exact eContains_any _ _ _ W h (by omega) (by omega))
    generalize rowD r p (1 - p.turn) = L at KM HLR HCO
    generalize metB r p ⟨1, pc, ct, ls⟩ = M at KM ⊢
    unfold RulesV PlaceV PlaceCells at HLR
    unfold RulesV PlaceV PlaceCells
    clear hcv
    clear hp hk HP HT HK hcl
    go_enter Tryz.func123, Tryz.ntmps123
    go_wp2_with fail
    go_at_call 134; refine (HO.out _).mono ?_; rintro e w1 ⟨rfl, rfl⟩
    go_wp2_with fail
    rw [← hV]
    clear hV x3 e0
    have hBc : Below V.heap.size V V.drew := (Below.refl _ _).drew
    obtain ⟨x0, x1, x2, x3, x4⟩ := HX.out V (Below.refl _ _)
    obtain ⟨y0, y1, y2, y3, y4, y5, y6, y7, y8, y9, y10⟩ := HY.out V (Below.refl _ _)
    obtain ⟨e0, e1, e2, e3⟩ := HE.out V (Below.refl _ _)
    go_region_held3 (fun w' => (w'.cell? ⟨w.heap.size, 0, none⟩ = some (.string r.name) ∧ w'.cell? ⟨w.heap.size, 1, none⟩ = some (.int .i64 r.width) ∧ w'.cell? ⟨w.heap.size, 2, none⟩ = some (.int .i64 r.height) ∧ w'.cell? ⟨w.heap.size, 3, none⟩ = some vp ∧ w'.cell? ⟨w.heap.size, 4, none⟩ = some vs ∧ w'.cell? ⟨w.heap.size, 5, none⟩ = some (.bool r.falls) ∧ w'.cell? ⟨w.heap.size, 6, none⟩ = some (.bool r.keeps) ∧ w'.cell? ⟨w.heap.size, 7, none⟩ = some ve ∧ w'.cell? ⟨w.heap.size, 8, none⟩ = some (.int .i64 r.blocked) ∧ w'.cell? ⟨w.heap.size, 9, none⟩ = some (.int .i64 r.quiet) ∧ w'.cell? ⟨w.heap.size, 10, none⟩ = some (.int .i64 r.rep)) ∧
      (w'.cell? ⟨w.heap.size + 1, 0, none⟩ = some vc ∧ w'.cell? ⟨w.heap.size + 1, 1, none⟩ = some v0 ∧ w'.cell? ⟨w.heap.size + 1, 2, none⟩ = some v1 ∧ w'.cell? ⟨w.heap.size + 1, 3, none⟩ = some (.int .i64 p.turn) ∧ w'.cell? ⟨w.heap.size + 1, 4, none⟩ = some (.int .i64 p.quiet)) ∧
      w'.cell? ⟨w.heap.size + 2, 1, none⟩ = some (.int .i64 pc)) (exact ⟨HY.out _ hBc, HX.out _ hBc, (HE.out _ hBc).2.1⟩) (first
      | (go_at_call 138; refine (HLR.out _ hBc).mono ?_; rintro e w1 ⟨a1, n1, c1, rfl, hI, hb⟩; have hBc := hBc.trans (hb.mono hBc.size); clear hb)
      | (go_at_call 139; refine (HCE.out _).mono ?_; rintro e w2 ⟨rfl, rfl⟩)
      | (go_at_call 137; refine (HCO.out _ _ _ _ hI).mono ?_; rintro e w3 ⟨rfl, hb⟩; have hBc := hBc.trans (hb.mono hBc.size); clear hb))
    all_goals
      have HBE := Lib.hid (HB.out.trans (hBc.mono HB.out.size))
      clear hBc hI
      go_wp2_with fail
      go_ret
      exact ⟨ret_bool KM.out, HBE.out⟩
  · have KM : Hid (decide ((cntTo p.cells (2 * pc + p.turn + 1) p.cells.length : Int) < ct) = metB r p ⟨2, pc, ct, ls⟩) := Lib.hid (by
      rw [few_cnt]; rfl)
    have HCE : Hid (∀ W, Calls Tryz.prog 139 #[.int .i64 pc, .int .i64 p.turn] W fun e w' => e = .returned (.int .i64 (2 * pc + p.turn + 1)) ∧ W = w') := Lib.hid (fun W => turned (eCellOf_any _ _ W (by omega) (by omega) (by omega) (by omega)))
    obtain ⟨cv, hcv⟩ : ∃ cv, 2 * pc + p.turn + 1 = cv := ⟨_, rfl⟩
    rw [hcv] at KM HCE
    have HCT : Hid (∀ W, Below V.heap.size V W → Calls Tryz.prog 140 #[vc, .int .i64 cv] W (BelPost (.int .i64 (cntTo p.cells cv p.cells.length : Int)) W)) := Lib.hid (fun W hb => eCount_any _ _ _ W (HP.out W hb).c (by have := cells_len HK.out; omega) (by have := cells_len HK.out; omega))
    generalize cntTo p.cells cv p.cells.length = L at KM HCT
    generalize metB r p ⟨2, pc, ct, ls⟩ = M at KM ⊢
    obtain ⟨ca, cn, cc, rfl⟩ := hp.c.form
    unfold RulesV PlaceV PlaceCells
    clear hcv
    clear hp hk HP HT HK hcl
    go_enter Tryz.func123, Tryz.ntmps123
    go_wp2_with fail
    go_at_call 134; refine (HO.out _).mono ?_; rintro e w1 ⟨rfl, rfl⟩
    go_wp2_with fail
    rw [← hV]
    clear hV x3 e0
    have hBc : Below V.heap.size V V.drew := (Below.refl _ _).drew
    obtain ⟨x0, x1, x2, x3, x4⟩ := HX.out V (Below.refl _ _)
    obtain ⟨y0, y1, y2, y3, y4, y5, y6, y7, y8, y9, y10⟩ := HY.out V (Below.refl _ _)
    obtain ⟨e0, e1, e2, e3⟩ := HE.out V (Below.refl _ _)
    go_region_held3 (fun w' => w'.cell? ⟨w.heap.size + 1, 0, none⟩ = some (.slice ca cn cc) ∧ w'.cell? ⟨w.heap.size + 1, 3, none⟩ = some (.int .i64 p.turn) ∧ w'.cell? ⟨w.heap.size + 2, 1, none⟩ = some (.int .i64 pc) ∧ w'.cell? ⟨w.heap.size + 2, 2, none⟩ = some (.int .i64 ct)) (exact ⟨(HX.out _ hBc).1, (HX.out _ hBc).2.2.2.1, (HE.out _ hBc).2.1, (HE.out _ hBc).2.2.1⟩) (first
      | (go_at_call 139; refine (HCE.out _).mono ?_; rintro e w2 ⟨rfl, rfl⟩)
      | (go_at_call 140; refine (HCT.out _ hBc).mono ?_; rintro e w3 ⟨rfl, hb⟩; have hBc := hBc.trans (hb.mono hBc.size); clear hb))
    all_goals
      have HBE := Lib.hid (HB.out.trans (hBc.mono HB.out.size))
      clear hBc
      go_wp2_with fail
      go_ret
      exact ⟨ret_bool KM.out, HBE.out⟩
theorem ended_any (r : RulesD) (p : PlaceD) (vc v0 v1 : Value) (x : EndD) (w : World) (hk : POkay r p) :
    Calls Tryz.prog 124 #[PlaceV p vc v0 v1, .agg #[.int .i64 x.kind, .int .i64 x.piece, .int .i64 x.count, .bool x.loses]] w (BelPost (.int .i64 (winsI p x)) w) := by
  have t0 := hk.t0
  have t1 := hk.t1
  have HO : Hid (∀ W, Calls Tryz.prog 134 #[.int .i64 p.turn] W fun e w' => e = .returned (.int .i64 (1 - p.turn)) ∧ W = w') := Lib.hid (fun W => turned (eOpp_any _ _ t0 t1))
  have HW1 : Hid (∀ W, Calls Tryz.prog 141 #[.int .i64 p.turn] W fun e w' => e = .returned (.int .i64 (1 + p.turn)) ∧ W = w') := Lib.hid (fun W => turned (eWin_any _ _ t0 t1))
  have HW2 : Hid (∀ W, Calls Tryz.prog 141 #[.int .i64 (1 - p.turn)] W fun e w' => e = .returned (.int .i64 (1 + (1 - p.turn))) ∧ W = w') := Lib.hid (fun W => turned (eWin_any _ _ (by omega) (by omega)))
  obtain ⟨kd, pc, ct, ls⟩ := x
  have hB := ((Below.refl w.heap.size w).alloc (Nat.le_refl _) (.cells (PlaceCells p vc v0 v1) 29)).alloc (by simp) (.cells #[.int .i64 kd, .int .i64 pc, .int .i64 ct, .bool ls] 62)
  have HB := Lib.hid hB
  unfold PlaceCells at HB
  unfold PlaceV PlaceCells
  dsimp only
  clear hk hB
  cases ls with
  | true =>
    have KM : Hid ((1 : Int) + p.turn = winsI p ⟨kd, pc, ct, true⟩) := Lib.hid rfl
    go_enter Tryz.func124, Tryz.ntmps124
    go_wp2_with fail
    go_at_call 141; refine (HW1.out _).mono ?_; rintro e w1 ⟨rfl, rfl⟩
    go_wp2_with fail
    go_ret
    exact ⟨ret_i64 KM.out, HB.out⟩
  | false =>
    have KM : Hid ((1 : Int) + (1 - p.turn) = winsI p ⟨kd, pc, ct, false⟩) := Lib.hid rfl
    go_enter Tryz.func124, Tryz.ntmps124
    go_wp2_with fail
    go_at_call 134; refine (HO.out _).mono ?_; rintro e w1 ⟨rfl, rfl⟩
    go_wp2_with fail
    go_at_call 141; refine (HW2.out _).mono ?_; rintro e w1 ⟨rfl, rfl⟩
    go_wp2_with fail
    go_ret
    exact ⟨ret_i64 KM.out, HB.out⟩
theorem blocked_any (r : RulesD) (p : PlaceD) (vp vs ve vc v0 v1 : Value) (w : World) (hk : POkay r p) :
    Calls Tryz.prog 125 #[RulesV r vp vs ve, PlaceV p vc v0 v1] w (BelPost (.int .i64 (stuckI r p)) w) := by
  have t0 := hk.t0
  have t1 := hk.t1
  have HO : Hid (∀ W, Calls Tryz.prog 134 #[.int .i64 p.turn] W fun e w' => e = .returned (.int .i64 (1 - p.turn)) ∧ W = w') := Lib.hid (fun W => turned (eOpp_any _ _ t0 t1))
  have HW1 : Hid (∀ W, Calls Tryz.prog 141 #[.int .i64 p.turn] W fun e w' => e = .returned (.int .i64 (1 + p.turn)) ∧ W = w') := Lib.hid (fun W => turned (eWin_any _ _ t0 t1))
  have HW2 : Hid (∀ W, Calls Tryz.prog 141 #[.int .i64 (1 - p.turn)] W fun e w' => e = .returned (.int .i64 (1 + (1 - p.turn))) ∧ W = w') := Lib.hid (fun W => turned (eWin_any _ _ (by omega) (by omega)))
  obtain ⟨hB, hY, hX⟩ := rp_boxes w r p vp vs ve vc v0 v1
  have HB := Lib.hid hB
  have hsd : stuckI r p = if r.blocked = 0 then 1 + (1 - p.turn) else if r.blocked = 1 then 1 + p.turn else 3 := rfl
  obtain ⟨x0, x1, x2, x3, x4⟩ := hX
  obtain ⟨y0, y1, y2, y3, y4, y5, y6, y7, y8, y9, y10⟩ := hY
  unfold RulesCells PlaceCells at HB x3 y8
  unfold RulesV PlaceV PlaceCells
  clear hk hB x0 x1 x2 x4 y0 y1 y2 y3 y4 y5 y6 y7 y9 y10
  by_cases b0 : r.blocked = 0
  · have KM : Hid ((1 : Int) + (1 - p.turn) = stuckI r p) := Lib.hid (by rw [hsd, if_pos b0])
    have hd : (r.blocked == 0) = true := by simpa using b0
    clear hsd b0
    go_enter Tryz.func125, Tryz.ntmps125
    go_wp2_with fail
    go_at_call 134; refine (HO.out _).mono ?_; rintro e w1 ⟨rfl, rfl⟩
    go_wp2_with fail
    go_at_call 141; refine (HW2.out _).mono ?_; rintro e w1 ⟨rfl, rfl⟩
    go_wp2_with fail
    go_ret
    exact ⟨ret_i64 KM.out, HB.out⟩
  · have hd : (r.blocked == 0) = false := by simpa using b0
    by_cases b1 : r.blocked = 1
    · have KM : Hid ((1 : Int) + p.turn = stuckI r p) := Lib.hid (by rw [hsd, if_neg b0, if_pos b1])
      have hd1 : (r.blocked == 1) = true := by simpa using b1
      clear hsd b0 b1
      go_enter Tryz.func125, Tryz.ntmps125
      go_wp2_with fail
      go_at_call 141; refine (HW1.out _).mono ?_; rintro e w1 ⟨rfl, rfl⟩
      go_wp2_with fail
      go_ret
      exact ⟨ret_i64 KM.out, HB.out⟩
    · have KM : Hid ((3 : Int) = stuckI r p) := Lib.hid (by rw [hsd, if_neg b0, if_neg b1])
      have hd1 : (r.blocked == 1) = false := by simpa using b1
      clear hsd b0 b1
      go_enter Tryz.func125, Tryz.ntmps125
      go_wp2_with fail
      go_ret
      exact ⟨ret_i64 KM.out, HB.out⟩
end Go.Proofs.YtdhhdkbnlddnbaaGreatDoor

set_option maxRecDepth 100000
namespace Go.Proofs.YtdhhdkbnlddnbaaGreatDoor
open Go.ChangeShapes Go.WideShapes Go.ChangeAt Go.RowKit

/-- A result and an error. -/
def OfPost (x c : Int) (w : World) (e : Ending) (w' : World) : Prop := e = .returned (.tuple #[.int .i64 x, .int .i64 c]) ∧ Below w.heap.size w w'
theorem ret_of {a b c : Int} (h : a = b) : Ending.returned (.tuple #[.int .i64 a, .int .i64 c]) = .returned (.tuple #[.int .i64 b, .int .i64 c]) := by rw [h]
theorem endsR_step {r : RulesD} {p : PlaceD} {k : Nat} {x : EndD} (h : r.ends[k]? = some x) : endsR r p (r.ends.drop k) = if metB r p x = true then winsI p x else endsR r p (r.ends.drop (k + 1)) := by
  obtain ⟨h1, h2⟩ := List.getElem?_eq_some_iff.1 h
  rw [List.drop_eq_getElem_cons h1, h2, endsR]
theorem result_won {r : RulesD} {p : PlaceD} (hk : POkay r p) {x : EndD} (h : endsR r p r.ends = winsI p x) : winsI p x = resultD r p := by
  have hw := wins_in (r := r) hk x
  rw [resultD, if_pos (by rw [h]; omega), h]
theorem result_rest {r : RulesD} {p : PlaceD} (h : endsR r p r.ends = 0) : resultD r p = if calmB r p = true then 3 else if allD r p ≠ [] then 0 else stuckI r p := by rw [resultD, if_neg (by simpa using h)]
set_option maxHeartbeats 4000000 in
theorem of_bad (r : RulesD) (p : PlaceD) (vp vs ve vc v0 v1 : Value) (w : World) (hr : RulesIn w r vp vs ve) (hp : PlaceIn w p vc v0 v1) (hz : placeE r p ≠ 0) :
    Calls Tryz.prog 105 #[RulesV r vp vs ve, PlaceV p vc v0 v1] w (OfPost 0 (placeE r p) w) := by
  obtain ⟨c, hc⟩ : ∃ c : Int, c = placeE r p := ⟨_, rfl⟩
  obtain ⟨hB, hY, hX⟩ := rp_boxes w r p vp vs ve vc v0 v1
  have HCK : Hid (Calls Tryz.prog 36 #[RulesV r vp vs ve, PlaceV p vc v0 v1] _ (BelPost (.int .i64 c) _)) := Lib.hid (by rw [hc]; exact pcheck_any r p vp vs ve vc v0 v1 _ (hr.below hB (Nat.le_refl _)) (hp.below hB (Nat.le_refl _)))
  rw [← hc] at hz ⊢
  have hne : (c != 0) = true := by simpa using hz
  have HB := Lib.hid hB
  unfold RulesCells PlaceCells at HB hY hX HCK
  unfold RulesV PlaceV PlaceCells at HCK ⊢
  obtain ⟨x0, x1, x2, x3, x4⟩ := hX
  obtain ⟨y0, y1, y2, y3, y4, y5, y6, y7, y8, y9, y10⟩ := hY
  clear hr hp hB hc hz
  go_enter Tryz.func105, Tryz.ntmps105
  go_wp2_with fail
  go_at_call 36; refine HCK.out.mono ?_; rintro e w1 ⟨rfl, hb⟩
  have HB1 := Lib.hid (HB.out.trans (hb.mono HB.out.size))
  clear hb HB HCK x0 x1 x2 x3 x4 y0 y1 y2 y3 y4 y5 y6 y7 y8 y9 y10
  go_wp2_with fail
  go_ret2
  exact ⟨rfl, HB1.out⟩
set_option maxHeartbeats 8000000 in
theorem of_ok (r : RulesD) (p : PlaceD) (vp vs ve vc v0 v1 : Value) (w : World) (hr : RulesIn w r vp vs ve) (hp : PlaceIn w p vc v0 v1) (hk : POkay r p) (hT : Dir w) :
    Calls Tryz.prog 105 #[RulesV r vp vs ve, PlaceV p vc v0 v1] w (OfPost (resultD r p) 0 w) := by
  obtain ⟨m, hm⟩ : ∃ m : Nat, m = r.ends.length := ⟨_, rfl⟩
  obtain ⟨hm6, hgood⟩ := ends_okay hk.e
  obtain ⟨ea, ce, rfl, hce, hcell⟩ := hr.1.2.2.shape hm
  obtain ⟨hB, hY, hX⟩ := rp_boxes w r p vp vs (.slice ea m ce) vc v0 v1
  obtain ⟨V, hV⟩ : ∃ V, V = (w.alloc (.cells (RulesCells r vp vs (.slice ea m ce)) 26)).alloc (.cells (PlaceCells p vc v0 v1) 29) := ⟨_, rfl⟩
  rw [← hV] at hB hY hX
  have HB := Lib.hid hB
  have HX : Hid (∀ W, Below V.heap.size V W → BoxP W (w.heap.size + 1) p vc v0 v1) := Lib.hid (fun W hb => hX.below hb (Nat.le_refl _))
  have HY : Hid (∀ W, Below V.heap.size V W → BoxR W w.heap.size r vp vs (.slice ea m ce)) := Lib.hid (fun W hb => hY.below hb (Nat.le_refl _))
  have HP : Hid (∀ W, Below V.heap.size V W → PlaceIn W p vc v0 v1) := Lib.hid (fun W hb => (hp.below hB (Nat.le_refl _)).below hb (Nat.le_refl _))
  have HR : Hid (∀ W, Below V.heap.size V W → RulesIn W r vp vs (.slice ea m ce)) := Lib.hid (fun W hb => (hr.below hB (Nat.le_refl _)).below hb (Nat.le_refl _))
  have HT : Hid (∀ W, Below V.heap.size V W → Dir W) := Lib.hid (fun W hb => (hT.below hB (Nat.le_refl _)).below hb (Nat.le_refl _))
  have HC : Hid (∀ j, j < m → ∃ g off x, ea = some ⟨g, off, none⟩ ∧ r.ends[j]? = some x ∧ ∀ W, Below V.heap.size V W → EndAt W g (off + j * 4) x) := Lib.hid (fun j hj => by
    obtain ⟨g, off, x, h1, h2, h3⟩ := hcell j hj
    exact ⟨g, off, x, h1, h2, fun W hb => end_keeps _ _ _ _ _ _ hb (Nat.le_refl _) (end_keeps _ _ _ _ _ _ hB (Nat.le_refl _) h3)⟩)
  have HCK : Hid (Calls Tryz.prog 36 #[RulesV r vp vs (.slice ea m ce), PlaceV p vc v0 v1] V (BelPost (.int .i64 0) V)) := Lib.hid (by
    have h := pcheck_any r p vp vs (.slice ea m ce) vc v0 v1 V (HR.out V (Below.refl _ _)) (HP.out V (Below.refl _ _))
    rwa [placeE_iff.2 hk] at h)
  have HIS : Hid (∀ x W, EndOk x → Below V.heap.size V W → Calls Tryz.prog 123 #[RulesV r vp vs (.slice ea m ce), PlaceV p vc v0 v1, .agg #[.int .i64 x.kind, .int .i64 x.piece, .int .i64 x.count, .bool x.loses]] W (BelPost (.bool (metB r p x)) W)) := Lib.hid (fun x W hx hb => isSatisfied_any r p vp vs _ vc v0 v1 x W (HP.out W hb) hk hx (HT.out W hb))
  have HEN : Hid (∀ x W, Calls Tryz.prog 124 #[PlaceV p vc v0 v1, .agg #[.int .i64 (EndD.kind x), .int .i64 x.piece, .int .i64 x.count, .bool x.loses]] W (BelPost (.int .i64 (winsI p x)) W)) := Lib.hid (fun x W => ended_any r p vc v0 v1 x W hk)
  have HBL : Hid (∀ W, Calls Tryz.prog 125 #[RulesV r vp vs (.slice ea m ce), PlaceV p vc v0 v1] W (BelPost (.int .i64 (stuckI r p)) W)) := Lib.hid (fun W => blocked_any r p vp vs _ vc v0 v1 W hk)
  have HAL : Hid (∀ W, Below V.heap.size V W → Calls Tryz.prog 34 #[RulesV r vp vs (.slice ea m ce), PlaceV p vc v0 v1] W (ListPost (allD r p) W)) := Lib.hid (fun W hb => all_ok r p vp vs _ vc v0 v1 W (HR.out W hb) (HP.out W hb) hk)
  have HG := Lib.hid (fun x (hx : x ∈ r.ends) => hgood x hx)
  have HM := Lib.hid hm
  have HK := Lib.hid hk
  have hal := allD_length hk
  rw [← hm] at hm6
  obtain ⟨x0, x1, x2, x3, x4⟩ := HX.out V (Below.refl _ _)
  obtain ⟨y0, y1, y2, y3, y4, y5, y6, y7, y8, y9, y10⟩ := HY.out V (Below.refl _ _)
  obtain ⟨ca, cn, cc, rfl⟩ := hp.c.form
  unfold RulesCells PlaceCells at hV
  unfold RulesV PlaceV PlaceCells at HCK HIS HBL HAL
  unfold PlaceV PlaceCells at HEN
  unfold RulesV PlaceV PlaceCells
  have w0 := x0
  have w1 := y0
  rw [hV] at w0 w1
  clear hr hp hT hm hcell hgood hB hY hX hk
  go_enter Tryz.func105, Tryz.ntmps105
  go_wp2_with fail
  rw [← hV]
  clear hV w0 w1
  go_at_call 36; refine HCK.out.mono ?_; rintro e V1 ⟨rfl, hb⟩
  have HB1 := Lib.hid hb
  clear hb HCK x0 x1 x2 x3 x4 y0 y1 y2 y3 y4 y5 y6 y7 y8 y9 y10
  obtain ⟨y0, y1, y2, y3, y4, y5, y6, y7, y8, y9, y10⟩ := HY.out V1 HB1.out
  go_wp2_with fail
  clear y0 y1 y2 y3 y4 y5 y6 y7 y8 y9 y10
  go_loopw [4, 5, 8, 20] (fun _ _ _ i wr => ∃ k : Nat, k ≤ m ∧ i = .int .i64 (k : Int) ∧ Hid (endsR r p r.ends = endsR r p (r.ends.drop k)) ∧ Hid (Below V.heap.size V wr)) (fun _ _ _ i _ => m - (intOf i).toNat)
  case atStart => exact ⟨0, by omega, rfl, Lib.hid rfl, HB1⟩
  case round =>
    obtain ⟨k, hkm, rfl, hgo, hbel⟩ := hrel
    by_cases hlt : k < m
    · obtain ⟨g, off, x, rfl, hx, hq⟩ := HC.out k hlt
      obtain ⟨c0, c1, c2, c3⟩ := hq wr hbel.out
      have HXX := Lib.hid hx
      have hok := HG.out x (List.mem_of_getElem? hx)
      obtain ⟨b, hb⟩ : ∃ b, metB r p x = b := ⟨_, rfl⟩
      have hal := (Below.refl wr.heap.size wr).alloc (Nat.le_refl _) (.cells #[.int .i64 x.kind, .int .i64 x.piece, .int .i64 x.count, .bool x.loses] 62)
      have HBW := Lib.hid (hbel.out.trans (hal.mono hbel.out.size))
      have HI := Lib.hid (HIS.out x _ hok HBW.out)
      have hE : EndAt (wr.alloc (.cells #[.int .i64 x.kind, .int .i64 x.piece, .int .i64 x.count, .bool x.loses] 62)) wr.heap.size 0 x := by
        refine ⟨?_, ?_, ?_, ?_⟩ <;> (rw [World.cell?_alloc_at (hn := rfl)]; rfl)
      have HE := Lib.hid hE
      rw [hb] at HI
      obtain ⟨x0, x1, x2, x3, x4⟩ := HX.out _ HBW.out
      obtain ⟨y0, y1, y2, y3, y4, y5, y6, y7, y8, y9, y10⟩ := HY.out _ HBW.out
      have HST : Hid (endsR r p r.ends = if metB r p x = true then winsI p x else endsR r p (r.ends.drop (k + 1))) := Lib.hid (by rw [hgo.out]; exact endsR_step hx)
      have HMB := Lib.hid hb
      clear hx hq hok hal hE hb
      go_wp2_with fail
      go_at_call 123; refine HI.out.mono ?_; rintro e w2 ⟨rfl, hb2⟩
      have HB2 := Lib.hid (HBW.out.trans (hb2.mono HBW.out.size))
      have HE2 := Lib.hid (end_keeps _ _ _ _ _ _ hb2 (Nat.le_refl _) HE.out)
      clear hb2 HI HE x0 x1 x2 x3 x4 y0 y1 y2 y3 y4 y5 y6 y7 y8 y9 y10 c0 c1 c2 c3
      cases b with
      | false =>
        have KG : Hid (endsR r p r.ends = endsR r p (r.ends.drop (k + 1))) := Lib.hid (by rw [HST.out, if_neg (by rw [HMB.out]; decide)])
        go_wp2_with fail
        go_roundw
        case rel => exact ⟨k + 1, by omega, by go_num, KG, HB2⟩
        case measure => simp [intOf]; omega
      | true =>
        have KG : Hid (winsI p x = resultD r p) := Lib.hid (result_won HK.out (by rw [HST.out, if_pos HMB.out]))
        have HN := Lib.hid (HEN.out x w2)
        obtain ⟨x0, x1, x2, x3, x4⟩ := HX.out _ HB2.out
        obtain ⟨e0, e1, e2, e3⟩ := HE2.out
        go_wp2_with fail
        go_at_call 124; refine HN.out.mono ?_; rintro e w3 ⟨rfl, hb3⟩
        have HBE := Lib.hid (HB.out.trans ((HB2.out.trans (hb3.mono HB2.out.size)).mono HB.out.size))
        clear hb3 HN HE2 x0 x1 x2 x3 x4 e0 e1 e2 e3
        go_wp2_with fail
        go_ret2
        exact ⟨ret_of KG.out, HBE.out⟩
    · have hz : endsR r p r.ends = 0 := by rw [hgo.out, List.drop_eq_nil_of_le (by have := HM.out; omega)]; rfl
      have HRR := Lib.hid (result_rest hz)
      obtain rfl : k = m := by omega
      obtain ⟨x0, x1, x2, x3, x4⟩ := HX.out _ hbel.out
      obtain ⟨y0, y1, y2, y3, y4, y5, y6, y7, y8, y9, y10⟩ := HY.out _ hbel.out
      clear hz hlt hgo
      by_cases hc : calmB r p = true
      · have KR : Hid ((3 : Int) = resultD r p) := Lib.hid (by rw [HRR.out, if_pos hc])
        unfold calmB at hc
        rw [Bool.and_eq_true, decide_eq_true_eq, decide_eq_true_eq] at hc
        obtain ⟨hc1, hc2⟩ := hc
        have d1 : (r.quiet != 0) = true := by simpa using hc1
        have d2 : decide (p.quiet ≥ r.quiet) = true := by simpa using hc2
        have HBE := Lib.hid (HB.out.trans (hbel.out.mono HB.out.size))
        clear hc1 hc2
        go_wp2_with fail
        go_ret2
        exact ⟨ret_of KR.out, HBE.out⟩
      · have KR0 : Hid (resultD r p = if allD r p ≠ [] then 0 else stuckI r p) := Lib.hid (by rw [HRR.out, if_neg hc])
        have hd : ((r.quiet != 0) = false) ∨ ((r.quiet != 0) = true ∧ decide (p.quiet ≥ r.quiet) = false) := by
          unfold calmB at hc
          by_cases h0 : r.quiet = 0
          · left; simpa using h0
          · right
            refine ⟨by simpa using h0, ?_⟩
            simp only [Bool.and_eq_true, decide_eq_true_eq, not_and] at hc
            have := hc h0
            simp; omega
        have HA := Lib.hid (HAL.out wr hbel.out)
        clear hc
        have hfin : True := trivial
        rcases hd with d1 | ⟨d1, d2⟩
        all_goals
          go_wp2_with fail
          go_at_call 34; refine HA.out.mono ?_; rintro e w2 ⟨la, ln, lc, rfl, _, hln, hb2⟩
          have HB2 := Lib.hid (hbel.out.trans (hb2.mono hbel.out.size))
          have HLN := Lib.hid hln
          have hl5 : ln ≤ 5000 := by omega
          clear hb2 hln x0 x1 x2 x3 x4 y0 y1 y2 y3 y4 y5 y6 y7 y8 y9 y10
          by_cases hl : ln = 0
          · have KR : Hid (stuckI r p = resultD r p) := Lib.hid (by
              rw [KR0.out, if_neg]
              intro h
              exact h (List.eq_nil_of_length_eq_zero (by rw [← HLN.out]; exact hl)))
            have HBK := Lib.hid (HBL.out w2)
            subst hl
            obtain ⟨x0, x1, x2, x3, x4⟩ := HX.out _ HB2.out
            obtain ⟨y0, y1, y2, y3, y4, y5, y6, y7, y8, y9, y10⟩ := HY.out _ HB2.out
            go_wp2_with fail
            go_at_call 125; refine HBK.out.mono ?_; rintro e w3 ⟨rfl, hb3⟩
            have HBE := Lib.hid (HB.out.trans ((HB2.out.trans (hb3.mono HB2.out.size)).mono HB.out.size))
            clear hb3 HBK x0 x1 x2 x3 x4 y0 y1 y2 y3 y4 y5 y6 y7 y8 y9 y10
            go_wp2_with fail
            go_ret2
            exact ⟨ret_of KR.out, HBE.out⟩
          · have KR : Hid ((0 : Int) = resultD r p) := Lib.hid (by
              rw [KR0.out, if_pos]
              intro h
              rw [h] at HLN
              exact hl HLN.out)
            have hd3 : decide ((ln : Int) > 0) = true := by simp; omega
            have hd4 : decide (0 < ln) = true := by simp; omega
            have HBE := Lib.hid (HB.out.trans (HB2.out.mono HB.out.size))
            go_wp2_with fail
            go_ret2
            exact ⟨ret_of KR.out, HBE.out⟩
end Go.Proofs.YtdhhdkbnlddnbaaGreatDoor
