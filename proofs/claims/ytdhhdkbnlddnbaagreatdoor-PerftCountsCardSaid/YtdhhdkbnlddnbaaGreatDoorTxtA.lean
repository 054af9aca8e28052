/- Merged by merge.py of the texts Txt Dec Good. -/
import Derived.Test.YtdhhdkbnlddnbaaGreatDoorRulA
import Derived.Lib.ItoaNum
import Derived.Lib.Join
namespace Go.Proofs.YtdhhdkbnlddnbaaGreatDoor
open Go.RowKit

def num (n : Int) : List UInt8 := Lib.itoa n
/-- A line of words. -/
def lineB (ws : List (List UInt8)) : List UInt8 := Lib.join ws [32] ++ [10]
def lettB (x : PieceD) : List UInt8 := [UInt8.ofNat x.letter.toNat]
def takeB (t : Int) : List UInt8 := if t = 0 then [110, 101, 118, 101, 114] else if t = 1 then [109, 97, 121] else [109, 117, 115, 116]
def howB (b : Bool) : List UInt8 := if b then [108, 111, 115, 101, 115] else [119, 105, 110, 115]
def blockB (t : Int) : List UInt8 := if t = 0 then [108, 111, 115, 101, 115] else if t = 1 then [119, 105, 110, 115] else [100, 114, 97, 119, 115]
def wayL (x : WayD) : List UInt8 := lineB [[119, 97, 121], num x.dx, num x.dy, num x.most, takeB x.take]
def waysL (l : List WayD) : List UInt8 := (l.map wayL).flatten
/-- The letter of the type into which a piece changes, or a dash. -/
def toB (ps : List PieceD) (x : PieceD) : List UInt8 := if x.promote > 0 then (match ps[(x.promote - 1).toNat]? with | some y => lettB y | none => []) else [45]
def headL (ps : List PieceD) (x : PieceD) : List UInt8 := lineB [[112, 105, 101, 99, 101], lettB x, num x.hand, toB ps x]
def pieceL (ps : List PieceD) (x : PieceD) : List UInt8 := headL ps x ++ waysL x.ways
def piecesL (ps : List PieceD) (l : List PieceD) : List UInt8 := (l.map (pieceL ps)).flatten
/-- What a row has for a cell. -/
def cellB (ps : List PieceD) (c : Int) : UInt8 :=
  if c = 0 then 46 else match ps[((c - 1) / 2).toNat]? with
    | some y => if (c - 1) % 2 = 0 then UInt8.ofNat y.letter.toNat else UInt8.ofNat (y.letter.toNat + 32)
    | none => 0
def rowB (ps : List PieceD) (st : List Int) (W y : Nat) : List UInt8 := (List.range W).map fun x => cellB ps (st[y * W + x]?.getD 0)
def rowL (ps : List PieceD) (st : List Int) (W y : Nat) : List UInt8 := lineB [[114, 111, 119], rowB ps st W y]
/-- The rows from the k-th one down. -/
def rowsL (ps : List PieceD) (st : List Int) (W : Nat) : Nat → List UInt8
  | 0 => []
  | k + 1 => rowL ps st W k ++ rowsL ps st W k
def pieceTx (ps : List PieceD) (k : Int) : List UInt8 := match ps[k.toNat]? with | some y => lettB y | none => []
def endL (ps : List PieceD) (x : EndD) : List UInt8 :=
  if x.kind = 0 then lineB [[101, 110, 100, 32, 108, 105, 110, 101], num x.count, howB x.loses]
  else if x.kind = 1 then lineB [[101, 110, 100, 32, 114, 101, 97, 99, 104], pieceTx ps x.piece, howB x.loses]
  else lineB [[101, 110, 100, 32, 116, 97, 107, 101], pieceTx ps x.piece, num x.count, howB x.loses]
def endsL (ps : List PieceD) (l : List EndD) : List UInt8 := (l.map (endL ps)).flatten
def gameL (r : RulesD) : List UInt8 := lineB [[103, 97, 109, 101], r.name.data.toList, num r.width, num r.height]
def fallsL (b : Bool) : List UInt8 := if b then lineB [[102, 97, 108, 108, 115]] else []
def keepsL (b : Bool) : List UInt8 := if b then lineB [[107, 101, 101, 112, 115]] else []
def blockL (t : Int) : List UInt8 := lineB [[98, 108, 111, 99, 107, 101, 100], blockB t]
def quietL (t : Int) : List UInt8 := lineB [[113, 117, 105, 101, 116], num t]
def repL (t : Int) : List UInt8 := lineB [[114, 101, 112, 101, 97, 116], num t]
/-- The text of rules. -/
def textB (r : RulesD) : List UInt8 :=
  gameL r ++ piecesL r.pieces r.pieces ++ rowsL r.pieces r.start r.width.toNat r.height.toNat ++ fallsL r.falls ++ keepsL r.keeps ++ endsL r.pieces r.ends ++ blockL r.blocked ++ quietL r.quiet ++ repL r.rep

/-! ### How long -/
theorem lineB_one (a : List UInt8) : lineB [a] = a ++ [10] := by simp [lineB, Lib.join_one]
theorem lineB_cons (a b : List UInt8) (r : List (List UInt8)) : lineB (a :: b :: r) = a ++ [32] ++ lineB (b :: r) := by
  simp [lineB, Lib.join_cons, Lib.joinTail]
theorem num_digit {n : Int} (h0 : 0 ≤ n) (h : n ≤ 9) : num n = [UInt8.ofNat (48 + n.toNat)] := by
  unfold num Lib.itoa
  rw [if_neg (by omega), Lib.decDigits_one (by omega)]
theorem num_big {n : Int} (h : 10 ≤ n) : num n = num (n / 10) ++ num (n % 10) := by
  unfold num Lib.itoa
  rw [if_neg (by omega), if_neg (by omega), if_neg (by omega), Lib.decDigits, dif_neg (by omega)]
  have e1 : n.toNat / 10 = (n / 10).toNat := by omega
  have e2 : n.toNat % 10 = (n % 10).toNat := by omega
  rw [e1, e2, Lib.decDigits_one (i := (n % 10).toNat) (by omega)]
theorem num_neg {n : Int} (h : n < 0) : num n = 45 :: num (-n) := by
  unfold num Lib.itoa
  rw [if_pos h, if_neg (by omega)]
  have : n.natAbs = (-n).toNat := by omega
  rw [this]
theorem num_len {n : Int} (h : -7 ≤ n) (h2 : n ≤ 200) : (num n).length ≤ 3 := by
  have hd : ∀ k : Int, 0 ≤ k → k ≤ 200 → (num k).length ≤ 3 := by
    intro k h0 h1
    by_cases a : k ≤ 9
    · rw [num_digit h0 a]; simp
    · by_cases b : k / 10 ≤ 9
      · rw [num_big (by omega), num_digit (by omega) b, num_digit (by omega) (by omega)]; simp
      · rw [num_big (by omega), num_big (n := k / 10) (by omega), num_digit (n := k / 10 / 10) (by omega) (by omega), num_digit (by omega) (by omega), num_digit (by omega) (by omega)]; simp
  by_cases hn : n < 0
  · rw [num_neg hn, num_digit (by omega) (by omega)]; simp
  · exact hd n (by omega) h2
end Go.Proofs.YtdhhdkbnlddnbaaGreatDoor

set_option maxRecDepth 100000
namespace Go.Proofs.YtdhhdkbnlddnbaaGreatDoor
open Go.ChangeShapes Go.WideShapes Go.ChangeAt Go.RowKit

/-- A list of bytes as a string. -/
def str (l : List UInt8) : ByteArray := ⟨l.toArray⟩
theorem str_app (a b : List UInt8) : str a ++ str b = str (a ++ b) := by
  apply ByteArray.ext
  simp [str]
theorem str_size (a : List UInt8) : (str a).size = a.length := by simp [str, ByteArray.size]
def numS (n : Int) : ByteArray := str (num n)
theorem numS_size {n : Int} (h : -7 ≤ n) (h2 : n ≤ 200) : (numS n).size ≤ 3 := by rw [numS, str_size]; exact num_len h h2
end Go.Proofs.YtdhhdkbnlddnbaaGreatDoor

namespace Go.Proofs.YtdhhdkbnlddnbaaGreatDoor
open Go.RowKit

def WOk (x : WayD) : Prop := (-7 ≤ x.dx ∧ x.dx ≤ 7) ∧ (-7 ≤ x.dy ∧ x.dy ≤ 7) ∧ (1 ≤ x.most ∧ x.most ≤ 7) ∧ 0 ≤ x.take ∧ x.take ≤ 2
def POk (n : Nat) (x : PieceD) : Prop := (65 ≤ x.letter ∧ x.letter ≤ 90) ∧ (0 ≤ x.hand ∧ x.hand ≤ 64) ∧ (0 ≤ x.promote ∧ x.promote ≤ n) ∧ x.ways.length ≤ 16 ∧ ∀ y ∈ x.ways, WOk y
def EOk (n : Nat) (x : EndD) : Prop := (0 ≤ x.kind ∧ x.kind ≤ 2) ∧ (0 ≤ x.piece ∧ x.piece < n) ∧ 0 ≤ x.count ∧ x.count ≤ 64
structure ROk (r : RulesD) : Prop where
  name : r.name.data.toList.length ≤ 8
  w1 : 1 ≤ r.width
  w2 : r.width ≤ 8
  h1 : 1 ≤ r.height
  h2 : r.height ≤ 8
  p1 : 0 < r.pieces.length
  p6 : r.pieces.length ≤ 6
  ps : ∀ x ∈ r.pieces, POk r.pieces.length x
  sl : (r.start.length : Int) = r.width * r.height
  st : ∀ c ∈ r.start, 0 ≤ c ∧ c ≤ 2 * r.pieces.length
  e6 : r.ends.length ≤ 6
  es : ∀ x ∈ r.ends, EOk r.pieces.length x
  b1 : 0 ≤ r.blocked
  b2 : r.blocked ≤ 2
  q1 : 0 ≤ r.quiet
  q2 : r.quiet ≤ 200
  r1 : 0 ≤ r.rep
  r2 : r.rep ≤ 5
theorem goAll {ps : List PieceD} : ∀ (m k : Nat), piecesGo ps k m = 0 → ∀ i x, k ≤ i → i < k + m → ps[i]? = some x → pieceE x (ps.take i) ps.length = 0
  | 0, k, _, i, x, h1, h2, _ => by omega
  | m + 1, k, h, i, x, h1, h2, hx => by
    by_cases hk : k < ps.length
    · have hxk : ps[k]? = some ps[k] := List.getElem?_eq_getElem hk
      by_cases hz : pieceE ps[k] (ps.take k) ps.length = 0
      · rw [piecesGo_step hxk hz] at h
        by_cases hik : i = k
        · subst hik
          rw [hxk] at hx
          obtain rfl := Option.some.inj hx
          exact hz
        · exact goAll m (k + 1) h i x (by omega) (by omega) hx
      · rw [piecesGo_stop hxk hz] at h
        exact absurd h hz
    · have := (List.getElem?_eq_some_iff.1 hx).1; omega
theorem wOk {x : WayD} (h : wayB x = true) : WOk x := by
  simp only [wayB, Bool.and_eq_true, inB_iff] at h
  exact ⟨h.1, h.2.1, h.2.2.2.1, h.2.2.2.2⟩
theorem pOk {x : PieceD} {es : List PieceD} {n : Nat} (h : pieceE x es n = 0) : POk n x := by
  unfold pieceE at h
  split at h
  · cases h
  · rename_i c1
    split at h
    · cases h
    · split at h
      · cases h
      · rename_i c3
        split at h
        · cases h
        · rename_i c4
          split at h
          · cases h
          · rename_i c5
            have d1 : capB x.letter = true := by simpa using c1
            have d3 : (inB x.hand 0 64 && inB x.promote 0 n) = true := by simpa using c3
            have d5 : x.ways.all wayB = true := by simpa using c5
            rw [Bool.and_eq_true, inB_iff, inB_iff] at d3
            rw [capB, inB_iff] at d1
            exact ⟨d1, d3.1, d3.2, by omega, fun y hy => wOk (List.all_eq_true.1 d5 y hy)⟩
theorem eOk {x : EndD} {n : Nat} (hn : 0 < n) (h : endE x n = 0) : EOk n x := by
  unfold endE at h
  split at h
  · cases h
  · rename_i c1
    have d1 : inB x.kind 0 2 = true := by simpa using c1
    rw [inB_iff] at d1
    by_cases c2 : ((if x.kind = 1 then decide (x.count = 0) else inB x.count 1 64) && (if x.kind = 0 then decide (x.piece = 0) else inB x.piece 0 ((n : Int) - 1))) = true
    · rw [Bool.and_eq_true] at c2
      refine ⟨d1, ?_, ?_⟩
      · by_cases hk : x.kind = 0
        · have := c2.2; rw [if_pos hk] at this; have := of_decide_eq_true this; omega
        · have := c2.2; rw [if_neg hk, inB_iff] at this; omega
      · by_cases hk : x.kind = 1
        · have := c2.1; rw [if_pos hk] at this; have := of_decide_eq_true this; omega
        · have := c2.1; rw [if_neg hk, inB_iff] at this; omega
    · rw [if_neg c2] at h; cases h
theorem endsAll {n : Nat} : ∀ {l : List EndD}, endsGo l n = 0 → ∀ x ∈ l, endE x n = 0
  | [], _, x, hx => by cases hx
  | y :: l, h, x, hx => by
    unfold endsGo at h
    by_cases hz : endE y n = 0
    · rw [if_pos hz] at h
      rcases List.mem_cons.1 hx with rfl | hx
      · exact hz
      · exact endsAll h x hx
    · rw [if_neg hz] at h; exact absurd h hz
theorem rOk {r : RulesD} (hz : rulesE r = 0) : ROk r := by
  obtain ⟨k1, k2, k3, k4, k5, k6, k7⟩ := rulesE_ok hz
  rw [inB_iff] at k2 k3
  have hn : inB r.name.data.toList.length 1 8 = true := by
    cases h : inB r.name.data.toList.length 1 8
    · rw [nameB_size h] at k1; cases k1
    · rfl
  rw [inB_iff] at hn
  obtain ⟨s1, s2⟩ := startE_ok k5
  have p1 : r.pieces.length ≠ 0 := by
    intro h0; unfold piecesE at k4; rw [if_pos h0] at k4; cases k4
  have p6 : r.pieces.length ≤ 6 := by
    by_cases h : r.pieces.length ≤ 6
    · exact h
    · unfold piecesE at k4; rw [if_neg p1, if_pos (by omega)] at k4; cases k4
  have e6 : r.ends.length ≤ 6 := by
    by_cases h : r.ends.length ≤ 6
    · exact h
    · unfold endsE at k6; rw [if_pos (by omega)] at k6; cases k6
  unfold piecesE at k4
  rw [if_neg p1, if_neg (by omega)] at k4
  unfold endsE at k6
  rw [if_neg (by omega)] at k6
  unfold otherE at k7
  split at k7
  · rename_i c
    rw [Bool.and_eq_true, inB_iff, Bool.and_eq_true, inB_iff, Bool.or_eq_true, inB_iff] at c
    have hr : r.rep = 0 ∨ (2 ≤ r.rep ∧ r.rep ≤ 5) := c.2.2.imp of_decide_eq_true id
    refine ⟨by omega, k2.1, k2.2, k3.1, k3.2, by omega, p6, fun x hx => ?_, s1, fun c hc => ?_, e6, fun x hx => eOk (by omega) (endsAll k6 x hx), c.1.1, c.1.2, c.2.1.1, c.2.1.2, by omega, by omega⟩
    · obtain ⟨i, hi⟩ := List.getElem?_of_mem hx
      exact pOk (goAll _ 0 k4 i x (Nat.zero_le _) (by have := (List.getElem?_eq_some_iff.1 hi).1; omega) hi)
    · exact inB_iff.1 (List.all_eq_true.1 s2 c hc)
  · cases k7

/-! ### How long -/
theorem flat_succ {α : Type} {f : α → List UInt8} {l : List α} {k : Nat} {x : α} (h : l[k]? = some x) : ((l.take (k + 1)).map f).flatten = ((l.take k).map f).flatten ++ f x := by
  rw [List.take_add_one, h]
  simp
theorem flat_len {α : Type} {f : α → List UInt8} {C : Nat} : ∀ {l : List α}, (∀ x ∈ l, (f x).length ≤ C) → ((l.map f).flatten).length ≤ l.length * C
  | [], _ => by simp
  | x :: l, h => by
    have h1 := flat_len (l := l) (fun y hy => h y (List.mem_cons_of_mem _ hy))
    have h2 := h x (List.mem_cons_self ..)
    simp only [List.map_cons, List.flatten_cons, List.length_append, List.length_cons, Nat.succ_mul]
    omega
theorem num_le {n : Int} (h : -7 ≤ n) (h2 : n ≤ 200) : (num n).length ≤ 3 := num_len h h2
theorem takeB_le (t : Int) : (takeB t).length ≤ 5 := by
  unfold takeB; split
  · simp
  · split <;> simp
theorem howB_le (b : Bool) : (howB b).length ≤ 5 := by cases b <;> simp [howB]
theorem blockB_le (t : Int) : (blockB t).length ≤ 5 := by
  unfold blockB; split
  · simp
  · split <;> simp
theorem wayL_le {x : WayD} (h : WOk x) : (wayL x).length ≤ 30 := by
  obtain ⟨⟨a1, a2⟩, ⟨b1, b2⟩, ⟨c1, c2⟩, _⟩ := h
  have := num_le (n := x.dx) (by omega) (by omega)
  have := num_le (n := x.dy) (by omega) (by omega)
  have := num_le (n := x.most) (by omega) (by omega)
  have := takeB_le x.take
  simp only [wayL, lineB_cons, lineB_one, List.length_append, List.length_cons, List.length_nil]
  omega
theorem lettB_le (x : PieceD) : (lettB x).length = 1 := rfl
theorem toB_le (ps : List PieceD) (x : PieceD) : (toB ps x).length ≤ 1 := by
  unfold toB; split
  · split <;> simp [lettB]
  · simp
theorem headL_le {n : Nat} (ps : List PieceD) {x : PieceD} (h : POk n x) : (headL ps x).length ≤ 30 := by
  obtain ⟨_, ⟨b1, b2⟩, _⟩ := h
  have := num_le (n := x.hand) (by omega) (by omega)
  have := toB_le ps x
  have := lettB_le x
  simp only [headL, lineB_cons, lineB_one, List.length_append, List.length_cons, List.length_nil]
  omega
theorem waysL_le {l : List WayD} {k : Nat} (hk : l.length ≤ k) (h : ∀ y ∈ l, WOk y) : (waysL l).length ≤ k * 30 := by
  have := flat_len (f := wayL) (C := 30) (l := l) (fun y hy => wayL_le (h y hy))
  have := Nat.mul_le_mul_right 30 hk
  unfold waysL; omega
theorem pieceL_le {n : Nat} (ps : List PieceD) {x : PieceD} (h : POk n x) : (pieceL ps x).length ≤ 600 := by
  have h1 := headL_le ps h
  have h2 := waysL_le h.2.2.2.1 h.2.2.2.2
  simp only [pieceL, List.length_append]
  omega
theorem piecesL_le {n : Nat} (ps : List PieceD) {l : List PieceD} (h : ∀ x ∈ l, POk n x) : (piecesL ps l).length ≤ l.length * 600 := flat_len (fun x hx => pieceL_le ps (h x hx))
end Go.Proofs.YtdhhdkbnlddnbaaGreatDoor
