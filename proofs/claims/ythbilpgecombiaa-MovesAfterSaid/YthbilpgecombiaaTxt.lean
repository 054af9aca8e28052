/- The text of rules, as data. -/
import Derived.Test.YthbilpgecombiaaOkR
import Derived.Lib.ItoaNum
import Derived.Lib.Join
namespace Go.Proofs.Ythbilpgecombiaa
open Go.RowKit

def num (n : Int) : List UInt8 := Lib.itoa n
/-- A line of words. -/
def lineB (ws : List (List UInt8)) : List UInt8 := Lib.join ws [32] ++ [10]
def lettB (x : PieceD) : List UInt8 := [UInt8.ofNat x.letter.toNat]
def takeB (t : Int) : List UInt8 := if t = 0 then [110, 101, 118, 101, 114] else if t = 1 then [109, 97, 121] else [109, 117, 115, 116]
def howB (b : Bool) : List UInt8 := if b then [108, 111, 115, 101, 115] else [119, 105, 110, 115]
def blockB (t : Int) : List UInt8 := if t = 0 then [108, 111, 115, 101, 115] else if t = 1 then [119, 105, 110, 115] else [100, 114, 97, 119, 115]
def wayL (x : WayD) : List UInt8 := lineB [[119, 97, 121], num x.dx, num x.dy, num x.most, takeB x.take]
def waysL (l : List WayD) : List UInt8 := (l.map wayL).flatten
/-- The letter of the type into which a piece changes, or a dash. -/
def toB (ps : List PieceD) (x : PieceD) : List UInt8 := if x.promote > 0 then (match ps[(x.promote - 1).toNat]? with | some y => lettB y | none => []) else [45]
def headL (ps : List PieceD) (x : PieceD) : List UInt8 := lineB [[112, 105, 101, 99, 101], lettB x, num x.hand, toB ps x]
def pieceL (ps : List PieceD) (x : PieceD) : List UInt8 := headL ps x ++ waysL x.ways
def piecesL (ps : List PieceD) (l : List PieceD) : List UInt8 := (l.map (pieceL ps)).flatten
/-- What a row has for a cell. -/
def cellB (ps : List PieceD) (c : Int) : UInt8 :=
  if c = 0 then 46 else match ps[((c - 1) / 2).toNat]? with
    | some y => if (c - 1) % 2 = 0 then UInt8.ofNat y.letter.toNat else UInt8.ofNat (y.letter.toNat + 32)
    | none => 0
def rowB (ps : List PieceD) (st : List Int) (W y : Nat) : List UInt8 := (List.range W).map fun x => cellB ps (st[y * W + x]?.getD 0)
def rowL (ps : List PieceD) (st : List Int) (W y : Nat) : List UInt8 := lineB [[114, 111, 119], rowB ps st W y]
/-- The rows from the k-th one down. -/
def rowsL (ps : List PieceD) (st : List Int) (W : Nat) : Nat → List UInt8
  | 0 => []
  | k + 1 => rowL ps st W k ++ rowsL ps st W k
def pieceTx (ps : List PieceD) (k : Int) : List UInt8 := match ps[k.toNat]? with | some y => lettB y | none => []
def endL (ps : List PieceD) (x : EndD) : List UInt8 :=
  if x.kind = 0 then lineB [[101, 110, 100, 32, 108, 105, 110, 101], num x.count, howB x.loses]
  else if x.kind = 1 then lineB [[101, 110, 100, 32, 114, 101, 97, 99, 104], pieceTx ps x.piece, howB x.loses]
  else lineB [[101, 110, 100, 32, 116, 97, 107, 101], pieceTx ps x.piece, num x.count, howB x.loses]
def endsL (ps : List PieceD) (l : List EndD) : List UInt8 := (l.map (endL ps)).flatten
def gameL (r : RulesD) : List UInt8 := lineB [[103, 97, 109, 101], r.name.data.toList, num r.width, num r.height]
def fallsL (b : Bool) : List UInt8 := if b then lineB [[102, 97, 108, 108, 115]] else []
def keepsL (b : Bool) : List UInt8 := if b then lineB [[107, 101, 101, 112, 115]] else []
def blockL (t : Int) : List UInt8 := lineB [[98, 108, 111, 99, 107, 101, 100], blockB t]
def quietL (t : Int) : List UInt8 := lineB [[113, 117, 105, 101, 116], num t]
def repL (t : Int) : List UInt8 := lineB [[114, 101, 112, 101, 97, 116], num t]
/-- The text of rules. -/
def textB (r : RulesD) : List UInt8 :=
  gameL r ++ piecesL r.pieces r.pieces ++ rowsL r.pieces r.start r.width.toNat r.height.toNat ++ fallsL r.falls ++ keepsL r.keeps ++ endsL r.pieces r.ends ++ blockL r.blocked ++ quietL r.quiet ++ repL r.rep

/-! ### How long -/
theorem lineB_one (a : List UInt8) : lineB [a] = a ++ [10] := by simp [lineB, Lib.join_one]
theorem lineB_cons (a b : List UInt8) (r : List (List UInt8)) : lineB (a :: b :: r) = a ++ [32] ++ lineB (b :: r) := by
  simp [lineB, Lib.join_cons, Lib.joinTail]
theorem num_digit {n : Int} (h0 : 0 ≤ n) (h : n ≤ 9) : num n = [UInt8.ofNat (48 + n.toNat)] := by
  unfold num Lib.itoa
  rw [if_neg (by omega), Lib.decDigits_one (by omega)]
theorem num_big {n : Int} (h : 10 ≤ n) : num n = num (n / 10) ++ num (n % 10) := by
  unfold num Lib.itoa
  rw [if_neg (by omega), if_neg (by omega), if_neg (by omega), Lib.decDigits, dif_neg (by omega)]
  have e1 : n.toNat / 10 = (n / 10).toNat := by omega
  have e2 : n.toNat % 10 = (n % 10).toNat := by omega
  rw [e1, e2, Lib.decDigits_one (i := (n % 10).toNat) (by omega)]
theorem num_neg {n : Int} (h : n < 0) : num n = 45 :: num (-n) := by
  unfold num Lib.itoa
  rw [if_pos h, if_neg (by omega)]
  have : n.natAbs = (-n).toNat := by omega
  rw [this]
theorem num_len {n : Int} (h : -7 ≤ n) (h2 : n ≤ 200) : (num n).length ≤ 3 := by
  have hd : ∀ k : Int, 0 ≤ k → k ≤ 200 → (num k).length ≤ 3 := by
    intro k h0 h1
    by_cases a : k ≤ 9
    · rw [num_digit h0 a]; simp
    · by_cases b : k / 10 ≤ 9
      · rw [num_big (by omega), num_digit (by omega) b, num_digit (by omega) (by omega)]; simp
      · rw [num_big (by omega), num_big (n := k / 10) (by omega), num_digit (n := k / 10 / 10) (by omega) (by omega), num_digit (by omega) (by omega), num_digit (by omega) (by omega)]; simp
  by_cases hn : n < 0
  · rw [num_neg hn, num_digit (by omega) (by omega)]; simp
  · exact hd n (by omega) h2
end Go.Proofs.Ythbilpgecombiaa
