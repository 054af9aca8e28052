/- What the parser of a text computes, as data: a Lean function for each of its functions. -/
import Derived.Test.YtakekeljndofcaaGreatDoorGood
import Derived.Lib.AtoiAll
import Derived.Lib.SplitLaws
set_option maxRecDepth 100000
namespace Go.Proofs.YtakekeljndofcaaGreatDoor
open Go

/-! ### What the parser of a text computes, as data -/
/-- A text, cut at a byte. -/
def cutB (c : UInt8) : (List UInt8) → List (List UInt8)
  | [] => [[]]
  | x :: l => if x = c then [] :: cutB c l else (x :: (cutB c l).headD []) :: (cutB c l).tail
def joinL (ws : List (List UInt8)) : (List UInt8) := Lib.join ws [32]
/-- What a parser holds: the lines that have not been read, and whether something did not have the form. -/
structure PS where
  ls : List (List UInt8)
  bad : Bool
def failS (s : PS) : PS := ⟨s.ls, true⟩
def begM (k : (List UInt8)) (s : PS) : Bool := !s.bad && match s.ls with
  | [] => false
  | l :: _ => Lib.hasPrefix (l ++ [32]) (k ++ [32])
def restW (k l : (List UInt8)) : List (List UInt8) := (cutB 32 (l.drop k.length)).tail
def lineM (k : (List UInt8)) (n : Nat) (s : PS) : List (List UInt8) × PS :=
  if begM k s = true then
    if (restW k (s.ls.headD [])).length = n then (restW k (s.ls.headD []), ⟨s.ls.tail, s.bad⟩) else (List.replicate n [], ⟨s.ls.tail, true⟩)
  else (List.replicate n [], ⟨s.ls, true⟩)
def numV (w : (List UInt8)) : Option Int := match Lib.atoiAll w with
  | .ok v => if num v = w then some v else none
  | _ => none
def optM (o : Option Int) (s : PS) : Int × PS := match o with
  | some v => (v, s)
  | none => (0, failS s)
def numM (w : (List UInt8)) (s : PS) : Int × PS := optM (numV w) s
def sideM (w : (List UInt8)) (s : PS) : Int × PS := if inB (numM w s).1 1 8 = true then numM w s else (0, failS (numM w s).2)
def idxV {α : Type} (p : α → Bool) (l : List α) : Option Int := Option.map (fun i : Nat => (i : Int)) (l.findIdx? p)
def choiceM (w : (List UInt8)) (ws : List (List UInt8)) (s : PS) : Int × PS := optM (idxV (fun x => x == w) ws) s
def pieceM (w : (List UInt8)) (ps : List PieceD) (s : PS) : Int × PS := optM (idxV (fun q => lettB q == w) ps) s
def cellGo (c : UInt8) : List PieceD → Nat → Option Int
  | [], _ => none
  | q :: ps, i =>
    if (c.toNat : Int) = q.letter then some (2 * (i : Int) + 1)
    else if (97 ≤ c.toNat ∧ c.toNat ≤ 122) ∧ (c.toNat : Int) = (q.letter + 32) % 256 then some (2 * (i : Int) + 2)
    else cellGo c ps (i + 1)
def cellV (c : UInt8) (ps : List PieceD) : Option Int := if c = 46 then some 0 else cellGo c ps 0
def cellM (c : UInt8) (ps : List PieceD) (s : PS) : Int × PS := optM (cellV c ps) s

def kWay : (List UInt8) := [119, 97, 121]
def kPiece : (List UInt8) := [112, 105, 101, 99, 101]
def kRow : (List UInt8) := [114, 111, 119]
def kEL : (List UInt8) := [101, 110, 100, 32, 108, 105, 110, 101]
def kER : (List UInt8) := [101, 110, 100, 32, 114, 101, 97, 99, 104]
def kET : (List UInt8) := [101, 110, 100, 32, 116, 97, 107, 101]
def kEnd : (List UInt8) := [101, 110, 100]
def kGame : (List UInt8) := [103, 97, 109, 101]
def kFalls : (List UInt8) := [102, 97, 108, 108, 115]
def kKeeps : (List UInt8) := [107, 101, 101, 112, 115]
def kBlocked : (List UInt8) := [98, 108, 111, 99, 107, 101, 100]
def kQuiet : (List UInt8) := [113, 117, 105, 101, 116]
def kRepeat : (List UInt8) := [114, 101, 112, 101, 97, 116]
def wTakes : List (List UInt8) := [[110, 101, 118, 101, 114], [109, 97, 121], [109, 117, 115, 116]]
def wHow : List (List UInt8) := [[119, 105, 110, 115], [108, 111, 115, 101, 115]]
def wBlk : List (List UInt8) := [[108, 111, 115, 101, 115], [119, 105, 110, 115], [100, 114, 97, 119, 115]]

def wd (ws : List (List UInt8)) (k : Nat) : (List UInt8) := ws[k]?.getD []
def wayA (s : PS) : Int × PS := numM (wd (lineM kWay 4 s).1 0) (lineM kWay 4 s).2
def wayB2 (s : PS) : Int × PS := numM (wd (lineM kWay 4 s).1 1) (wayA s).2
def wayC (s : PS) : Int × PS := numM (wd (lineM kWay 4 s).1 2) (wayB2 s).2
def wayT (s : PS) : Int × PS := choiceM (wd (lineM kWay 4 s).1 3) wTakes (wayC s).2
def wayM (s : PS) : WayD × PS := (⟨(wayA s).1, (wayB2 s).1, (wayC s).1, (wayT s).1⟩, (wayT s).2)
def waysGo : Nat → PS → List WayD × PS
  | 0, s => ([], s)
  | f + 1, s => if begM kWay s = true then ((wayM s).1 :: (waysGo f (wayM s).2).1, (waysGo f (wayM s).2).2) else ([], s)
def waysM (s : PS) : List WayD × PS := waysGo s.ls.length s
def headW (s : PS) : List (List UInt8) := (lineM kPiece 3 s).1
def headN (s : PS) : Int × PS := numM (wd (headW s) 1) (lineM kPiece 3 s).2
def headP (s : PS) : PieceD × (List UInt8) := (⟨(((wd (headW s) 0)[0]?.getD 0).toNat : Int), (headN s).1, 0, (waysM (headN s).2).1⟩, wd (headW s) 2)
def headS (s : PS) : PS := (waysM (headN s).2).2
def psGo : Nat → PS → List (PieceD × (List UInt8)) × PS
  | 0, s => ([], s)
  | f + 1, s => if begM kPiece s = true then
      if (wd (headW s) 0).length = 1 then (headP s :: (psGo f (headS s)).1, (psGo f (headS s)).2) else ([], failS (lineM kPiece 3 s).2)
    else ([], s)
def promI (to : (List UInt8)) (ps : List PieceD) (s : PS) : Int × PS := if to = [45] then (0, s) else ((pieceM to ps s).1 + 1, (pieceM to ps s).2)
def promGo (ps : List PieceD) : List (PieceD × (List UInt8)) → PS → List PieceD × PS
  | [], s => ([], s)
  | (x, to) :: l, s => (⟨x.letter, x.hand, (promI to ps s).1, x.ways⟩ :: (promGo ps l (promI to ps s).2).1, (promGo ps l (promI to ps s).2).2)
def psM (s : PS) : List (PieceD × (List UInt8)) × PS := psGo s.ls.length s
def piecesM (s : PS) : List PieceD × PS := promGo ((psM s).1.map (·.1)) (psM s).1 (psM s).2
def rowGo (ps : List PieceD) : (List UInt8) → Nat → List Int → PS → List Int × PS
  | [], _, cs, s => (cs, s)
  | c :: l, i, cs, s => rowGo ps l (i + 1) (cs.set i (cellM c ps s).1) (cellM c ps s).2
def rowsGo (ps : List PieceD) (W : Nat) : Nat → List Int → PS → List Int × PS
  | 0, cs, s => (cs, s)
  | y + 1, cs, s =>
    if (wd (lineM kRow 1 s).1 0).length = W then
      rowsGo ps W y (rowGo ps (wd (lineM kRow 1 s).1 0) (y * W) cs (lineM kRow 1 s).2).1 (rowGo ps (wd (lineM kRow 1 s).1 0) (y * W) cs (lineM kRow 1 s).2).2
    else (cs, failS (lineM kRow 1 s).2)
def rowsM (ps : List PieceD) (W H : Nat) (s : PS) : List Int × PS := rowsGo ps W H (List.replicate (W * H) 0) s
def flagM (k : (List UInt8)) (s : PS) : Bool × PS := if begM k s = true then (true, (lineM k 0 s).2) else (false, s)
def isOne (x : Int) : Bool := decide (x = 1)
/-- The three kinds of conditions. -/
def elM (s : PS) : EndD × PS :=
  (⟨0, 0, (numM (wd (lineM kEL 2 s).1 0) (lineM kEL 2 s).2).1, isOne (choiceM (wd (lineM kEL 2 s).1 1) wHow (numM (wd (lineM kEL 2 s).1 0) (lineM kEL 2 s).2).2).1⟩,
   (choiceM (wd (lineM kEL 2 s).1 1) wHow (numM (wd (lineM kEL 2 s).1 0) (lineM kEL 2 s).2).2).2)
def erM (ps : List PieceD) (s : PS) : EndD × PS :=
  (⟨1, (pieceM (wd (lineM kER 2 s).1 0) ps (lineM kER 2 s).2).1, 0, isOne (choiceM (wd (lineM kER 2 s).1 1) wHow (pieceM (wd (lineM kER 2 s).1 0) ps (lineM kER 2 s).2).2).1⟩,
   (choiceM (wd (lineM kER 2 s).1 1) wHow (pieceM (wd (lineM kER 2 s).1 0) ps (lineM kER 2 s).2).2).2)
def etP (ps : List PieceD) (s : PS) : Int × PS := pieceM (wd (lineM kET 3 s).1 0) ps (lineM kET 3 s).2
def etN (ps : List PieceD) (s : PS) : Int × PS := numM (wd (lineM kET 3 s).1 1) (etP ps s).2
def etH (ps : List PieceD) (s : PS) : Int × PS := choiceM (wd (lineM kET 3 s).1 2) wHow (etN ps s).2
def etM (ps : List PieceD) (s : PS) : EndD × PS := (⟨2, (etP ps s).1, (etN ps s).1, isOne (etH ps s).1⟩, (etH ps s).2)
def endM (ps : List PieceD) (s : PS) : EndD × PS := if begM kEL s = true then elM s else if begM kER s = true then erM ps s else etM ps s
def endsGoM (ps : List PieceD) : Nat → PS → List EndD × PS
  | 0, s => ([], s)
  | f + 1, s => if begM kEnd s = true then ((endM ps s).1 :: (endsGoM ps f (endM ps s).2).1, (endsGoM ps f (endM ps s).2).2) else ([], s)
def endsM (ps : List PieceD) (s : PS) : List EndD × PS := endsGoM ps s.ls.length s

/-! ### All of it, step by step -/
def g0 (s : PS) : List (List UInt8) × PS := lineM kGame 3 s
def g1 (s : PS) : Int × PS := sideM (wd (g0 s).1 1) (g0 s).2
def g2 (s : PS) : Int × PS := sideM (wd (g0 s).1 2) (g1 s).2
def g3 (s : PS) : List PieceD × PS := piecesM (g2 s).2
def g4 (s : PS) : List Int × PS := rowsM (g3 s).1 (g1 s).1.toNat (g2 s).1.toNat (g3 s).2
def g5 (s : PS) : Bool × PS := flagM kFalls (g4 s).2
def g6 (s : PS) : Bool × PS := flagM kKeeps (g5 s).2
def g7 (s : PS) : List EndD × PS := endsM (g3 s).1 (g6 s).2
def g8 (s : PS) : Int × PS := choiceM (wd (lineM kBlocked 1 (g7 s).2).1 0) wBlk (lineM kBlocked 1 (g7 s).2).2
def g9 (s : PS) : Int × PS := numM (wd (lineM kQuiet 1 (g8 s).2).1 0) (lineM kQuiet 1 (g8 s).2).2
def gA (s : PS) : Int × PS := numM (wd (lineM kRepeat 1 (g9 s).2).1 0) (lineM kRepeat 1 (g9 s).2).2

def rulesM (s : PS) : RulesD := ⟨str (wd (g0 s).1 0), (g1 s).1, (g2 s).1, (g3 s).1, (g4 s).1, (g5 s).1, (g6 s).1, (g7 s).1, (g8 s).1, (g9 s).1, (gA s).1⟩
end Go.Proofs.YtakekeljndofcaaGreatDoor
