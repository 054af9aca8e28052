/- Merged by merge.py of the texts Mod CutM Snd SndT Cmp CmpT PTop. -/
import Derived.Test.YtomclohfppbegaaGreatDoorTxtA
import Derived.Lib.AtoiAll
import Derived.Lib.SplitLaws
set_option maxRecDepth 100000
namespace Go.Proofs.YtomclohfppbegaaGreatDoor
open Go

/-! ### What the parser of a text computes, as data -/
/-- A text, cut at a byte. -/
def cutB (c : UInt8) : (List UInt8) → List (List UInt8)
  | [] => [[]]
  | x :: l => if x = c then [] :: cutB c l else (x :: (cutB c l).headD []) :: (cutB c l).tail
def joinL (ws : List (List UInt8)) : (List UInt8) := Lib.join ws [32]
/-- What a parser holds: the lines that have not been read, and whether something did not have the form. -/
structure PS where
  ls : List (List UInt8)
  bad : Bool
def failS (s : PS) : PS := ⟨s.ls, true⟩
def begM (k : (List UInt8)) (s : PS) : Bool := !s.bad && match s.ls with
  | [] => false
  | l :: _ => Lib.hasPrefix (l ++ [32]) (k ++ [32])
def restW (k l : (List UInt8)) : List (List UInt8) := (cutB 32 (l.drop k.length)).tail
def lineM (k : (List UInt8)) (n : Nat) (s : PS) : List (List UInt8) × PS :=
  if begM k s = true then
    if (restW k (s.ls.headD [])).length = n then (restW k (s.ls.headD []), ⟨s.ls.tail, s.bad⟩) else (List.replicate n [], ⟨s.ls.tail, true⟩)
  else (List.replicate n [], ⟨s.ls, true⟩)
def numV (w : (List UInt8)) : Option Int := match Lib.atoiAll w with
  | .ok v => if num v = w then some v else none
  | _ => none
def optM (o : Option Int) (s : PS) : Int × PS := match o with
  | some v => (v, s)
  | none => (0, failS s)
def numM (w : (List UInt8)) (s : PS) : Int × PS := optM (numV w) s
def sideM (w : (List UInt8)) (s : PS) : Int × PS := if inB (numM w s).1 1 8 = true then numM w s else (0, failS (numM w s).2)
def idxV {α : Type} (p : α → Bool) (l : List α) : Option Int := Option.map (fun i : Nat => (i : Int)) (l.findIdx? p)
def choiceM (w : (List UInt8)) (ws : List (List UInt8)) (s : PS) : Int × PS := optM (idxV (fun x => x == w) ws) s
def pieceM (w : (List UInt8)) (ps : List PieceD) (s : PS) : Int × PS := optM (idxV (fun q => lettB q == w) ps) s
def cellGo (c : UInt8) : List PieceD → Nat → Option Int
  | [], _ => none
  | q :: ps, i =>
    if (c.toNat : Int) = q.letter then some (2 * (i : Int) + 1)
    else if (97 ≤ c.toNat ∧ c.toNat ≤ 122) ∧ (c.toNat : Int) = (q.letter + 32) % 256 then some (2 * (i : Int) + 2)
    else cellGo c ps (i + 1)
def cellV (c : UInt8) (ps : List PieceD) : Option Int := if c = 46 then some 0 else cellGo c ps 0
def cellM (c : UInt8) (ps : List PieceD) (s : PS) : Int × PS := optM (cellV c ps) s

def kWay : (List UInt8) := [119, 97, 121]
def kPiece : (List UInt8) := [112, 105, 101, 99, 101]
def kRow : (List UInt8) := [114, 111, 119]
def kEL : (List UInt8) := [101, 110, 100, 32, 108, 105, 110, 101]
def kER : (List UInt8) := [101, 110, 100, 32, 114, 101, 97, 99, 104]
def kET : (List UInt8) := [101, 110, 100, 32, 116, 97, 107, 101]
def kEnd : (List UInt8) := [101, 110, 100]
def kGame : (List UInt8) := [103, 97, 109, 101]
def kFalls : (List UInt8) := [102, 97, 108, 108, 115]
def kKeeps : (List UInt8) := [107, 101, 101, 112, 115]
def kBlocked : (List UInt8) := [98, 108, 111, 99, 107, 101, 100]
def kQuiet : (List UInt8) := [113, 117, 105, 101, 116]
def kRepeat : (List UInt8) := [114, 101, 112, 101, 97, 116]
def wTakes : List (List UInt8) := [[110, 101, 118, 101, 114], [109, 97, 121], [109, 117, 115, 116]]
def wHow : List (List UInt8) := [[119, 105, 110, 115], [108, 111, 115, 101, 115]]
def wBlk : List (List UInt8) := [[108, 111, 115, 101, 115], [119, 105, 110, 115], [100, 114, 97, 119, 115]]

def wd (ws : List (List UInt8)) (k : Nat) : (List UInt8) := ws[k]?.getD []
def wayA (s : PS) : Int × PS := numM (wd (lineM kWay 4 s).1 0) (lineM kWay 4 s).2
def wayB2 (s : PS) : Int × PS := numM (wd (lineM kWay 4 s).1 1) (wayA s).2
def wayC (s : PS) : Int × PS := numM (wd (lineM kWay 4 s).1 2) (wayB2 s).2
def wayT (s : PS) : Int × PS := choiceM (wd (lineM kWay 4 s).1 3) wTakes (wayC s).2
def wayM (s : PS) : WayD × PS := (⟨(wayA s).1, (wayB2 s).1, (wayC s).1, (wayT s).1⟩, (wayT s).2)
def waysGo : Nat → PS → List WayD × PS
  | 0, s => ([], s)
  | f + 1, s => if begM kWay s = true then ((wayM s).1 :: (waysGo f (wayM s).2).1, (waysGo f (wayM s).2).2) else ([], s)
def waysM (s : PS) : List WayD × PS := waysGo s.ls.length s
def headW (s : PS) : List (List UInt8) := (lineM kPiece 3 s).1
def headN (s : PS) : Int × PS := numM (wd (headW s) 1) (lineM kPiece 3 s).2
def headP (s : PS) : PieceD × (List UInt8) := (⟨(((wd (headW s) 0)[0]?.getD 0).toNat : Int), (headN s).1, 0, (waysM (headN s).2).1⟩, wd (headW s) 2)
def headS (s : PS) : PS := (waysM (headN s).2).2
def psGo : Nat → PS → List (PieceD × (List UInt8)) × PS
  | 0, s => ([], s)
  | f + 1, s => if begM kPiece s = true then
      if (wd (headW s) 0).length = 1 then (headP s :: (psGo f (headS s)).1, (psGo f (headS s)).2) else ([], failS (lineM kPiece 3 s).2)
    else ([], s)
def promI (to : (List UInt8)) (ps : List PieceD) (s : PS) : Int × PS := if to = [45] then (0, s) else ((pieceM to ps s).1 + 1, (pieceM to ps s).2)
def promGo (ps : List PieceD) : List (PieceD × (List UInt8)) → PS → List PieceD × PS
  | [], s => ([], s)
  | (x, to) :: l, s => (⟨x.letter, x.hand, (promI to ps s).1, x.ways⟩ :: (promGo ps l (promI to ps s).2).1, (promGo ps l (promI to ps s).2).2)
def psM (s : PS) : List (PieceD × (List UInt8)) × PS := psGo s.ls.length s
def piecesM (s : PS) : List PieceD × PS := promGo ((psM s).1.map (·.1)) (psM s).1 (psM s).2
def rowGo (ps : List PieceD) : (List UInt8) → Nat → List Int → PS → List Int × PS
  | [], _, cs, s => (cs, s)
  | c :: l, i, cs, s => rowGo ps l (i + 1) (cs.set i (cellM c ps s).1) (cellM c ps s).2
def rowsGo (ps : List PieceD) (W : Nat) : Nat → List Int → PS → List Int × PS
  | 0, cs, s => (cs, s)
  | y + 1, cs, s =>
    if (wd (lineM kRow 1 s).1 0).length = W then
      rowsGo ps W y (rowGo ps (wd (lineM kRow 1 s).1 0) (y * W) cs (lineM kRow 1 s).2).1 (rowGo ps (wd (lineM kRow 1 s).1 0) (y * W) cs (lineM kRow 1 s).2).2
    else (cs, failS (lineM kRow 1 s).2)
def rowsM (ps : List PieceD) (W H : Nat) (s : PS) : List Int × PS := rowsGo ps W H (List.replicate (W * H) 0) s
def flagM (k : (List UInt8)) (s : PS) : Bool × PS := if begM k s = true then (true, (lineM k 0 s).2) else (false, s)
def isOne (x : Int) : Bool := decide (x = 1)
/-- The three kinds of conditions. -/
def elM (s : PS) : EndD × PS :=
  (⟨0, 0, (numM (wd (lineM kEL 2 s).1 0) (lineM kEL 2 s).2).1, isOne (choiceM (wd (lineM kEL 2 s).1 1) wHow (numM (wd (lineM kEL 2 s).1 0) (lineM kEL 2 s).2).2).1⟩,
   (choiceM (wd (lineM kEL 2 s).1 1) wHow (numM (wd (lineM kEL 2 s).1 0) (lineM kEL 2 s).2).2).2)
def erM (ps : List PieceD) (s : PS) : EndD × PS :=
  (⟨1, (pieceM (wd (lineM kER 2 s).1 0) ps (lineM kER 2 s).2).1, 0, isOne (choiceM (wd (lineM kER 2 s).1 1) wHow (pieceM (wd (lineM kER 2 s).1 0) ps (lineM kER 2 s).2).2).1⟩,
   (choiceM (wd (lineM kER 2 s).1 1) wHow (pieceM (wd (lineM kER 2 s).1 0) ps (lineM kER 2 s).2).2).2)
def etP (ps : List PieceD) (s : PS) : Int × PS := pieceM (wd (lineM kET 3 s).1 0) ps (lineM kET 3 s).2
def etN (ps : List PieceD) (s : PS) : Int × PS := numM (wd (lineM kET 3 s).1 1) (etP ps s).2
def etH (ps : List PieceD) (s : PS) : Int × PS := choiceM (wd (lineM kET 3 s).1 2) wHow (etN ps s).2
def etM (ps : List PieceD) (s : PS) : EndD × PS := (⟨2, (etP ps s).1, (etN ps s).1, isOne (etH ps s).1⟩, (etH ps s).2)
def endM (ps : List PieceD) (s : PS) : EndD × PS := if begM kEL s = true then elM s else if begM kER s = true then erM ps s else etM ps s
def endsGoM (ps : List PieceD) : Nat → PS → List EndD × PS
  | 0, s => ([], s)
  | f + 1, s => if begM kEnd s = true then ((endM ps s).1 :: (endsGoM ps f (endM ps s).2).1, (endsGoM ps f (endM ps s).2).2) else ([], s)
def endsM (ps : List PieceD) (s : PS) : List EndD × PS := endsGoM ps s.ls.length s

/-! ### All of it, step by step -/
def g0 (s : PS) : List (List UInt8) × PS := lineM kGame 3 s
def g1 (s : PS) : Int × PS := sideM (wd (g0 s).1 1) (g0 s).2
def g2 (s : PS) : Int × PS := sideM (wd (g0 s).1 2) (g1 s).2
def g3 (s : PS) : List PieceD × PS := piecesM (g2 s).2
def g4 (s : PS) : List Int × PS := rowsM (g3 s).1 (g1 s).1.toNat (g2 s).1.toNat (g3 s).2
def g5 (s : PS) : Bool × PS := flagM kFalls (g4 s).2
def g6 (s : PS) : Bool × PS := flagM kKeeps (g5 s).2
def g7 (s : PS) : List EndD × PS := endsM (g3 s).1 (g6 s).2
def g8 (s : PS) : Int × PS := choiceM (wd (lineM kBlocked 1 (g7 s).2).1 0) wBlk (lineM kBlocked 1 (g7 s).2).2
def g9 (s : PS) : Int × PS := numM (wd (lineM kQuiet 1 (g8 s).2).1 0) (lineM kQuiet 1 (g8 s).2).2
def gA (s : PS) : Int × PS := numM (wd (lineM kRepeat 1 (g9 s).2).1 0) (lineM kRepeat 1 (g9 s).2).2

def rulesM (s : PS) : RulesD := ⟨str (wd (g0 s).1 0), (g1 s).1, (g2 s).1, (g3 s).1, (g4 s).1, (g5 s).1, (g6 s).1, (g7 s).1, (g8 s).1, (g9 s).1, (gA s).1⟩
end Go.Proofs.YtomclohfppbegaaGreatDoor

set_option maxRecDepth 100000
namespace Go.Proofs.YtomclohfppbegaaGreatDoor
open Go

/-! ### Cutting at a byte -/
theorem cutB_ne (c : UInt8) : ∀ l : (List UInt8), cutB c l ≠ []
  | [] => by simp [cutB]
  | x :: l => by unfold cutB; split <;> simp
theorem cut_split (c : UInt8) (l : (List UInt8)) : cutB c l = (cutB c l).headD [] :: (cutB c l).tail := by
  have := cutB_ne c l
  cases h : cutB c l with
  | nil => exact absurd h this
  | cons a t => rfl
theorem joinTail_cons (s x : (List UInt8)) (r : List (List UInt8)) : Lib.joinTail s (x :: r) = s ++ x ++ Lib.joinTail s r := by simp [Lib.joinTail]
theorem join_cut (c : UInt8) : ∀ l : (List UInt8), Lib.join (cutB c l) [c] = l
  | [] => by simp [cutB, Lib.join_one]
  | x :: l => by
    have ih := join_cut c l
    rw [cut_split c l, Lib.join_cons] at ih
    unfold cutB
    split
    · rename_i h
      subst h
      rw [Lib.join_cons, cut_split x l, joinTail_cons, List.nil_append, List.append_assoc, ih]; rfl
    · rw [Lib.join_cons, List.cons_append, ih]
theorem cut_none {c : UInt8} : ∀ {l : (List UInt8)}, c ∉ l → cutB c l = [l]
  | [], _ => rfl
  | x :: l, h => by
    have h1 : x ≠ c := fun e => h (by simp [e])
    have h2 : c ∉ l := fun e => h (by simp [e])
    rw [cutB, if_neg h1, cut_none h2]; rfl
theorem cut_app {c : UInt8} : ∀ {w l : (List UInt8)}, c ∉ w → cutB c (w ++ c :: l) = w :: cutB c l
  | [], l, _ => by simp [cutB]
  | x :: w, l, h => by
    have h1 : x ≠ c := fun e => h (by simp [e])
    have h2 : c ∉ w := fun e => h (by simp [e])
    rw [List.cons_append, cutB, if_neg h1, cut_app h2]; rfl
theorem cut_join {c : UInt8} : ∀ {ws : List (List UInt8)}, ws ≠ [] → (∀ w ∈ ws, c ∉ w) → cutB c (Lib.join ws [c]) = ws
  | [], h, _ => absurd rfl h
  | [w], _, h => by rw [Lib.join_one, cut_none (h w (by simp))]
  | w :: x :: r, _, h => by
    have ih := cut_join (c := c) (ws := x :: r) (by simp) (fun y hy => h y (List.mem_cons_of_mem _ hy))
    have e : Lib.join (w :: x :: r) [c] = w ++ c :: Lib.join (x :: r) [c] := by
      rw [Lib.join_cons, joinTail_cons, Lib.join_cons]; simp
    rw [e, cut_app (h w (by simp)), ih]
theorem cut_mem {c : UInt8} : ∀ {l w : (List UInt8)}, w ∈ cutB c l → ∀ x ∈ w, x ∈ l
  | [], w, h, x, hx => by
    simp only [cutB, List.mem_singleton] at h
    subst h; exact hx
  | y :: l, w, h, x, hx => by
    unfold cutB at h
    split at h
    · rcases List.mem_cons.1 h with rfl | h
      · cases hx
      · exact List.mem_cons_of_mem _ (cut_mem h x hx)
    · rcases List.mem_cons.1 h with rfl | h
      · rcases List.mem_cons.1 hx with rfl | hx
        · simp
        · refine List.mem_cons_of_mem _ (cut_mem (c := c) (w := (cutB c l).headD []) ?_ x hx)
          rw [cut_split c l]; simp
      · refine List.mem_cons_of_mem _ (cut_mem (c := c) (w := w) ?_ x hx)
        exact List.mem_of_mem_tail h
theorem cut_len (c : UInt8) : ∀ l : (List UInt8), (cutB c l).length ≤ l.length + 1
  | [] => by simp [cutB]
  | x :: l => by
    have := cut_len c l
    have h2 := cutB_ne c l
    unfold cutB
    split
    · simp; omega
    · have : (cutB c l).length ≠ 0 := by simpa using h2
      simp; omega
/-- The library's cutting at one byte is this one. -/
theorem lib_index (c : UInt8) : ∀ l : (List UInt8), Lib.index l [c] = -1 ∧ c ∉ l ∨ ∃ i : Nat, Lib.index l [c] = i ∧ c ∉ l.take i ∧ l = l.take i ++ c :: l.drop (i + 1)
  | [] => .inl ⟨by simp [Lib.index], by simp⟩
  | x :: l => by
    by_cases h : x = c
    · subst h
      refine .inr ⟨0, ?_, by simp, by simp⟩
      rw [Lib.index]; simp [List.isPrefixOf]
    · have hp : ([c] : List UInt8).isPrefixOf (x :: l) = false := by simp [List.isPrefixOf, Ne.symm h]
      have hix : Lib.index (x :: l) [c] = if Lib.index l [c] == -1 then -1 else Lib.index l [c] + 1 := by rw [Lib.index, hp]; simp
      rcases lib_index c l with ⟨h1, h2⟩ | ⟨i, h1, h2, h3⟩
      · refine .inl ⟨by rw [hix, h1]; rfl, ?_⟩
        simp only [List.mem_cons, not_or]; exact ⟨fun e => h e.symm, h2⟩
      · refine .inr ⟨i + 1, ?_, ?_, ?_⟩
        · rw [hix, h1, if_neg (by simp only [beq_iff_eq]; omega)]; rfl
        · simp only [List.take_succ_cons, List.mem_cons, not_or]; exact ⟨fun e => h e.symm, h2⟩
        · simp only [List.take_succ_cons, List.drop_succ_cons, List.cons_append]; rw [← h3]
theorem lib_splitK (c : UInt8) : ∀ (n : Nat) (l : (List UInt8)), l.length ≤ n → ∀ k, Lib.count l [c] = k → Lib.splitK [c] 0 k l = cutB c l
  | n, l, hn, k, hk => by
    rcases lib_index c l with ⟨h1, h2⟩ | ⟨i, h1, h2, h3⟩
    · rw [Lib.count_miss h1] at hk
      subst hk
      rw [cut_none h2]; rfl
    · have hk2 := Lib.count_hit (s := l) (sub := [c]) (by simp) h1
      match k, n with
      | 0, _ => omega
      | k + 1, 0 =>
        have : l = [] := by simpa using hn
        subst this; simp at h3
      | k + 1, n + 1 =>
        have hl : (l.drop (i + 1)).length ≤ n := by
          have : l.length ≠ 0 := by intro e; rw [List.length_eq_zero_iff.1 e] at h3; simp at h3
          rw [List.length_drop]; omega
        have ih := lib_splitK c n (l.drop (i + 1)) hl k (by
          have : i + ([c] : (List UInt8)).length = i + 1 := rfl
          rw [this] at hk2; omega)
        rw [Lib.splitK, if_neg (by rw [h1]; simp only [beq_iff_eq]; omega), h1, Int.toNat_natCast]
        have e2 : i + ([c] : (List UInt8)).length = i + 1 := rfl
        rw [e2, ih, Nat.add_zero]
        conv => rhs; rw [h3]
        rw [cut_app h2]
end Go.Proofs.YtomclohfppbegaaGreatDoor

set_option maxRecDepth 100000
namespace Go.Proofs.YtomclohfppbegaaGreatDoor
open Go

/-! ### What a parser that found all well has read -/
/-- From s to t, the lines l have been read, and all was well. -/
def Rd (s : PS) (l : List (List UInt8)) (t : PS) : Prop := t.bad = false → s.bad = false ∧ s.ls = l ++ t.ls
theorem Rd.trans {s t u : PS} {l m : List (List UInt8)} (h : Rd s l t) (k : Rd t m u) : Rd s (l ++ m) u := fun hu => by
  obtain ⟨h1, h2⟩ := k hu
  obtain ⟨h3, h4⟩ := h h1
  exact ⟨h3, by rw [h4, h2, List.append_assoc]⟩
theorem Rd.refl (s : PS) : Rd s [] s := fun h => ⟨h, rfl⟩
theorem Rd.bad {s t : PS} {l : List (List UInt8)} (h : Rd s l t) (hs : t.bad = false) : s.bad = false := (h hs).1
theorem rd_fail (s t : PS) (l : List (List UInt8)) : Rd s l (failS t) := fun h => by cases h
theorem rd_nil {s t : PS} {l : List (List UInt8)} (h : Rd s [] t) (k : t.bad = false → l = []) : Rd s l t := fun ht => by
  rw [k ht]; exact h ht
theorem lineM_rd (k : (List UInt8)) (n : Nat) (s : PS) : Rd s [joinL (k :: (lineM k n s).1)] (lineM k n s).2 ∧ (lineM k n s).1.length = n := by
  unfold lineM
  split
  · rename_i hb
    split
    · rename_i hl
      refine ⟨fun _ => ?_, hl⟩
      unfold begM at hb
      rw [Bool.and_eq_true] at hb
      obtain ⟨h1, h2⟩ := hb
      refine ⟨by simpa using h1, ?_⟩
      match hs : s.ls, h2 with
      | [], h2 => cases h2
      | l :: r, h2 =>
        simp only [Lib.hasPrefix, List.isPrefixOf_iff_prefix] at h2
        simp only [List.headD_cons, List.tail_cons, List.singleton_append, List.cons.injEq, and_true]
        -- the line is the key and what is behind it
        have hlen : k.length ≤ l.length := by have := h2.length_le; simp at this; exact this
        have hk : l.take k.length = k := by
          have e1 := List.prefix_iff_eq_take.1 h2
          have e2 : (l ++ [32]).take (k ++ [32]).length = l.take k.length ++ (l.drop k.length ++ [32]).take 1 := by
            have : (k ++ [32] : (List UInt8)).length = k.length + 1 := by simp
            rw [this]
            conv => lhs; rw [show l ++ [32] = l.take k.length ++ (l.drop k.length ++ [32]) by rw [← List.append_assoc, List.take_append_drop]]
            rw [List.take_append, List.length_take, Nat.min_eq_left hlen, List.take_of_length_le (by rw [List.length_take]; omega)]
            congr 2; omega
          rw [e2] at e1
          have := congrArg (List.take k.length) e1
          rw [List.take_append_of_le_length (Nat.le_refl _), List.take_length, List.take_append_of_le_length (by rw [List.length_take]; omega), List.take_take, Nat.min_self] at this
          exact this.symm
        have hd : Lib.join ([] :: restW k l) [32] = l.drop k.length := by
          have hz : (cutB 32 (l.drop k.length)).headD [] = [] := by
            obtain ⟨t, ht⟩ := h2
            have hld : l.drop k.length ++ [32] = 32 :: t := by
              have : l ++ [32] = k ++ (l.drop k.length ++ [32]) := by
                conv => lhs; rw [← List.take_append_drop k.length l, hk]
                rw [List.append_assoc]
              rw [this, List.append_assoc] at ht
              simpa using (List.append_cancel_left ht).symm
            cases hq : l.drop k.length with
            | nil => rfl
            | cons a b =>
              rw [hq, List.cons_append] at hld
              obtain rfl := (List.cons.inj hld).1
              simp [cutB]
          have := join_cut 32 (l.drop k.length)
          rw [cut_split, hz] at this
          exact this
        rw [joinL, Lib.join_cons]
        rw [Lib.join_cons, List.nil_append] at hd
        rw [hd]
        conv => lhs; rw [← List.take_append_drop k.length l, hk]
    · exact ⟨fun h => (by cases h), by simp⟩
  · exact ⟨fun h => (by cases h), by simp⟩
theorem optM_rd (o : Option Int) (s : PS) : Rd s [] (optM o s).2 := by
  cases o with
  | none => exact rd_fail _ _ _
  | some v => exact Rd.refl s
theorem optM_ok {o : Option Int} {s : PS} (h : (optM o s).2.bad = false) : o = some (optM o s).1 := by
  cases o with
  | none => cases h
  | some v => rfl
theorem numV_some {w : (List UInt8)} {v : Int} (h : numV w = some v) : num v = w := by
  unfold numV at h
  split at h
  · split at h
    · rename_i e; injection h with h; rw [← h]; exact e
    · cases h
  · cases h
theorem numM_rd (w : (List UInt8)) (s : PS) : Rd s [] (numM w s).2 := optM_rd _ _
theorem numM_ok {w : (List UInt8)} {s : PS} (h : (numM w s).2.bad = false) : num (numM w s).1 = w := numV_some (optM_ok h)
theorem sideM_rd (w : (List UInt8)) (s : PS) : Rd s [] (sideM w s).2 := by
  unfold sideM
  split
  · exact numM_rd w s
  · exact rd_fail _ _ _
theorem sideM_ok {w : (List UInt8)} {s : PS} (h : (sideM w s).2.bad = false) : num (sideM w s).1 = w ∧ inB (sideM w s).1 1 8 = true := by
  unfold sideM at h ⊢
  split
  · rename_i hb; rw [if_pos hb] at h; exact ⟨numM_ok h, hb⟩
  · rename_i hb; rw [if_neg hb] at h; cases h
theorem idxV_some {α : Type} {p : α → Bool} {l : List α} {v : Int} (h : idxV p l = some v) : ∃ (i : Nat) (x : α), v = (i : Int) ∧ l[i]? = some x ∧ p x = true := by
  unfold idxV at h
  rw [Option.map_eq_some_iff] at h
  obtain ⟨i, hi, rfl⟩ := h
  rw [List.findIdx?_eq_some_iff_getElem] at hi
  obtain ⟨h1, h2, _⟩ := hi
  exact ⟨i, l[i], rfl, List.getElem?_eq_getElem h1, h2⟩
theorem choiceM_rd (w : (List UInt8)) (ws : List (List UInt8)) (s : PS) : Rd s [] (choiceM w ws s).2 := optM_rd _ _
theorem choiceM_ok {w : (List UInt8)} {ws : List (List UInt8)} {s : PS} (h : (choiceM w ws s).2.bad = false) : ∃ i : Nat, (choiceM w ws s).1 = (i : Int) ∧ ws[i]? = some w := by
  obtain ⟨i, x, h1, h2, h3⟩ := idxV_some (optM_ok h)
  exact ⟨i, h1, by rw [h2, beq_iff_eq.1 h3]⟩
theorem pieceM_rd (w : (List UInt8)) (ps : List PieceD) (s : PS) : Rd s [] (pieceM w ps s).2 := optM_rd _ _
theorem pieceM_ok {w : (List UInt8)} {ps : List PieceD} {s : PS} (h : (pieceM w ps s).2.bad = false) : ∃ (i : Nat) (x : PieceD), (pieceM w ps s).1 = (i : Int) ∧ ps[i]? = some x ∧ lettB x = w := by
  obtain ⟨i, x, h1, h2, h3⟩ := idxV_some (optM_ok h)
  exact ⟨i, x, h1, h2, beq_iff_eq.1 h3⟩
theorem cellM_rd (c : UInt8) (ps : List PieceD) (s : PS) : Rd s [] (cellM c ps s).2 := optM_rd _ _
/-- A type's letter is a byte. -/
def Fit (ps : List PieceD) : Prop := ∀ x ∈ ps, 0 ≤ x.letter ∧ x.letter ≤ 255
theorem cellGo_some {c : UInt8} : ∀ {ps : List PieceD} {i : Nat} {v : Int}, Fit ps → cellGo c ps i = some v → ∃ (j : Nat) (q : PieceD), ps[j]? = some q ∧ ((v = 2 * ((i + j : Nat) : Int) + 1 ∧ UInt8.ofNat q.letter.toNat = c) ∨ (v = 2 * ((i + j : Nat) : Int) + 2 ∧ UInt8.ofNat (q.letter.toNat + 32) = c))
  | [], i, v, _, h => by cases h
  | q :: ps, i, v, hf, h => by
    have hq := hf q (by simp)
    unfold cellGo at h
    split at h
    · rename_i e
      injection h with h
      refine ⟨0, q, rfl, .inl ⟨by rw [← h]; simp, ?_⟩⟩
      rw [← e, Int.toNat_natCast, UInt8.ofNat_toNat]
    · split at h
      · rename_i e
        injection h with h
        refine ⟨0, q, rfl, .inr ⟨by rw [← h]; simp, ?_⟩⟩
        apply UInt8.toNat_inj.1
        rw [UInt8.toNat_ofNat']
        have := e.2
        have := c.toNat_lt
        omega
      · obtain ⟨j, y, h1, h2⟩ := cellGo_some (fun x hx => hf x (List.mem_cons_of_mem _ hx)) h
        refine ⟨j + 1, y, by simpa using h1, ?_⟩
        have e : i + 1 + j = i + (j + 1) := by omega
        rw [e] at h2; exact h2
theorem cellM_ok {c : UInt8} {ps : List PieceD} {s : PS} (hf : Fit ps) (h : (cellM c ps s).2.bad = false) : cellB ps (cellM c ps s).1 = c := by
  have h1 := optM_ok h
  unfold cellM
  generalize (optM (cellV c ps) s).1 = v at h1 ⊢
  unfold cellV at h1
  split at h1
  · rename_i e
    injection h1 with h1
    rw [← h1, cellB, if_pos rfl, e]
  · obtain ⟨j, q, hq, ⟨hv, hc⟩ | ⟨hv, hc⟩⟩ := cellGo_some hf h1
    · rw [Nat.zero_add] at hv
      have e1 : ((v - 1) / 2).toNat = j := by omega
      rw [cellB, if_neg (by omega), e1, hq]
      simp only
      rw [if_pos (by omega), hc]
    · rw [Nat.zero_add] at hv
      have e1 : ((v - 1) / 2).toNat = j := by omega
      rw [cellB, if_neg (by omega), e1, hq]
      simp only
      rw [if_neg (by omega), hc]
theorem take_word {i : Nat} {w : (List UInt8)} (h : wTakes[i]? = some w) : takeB (i : Int) = w := by
  match i, h with
  | 0, h => exact Option.some.inj h
  | 1, h => exact Option.some.inj h
  | 2, h => exact Option.some.inj h
theorem blk_word {i : Nat} {w : (List UInt8)} (h : wBlk[i]? = some w) : blockB (i : Int) = w := by
  match i, h with
  | 0, h => exact Option.some.inj h
  | 1, h => exact Option.some.inj h
  | 2, h => exact Option.some.inj h
theorem how_word2 {i : Nat} {w : (List UInt8)} (h : wHow[i]? = some w) : howB (isOne (i : Int)) = w := by
  match i, h with
  | 0, h => exact Option.some.inj h
  | 1, h => exact Option.some.inj h

/-- The lines of a text, each without its end. -/
def nl (l : List (List UInt8)) : (List UInt8) := (l.map fun x => x ++ [10]).flatten
theorem nl_app (a b : List (List UInt8)) : nl (a ++ b) = nl a ++ nl b := by simp [nl]
theorem nl_one (ws : List (List UInt8)) : nl [joinL ws] = lineB ws := by simp [nl, joinL, lineB]
theorem nl_cons (x : (List UInt8)) (l : List (List UInt8)) : nl (x :: l) = x ++ [10] ++ nl l := by simp [nl]
def wayLn (x : WayD) : (List UInt8) := joinL [kWay, num x.dx, num x.dy, num x.most, takeB x.take]
theorem two_of {l : List (List UInt8)} (h : l.length = 2) : l = [wd l 0, wd l 1] := by
  match l, h with
  | [a, b], _ => rfl
theorem one_of {l : List (List UInt8)} (h : l.length = 1) : l = [wd l 0] := by
  match l, h with
  | [a], _ => rfl
theorem three_of {l : List (List UInt8)} (h : l.length = 3) : l = [wd l 0, wd l 1, wd l 2] := by
  match l, h with
  | [a, b, c], _ => rfl
theorem four_of {l : List (List UInt8)} (h : l.length = 4) : l = [wd l 0, wd l 1, wd l 2, wd l 3] := by
  match l, h with
  | [a, b, c, d], _ => rfl
theorem wayM_rd (s : PS) : Rd s [wayLn (wayM s).1] (wayM s).2 := by
  obtain ⟨hl, hn⟩ := lineM_rd kWay 4 s
  intro hb
  have b3 : (wayC s).2.bad = false := (choiceM_rd _ _ _).bad hb
  have b2 : (wayB2 s).2.bad = false := (numM_rd _ _).bad b3
  have b1 : (wayA s).2.bad = false := (numM_rd _ _).bad b2
  obtain ⟨i, e4, h4⟩ := choiceM_ok hb
  have h := (((hl.trans (numM_rd _ _)).trans (numM_rd _ _)).trans (numM_rd _ _)).trans (choiceM_rd _ wTakes _) hb
  refine ⟨h.1, h.2.trans ?_⟩
  have e : joinL (kWay :: (lineM kWay 4 s).1) = wayLn (wayM s).1 := by
    rw [four_of hn]
    show joinL [kWay, _, _, _, _] = joinL [kWay, num (wayA s).1, num (wayB2 s).1, num (wayC s).1, takeB (wayT s).1]
    have f1 : num (wayA s).1 = wd (lineM kWay 4 s).1 0 := numM_ok b1
    have f2 : num (wayB2 s).1 = wd (lineM kWay 4 s).1 1 := numM_ok b2
    have f3 : num (wayC s).1 = wd (lineM kWay 4 s).1 2 := numM_ok b3
    have f4 : takeB (wayT s).1 = wd (lineM kWay 4 s).1 3 := by rw [show (wayT s).1 = (i : Int) from e4]; exact take_word h4
    rw [f1, f2, f3, f4]
  rw [← e]; rfl
theorem waysGo_rd : ∀ (f : Nat) (s : PS), Rd s ((waysGo f s).1.map wayLn) (waysGo f s).2
  | 0, s => Rd.refl s
  | f + 1, s => by
    unfold waysGo
    split
    · exact (wayM_rd s).trans (waysGo_rd f _)
    · exact Rd.refl s
/-- The lines of a type with a word for what it changes into. -/
def pieceLn (x : PieceD) (to : (List UInt8)) : List (List UInt8) := joinL [kPiece, lettB x, num x.hand, to] :: x.ways.map wayLn
def psLn (l : List (PieceD × (List UInt8))) : List (List UInt8) := (l.map fun y => pieceLn y.1 y.2).flatten
theorem head_rd (s : PS) (h1 : (wd (headW s) 0).length = 1) : Rd s (pieceLn (headP s).1 (headP s).2) (headS s) := by
  obtain ⟨hl, hn⟩ := lineM_rd kPiece 3 s
  intro hb
  have b1 : (headN s).2.bad = false := (waysGo_rd _ _).bad hb
  have h := ((hl.trans (numM_rd (wd (headW s) 1) _)).trans (waysGo_rd (headN s).2.ls.length (headN s).2)) hb
  refine ⟨h.1, h.2.trans ?_⟩
  have e : joinL (kPiece :: (lineM kPiece 3 s).1) = joinL [kPiece, lettB (headP s).1, num (headP s).1.hand, (headP s).2] := by
    rw [three_of hn]
    have f1 : num (headN s).1 = wd (headW s) 1 := numM_ok b1
    have f0 : lettB (headP s).1 = wd (headW s) 0 := by
      match hw : wd (headW s) 0, h1 with
      | [c], _ => simp [lettB, headP, hw]
    rw [f0]
    show joinL [kPiece, wd (headW s) 0, wd (headW s) 1, wd (headW s) 2] = joinL [kPiece, wd (headW s) 0, num (headN s).1, wd (headW s) 2]
    rw [f1]
  rw [List.append_nil, e]; rfl
theorem psGo_rd : ∀ (f : Nat) (s : PS), Rd s (psLn (psGo f s).1) (psGo f s).2
  | 0, s => Rd.refl s
  | f + 1, s => by
    unfold psGo
    split
    · split
      · rename_i h1
        have := (head_rd s h1).trans (psGo_rd f _)
        simpa [psLn] using this
      · exact rd_fail _ _ _
    · exact Rd.refl s
theorem psGo_fit : ∀ (f : Nat) (s : PS), Fit ((psGo f s).1.map (·.1))
  | 0, s => by intro x hx; cases hx
  | f + 1, s => by
    unfold psGo
    split
    · split
      · intro x hx
        simp only [List.map_cons, List.mem_cons] at hx
        rcases hx with rfl | hx
        · exact ⟨Int.natCast_nonneg _, by show ((_ : Nat) : Int) ≤ 255; have := ((wd (headW s) 0)[0]?.getD 0).toNat_lt; omega⟩
        · exact psGo_fit f _ x hx
      · intro x hx; cases hx
    · intro x hx; cases hx
/-- Two lists of types have the same letters. -/
def SameL (ps qs : List PieceD) : Prop := ps.map (·.letter) = qs.map (·.letter)
theorem SameL.at {ps qs : List PieceD} (h : SameL ps qs) {i : Nat} {x : PieceD} (hx : ps[i]? = some x) : ∃ y, qs[i]? = some y ∧ y.letter = x.letter := by
  have h1 := congrArg (fun l => l[i]?) h
  simp only [List.getElem?_map, hx, Option.map_some] at h1
  obtain ⟨y, hy, e⟩ := Option.map_eq_some_iff.1 h1.symm
  exact ⟨y, hy, e⟩
theorem prom_same (ps : List PieceD) : ∀ (l : List (PieceD × (List UInt8))) (s : PS), SameL (l.map (·.1)) (promGo ps l s).1
  | [], _ => rfl
  | (x, to) :: l, s => by
    have := prom_same ps l (promI to ps s).2
    unfold SameL at this ⊢
    simp only [promGo, List.map_cons, List.map_map] at this ⊢
    rw [← this]
theorem promI_rd (to : (List UInt8)) (ps : List PieceD) (s : PS) : Rd s [] (promI to ps s).2 := by
  unfold promI
  split
  · exact Rd.refl s
  · exact pieceM_rd to ps s
theorem promI_ok {to : (List UInt8)} {ps qs : List PieceD} {s : PS} (hs : SameL ps qs) (h : (promI to ps s).2.bad = false) (x : PieceD) : toB qs ⟨x.letter, x.hand, (promI to ps s).1, x.ways⟩ = to := by
  unfold promI at h ⊢
  split
  · rename_i e; simp [toB, e]
  · rename_i e
    rw [if_neg e] at h
    obtain ⟨i, y, h1, h2, h3⟩ := pieceM_ok h
    obtain ⟨z, hz, hzl⟩ := hs.at h2
    have e1 : ((pieceM to ps s).1 + 1 - 1).toNat = i := by omega
    show toB qs ⟨x.letter, x.hand, (pieceM to ps s).1 + 1, x.ways⟩ = to
    rw [toB, if_pos (by show (pieceM to ps s).1 + 1 > 0; omega)]
    simp only
    rw [e1, hz]
    simp only [lettB, hzl]
    exact h3
theorem prom_rd (ps qs : List PieceD) (hs : SameL ps qs) : ∀ (l : List (PieceD × (List UInt8))) (s : PS), Rd s [] (promGo ps l s).2 ∧ ((promGo ps l s).2.bad = false → psLn l = ((promGo ps l s).1.map fun x => pieceLn x (toB qs x)).flatten)
  | [], s => ⟨Rd.refl s, fun _ => rfl⟩
  | (x, to) :: l, s => by
    obtain ⟨h1, h2⟩ := prom_rd ps qs hs l (promI to ps s).2
    refine ⟨(promI_rd to ps s).trans h1, fun hb => ?_⟩
    have hb1 : (promI to ps s).2.bad = false := h1.bad hb
    simp only [promGo, List.map_cons, List.flatten_cons, psLn]
    rw [← h2 hb, promI_ok hs hb1 x]
    rfl
theorem pieceLn_nl (ps : List PieceD) (x : PieceD) : nl (pieceLn x (toB ps x)) = pieceL ps x := by
  have hw : ∀ l : List WayD, nl (l.map wayLn) = waysL l := fun l => by
    induction l with
    | nil => rfl
    | cons a l ih => rw [List.map_cons, nl_cons, ih]; simp [waysL, wayL, wayLn, joinL, lineB, kWay]
  rw [pieceLn, nl_cons, hw]
  simp [pieceL, headL, joinL, lineB, kPiece]
theorem pieces_nl (ps : List PieceD) : ∀ l : List PieceD, nl ((l.map fun x => pieceLn x (toB ps x)).flatten) = piecesL ps l
  | [] => rfl
  | x :: l => by
    rw [List.map_cons, List.flatten_cons, nl_app, pieceLn_nl, pieces_nl ps l]
    simp [piecesL]
theorem piecesM_rd (s : PS) : Rd s (((piecesM s).1.map fun x => pieceLn x (toB (piecesM s).1 x)).flatten) (piecesM s).2 ∧ Fit (piecesM s).1 := by
  have hs : SameL ((psM s).1.map (·.1)) (piecesM s).1 := prom_same _ _ _
  obtain ⟨h1, h2⟩ := prom_rd ((psM s).1.map (·.1)) (piecesM s).1 hs (psM s).1 (psM s).2
  constructor
  · intro hb
    have h3 := ((psGo_rd s.ls.length s).trans h1) hb
    refine ⟨h3.1, h3.2.trans ?_⟩
    rw [List.append_nil]
    show psLn (psM s).1 ++ _ = _
    rw [h2 hb]; rfl
  · have hf : Fit ((psM s).1.map (·.1)) := psGo_fit _ s
    intro x hx
    obtain ⟨i, hi⟩ := List.getElem?_of_mem hx
    obtain ⟨y, hy, e⟩ := SameL.at (hs.symm) hi
    rw [← e]
    exact hf y (List.mem_of_getElem? hy)
end Go.Proofs.YtomclohfppbegaaGreatDoor

set_option maxRecDepth 100000
namespace Go.Proofs.YtomclohfppbegaaGreatDoor
open Go

/-! ### Rows, conditions, and all of it -/
theorem rowGo_rd (ps : List PieceD) : ∀ (l : (List UInt8)) (i : Nat) (cs : List Int) (s : PS), Rd s [] (rowGo ps l i cs s).2
  | [], _, _, s => Rd.refl s
  | c :: l, _, _, s => (cellM_rd c ps s).trans (rowGo_rd ps l _ _ _)
theorem rowGo_len (ps : List PieceD) : ∀ (l : (List UInt8)) (i : Nat) (cs : List Int) (s : PS), (rowGo ps l i cs s).1.length = cs.length
  | [], _, _, _ => rfl
  | c :: l, i, cs, s => by rw [rowGo, rowGo_len ps l]; simp
theorem rowGo_other (ps : List PieceD) : ∀ (l : (List UInt8)) (i : Nat) (cs : List Int) (s : PS) (k : Nat), k < i ∨ i + l.length ≤ k → (rowGo ps l i cs s).1[k]? = cs[k]?
  | [], _, _, _, _, _ => rfl
  | c :: l, i, cs, s, k, hk => by
    rw [List.length_cons] at hk
    rw [rowGo, rowGo_other ps l _ _ _ k (by omega), List.getElem?_set_ne (by omega)]
theorem rowGo_at {ps : List PieceD} (hf : Fit ps) : ∀ (l : (List UInt8)) (i : Nat) (cs : List Int) (s : PS), (rowGo ps l i cs s).2.bad = false → i + l.length ≤ cs.length → ∀ j c, l[j]? = some c → cellB ps ((rowGo ps l i cs s).1[i + j]?.getD 0) = c
  | [], _, _, _, _, _, j, c, h => by cases h
  | a :: l, i, cs, s, hb, hl, j, c, h => by
    rw [List.length_cons] at hl
    have hb1 : (cellM a ps s).2.bad = false := (rowGo_rd ps l _ _ _).bad hb
    match j, h with
    | 0, h =>
      obtain rfl := Option.some.inj h
      rw [rowGo, rowGo_other ps l _ _ _ _ (by omega), Nat.add_zero, List.getElem?_set_self (by omega)]
      exact cellM_ok hf hb1
    | j + 1, h =>
      have := rowGo_at hf l (i + 1) (cs.set i (cellM a ps s).1) (cellM a ps s).2 hb (by simp; omega) j c h
      rw [rowGo]
      rw [show i + (j + 1) = i + 1 + j by omega]
      exact this
def rowLn (ps : List PieceD) (st : List Int) (W y : Nat) : (List UInt8) := joinL [kRow, rowB ps st W y]
def rowsLn (ps : List PieceD) (st : List Int) (W : Nat) : Nat → List (List UInt8)
  | 0 => []
  | k + 1 => rowLn ps st W k :: rowsLn ps st W k
theorem rowsGo_len (ps : List PieceD) (W : Nat) : ∀ (y : Nat) (cs : List Int) (s : PS), (rowsGo ps W y cs s).1.length = cs.length
  | 0, _, _ => rfl
  | y + 1, cs, s => by
    unfold rowsGo
    split
    · rw [rowsGo_len ps W y, rowGo_len]
    · rfl
theorem rowsGo_other (ps : List PieceD) (W : Nat) : ∀ (y : Nat) (cs : List Int) (s : PS) (k : Nat), y * W ≤ k → (rowsGo ps W y cs s).1[k]? = cs[k]?
  | 0, _, _, _, _ => rfl
  | y + 1, cs, s, k, hk => by
    rw [Nat.add_mul, Nat.one_mul] at hk
    unfold rowsGo
    split
    · rename_i hl
      rw [rowsGo_other ps W y _ _ k (by omega), rowGo_other ps _ _ _ _ k (by rw [hl]; omega)]
    · rfl
theorem rowsGo_rd {ps : List PieceD} (hf : Fit ps) (W : Nat) : ∀ (y : Nat) (cs : List Int) (s : PS), y * W ≤ cs.length → Rd s (rowsLn ps (rowsGo ps W y cs s).1 W y) (rowsGo ps W y cs s).2
  | 0, _, s, _ => Rd.refl s
  | y + 1, cs, s, hl => by
    rw [Nat.add_mul, Nat.one_mul] at hl
    unfold rowsGo
    split
    · rename_i hw
      obtain ⟨h1, h2⟩ := lineM_rd kRow 1 s
      have h3 := rowGo_rd ps (wd (lineM kRow 1 s).1 0) (y * W) cs (lineM kRow 1 s).2
      have h4 := rowsGo_rd hf W y (rowGo ps (wd (lineM kRow 1 s).1 0) (y * W) cs (lineM kRow 1 s).2).1 (rowGo ps (wd (lineM kRow 1 s).1 0) (y * W) cs (lineM kRow 1 s).2).2 (by rw [rowGo_len]; omega)
      intro hb
      have hb3 := h4.bad hb
      have h := ((h1.trans h3).trans h4) hb
      refine ⟨h.1, h.2.trans ?_⟩
      have e : joinL (kRow :: (lineM kRow 1 s).1) = rowLn ps (rowsGo ps W y (rowGo ps (wd (lineM kRow 1 s).1 0) (y * W) cs (lineM kRow 1 s).2).1 (rowGo ps (wd (lineM kRow 1 s).1 0) (y * W) cs (lineM kRow 1 s).2).2).1 W y := by
        rw [one_of h2, rowLn]
        congr 2
        simp only [List.cons.injEq, and_true]
        apply List.ext_getElem?
        intro j
        unfold rowB
        by_cases hj : j < W
        · have hc : (wd (lineM kRow 1 s).1 0)[j]? = some ((wd (lineM kRow 1 s).1 0)[j]'(by omega)) := List.getElem?_eq_getElem _
          have h5 := rowGo_at hf (wd (lineM kRow 1 s).1 0) (y * W) cs (lineM kRow 1 s).2 hb3 (by omega) j _ hc
          rw [show wd [wd (lineM kRow 1 s).1 0] 0 = wd (lineM kRow 1 s).1 0 from rfl, hc]
          simp only [List.getElem?_map, List.getElem?_range hj, Option.map_some]
          rw [rowsGo_other ps W y _ _ _ (by omega), h5]
        · rw [show wd [wd (lineM kRow 1 s).1 0] 0 = wd (lineM kRow 1 s).1 0 from rfl, List.getElem?_eq_none (by omega), List.getElem?_eq_none (by simp; omega)]
      rw [e, List.append_nil]
      rfl
    · exact rd_fail _ _ _
theorem rowsLn_nl (ps : List PieceD) (st : List Int) (W : Nat) : ∀ y, nl (rowsLn ps st W y) = rowsL ps st W y
  | 0 => rfl
  | y + 1 => by
    rw [rowsLn, nl_cons, rowsLn_nl ps st W y, rowsL]
    simp [rowL, rowLn, joinL, lineB, kRow]
theorem flagM_rd (k : (List UInt8)) (s : PS) : Rd s (if (flagM k s).1 then [joinL [k]] else []) (flagM k s).2 := by
  unfold flagM
  split
  · obtain ⟨h1, h2⟩ := lineM_rd k 0 s
    have : (lineM k 0 s).1 = [] := List.length_eq_zero_iff.1 h2
    rw [this] at h1
    simpa using h1
  · simpa using Rd.refl s
def endLn (ps : List PieceD) (x : EndD) : (List UInt8) :=
  if x.kind = 0 then joinL [kEL, num x.count, howB x.loses] else if x.kind = 1 then joinL [kER, pieceTx ps x.piece, howB x.loses] else joinL [kET, pieceTx ps x.piece, num x.count, howB x.loses]
theorem endLn_nl (ps : List PieceD) (x : EndD) : endLn ps x ++ [10] = endL ps x := by
  unfold endLn endL
  split
  · rfl
  · split <;> rfl
theorem piece_of {w : (List UInt8)} {ps : List PieceD} {s : PS} (h : (pieceM w ps s).2.bad = false) : pieceTx ps (pieceM w ps s).1 = w := by
  obtain ⟨i, x, h1, h2, h3⟩ := pieceM_ok h
  rw [pieceTx, h1, Int.toNat_natCast, h2]
  exact h3
theorem how_of {w : (List UInt8)} {s : PS} (h : (choiceM w wHow s).2.bad = false) : howB (isOne (choiceM w wHow s).1) = w := by
  obtain ⟨i, h1, h2⟩ := choiceM_ok h
  rw [h1]; exact how_word2 h2
theorem elM_rd (ps : List PieceD) (s : PS) : Rd s [endLn ps (elM s).1] (elM s).2 := by
  obtain ⟨hl, hn⟩ := lineM_rd kEL 2 s
  intro hb
  have b1 := (choiceM_rd _ wHow _).bad hb
  have h := ((hl.trans (numM_rd _ _)).trans (choiceM_rd _ wHow _)) hb
  refine ⟨h.1, h.2.trans ?_⟩
  have f1 := numM_ok b1
  have f2 := how_of hb
  have e : joinL (kEL :: (lineM kEL 2 s).1) = endLn ps (elM s).1 := by
    rw [endLn, if_pos (show (elM s).1.kind = 0 from rfl), two_of hn]
    simp only [elM]
    rw [f1, f2]
  rw [e]; rfl
theorem erM_rd (ps : List PieceD) (s : PS) : Rd s [endLn ps (erM ps s).1] (erM ps s).2 := by
  obtain ⟨hl, hn⟩ := lineM_rd kER 2 s
  intro hb
  have b1 := (choiceM_rd _ wHow _).bad hb
  have h := ((hl.trans (pieceM_rd _ ps _)).trans (choiceM_rd _ wHow _)) hb
  refine ⟨h.1, h.2.trans ?_⟩
  have f1 := piece_of b1
  have f2 := how_of hb
  have e : joinL (kER :: (lineM kER 2 s).1) = endLn ps (erM ps s).1 := by
    rw [endLn, if_neg (by simp [erM]), if_pos (show (erM ps s).1.kind = 1 from rfl), two_of hn]
    simp only [erM]
    rw [f1, f2]
  rw [e]; rfl
theorem etM_rd (ps : List PieceD) (s : PS) : Rd s [endLn ps (etM ps s).1] (etM ps s).2 := by
  obtain ⟨hl, hn⟩ := lineM_rd kET 3 s
  intro hb
  have b2 : (etN ps s).2.bad = false := (choiceM_rd _ wHow _).bad hb
  have b1 : (etP ps s).2.bad = false := (numM_rd _ _).bad b2
  have h := (((hl.trans (pieceM_rd _ ps _)).trans (numM_rd _ _)).trans (choiceM_rd _ wHow _)) hb
  refine ⟨h.1, h.2.trans ?_⟩
  have f0 : pieceTx ps (etP ps s).1 = _ := piece_of b1
  have f1 : num (etN ps s).1 = _ := numM_ok b2
  have f2 : howB (isOne (etH ps s).1) = _ := how_of hb
  have e : joinL (kET :: (lineM kET 3 s).1) = endLn ps (etM ps s).1 := by
    rw [endLn, if_neg (by simp [etM]), if_neg (by simp [etM]), three_of hn]
    simp only [etM]
    rw [f0, f1, f2]
  rw [e]; rfl
theorem endM_rd (ps : List PieceD) (s : PS) : Rd s [endLn ps (endM ps s).1] (endM ps s).2 := by
  unfold endM
  split
  · exact elM_rd ps s
  · split
    · exact erM_rd ps s
    · exact etM_rd ps s
theorem endsGoM_rd (ps : List PieceD) : ∀ (f : Nat) (s : PS), Rd s ((endsGoM ps f s).1.map (endLn ps)) (endsGoM ps f s).2
  | 0, s => Rd.refl s
  | f + 1, s => by
    unfold endsGoM
    split
    · exact (endM_rd ps s).trans (endsGoM_rd ps f _)
    · exact Rd.refl s
theorem ends_nl (ps : List PieceD) : ∀ l : List EndD, nl (l.map (endLn ps)) = endsL ps l
  | [] => rfl
  | x :: l => by
    rw [List.map_cons, nl_cons, endLn_nl, ends_nl ps l]; simp [endsL]
theorem oneM_rd (k : (List UInt8)) (s : PS) : Rd s [joinL [k, wd (lineM k 1 s).1 0]] (lineM k 1 s).2 := by
  obtain ⟨h1, h2⟩ := lineM_rd k 1 s
  rw [one_of h2] at h1
  exact h1
theorem side_nat {w : (List UInt8)} {s : PS} (h : (sideM w s).2.bad = false) : num (sideM w s).1 = w ∧ 1 ≤ (sideM w s).1 ∧ (sideM w s).1 ≤ 8 := by
  obtain ⟨h1, h2⟩ := sideM_ok h
  rw [inB_iff] at h2
  exact ⟨h1, h2.1, h2.2⟩
theorem flag_nl (k : (List UInt8)) (b : Bool) : nl (if b then [joinL [k]] else []) = if b then lineB [k] else [] := by
  cases b
  · rfl
  · exact nl_one _
/-- WHAT IS READ HAS THIS TEXT. -/
theorem rulesM_text (ls : List (List UInt8)) (hb : (gA ⟨ls, false⟩).2.bad = false) (he : (gA ⟨ls, false⟩).2.ls = []) : nl ls = textB (rulesM ⟨ls, false⟩) := by
  obtain ⟨s, hs⟩ : ∃ s : PS, s = ⟨ls, false⟩ := ⟨_, rfl⟩
  rw [← hs] at hb he ⊢
  obtain ⟨hl, hn⟩ := lineM_rd kGame 3 s
  have r9 : Rd (g9 s).2 _ (gA s).2 := (oneM_rd kRepeat _).trans (numM_rd _ _)
  have b9 := r9.bad hb
  have r8 : Rd (g8 s).2 _ (g9 s).2 := (oneM_rd kQuiet _).trans (numM_rd _ _)
  have b8 := r8.bad b9
  have r7 : Rd (g7 s).2 _ (g8 s).2 := (oneM_rd kBlocked _).trans (choiceM_rd _ wBlk _)
  have b7 := r7.bad b8
  have r6 : Rd (g6 s).2 _ (g7 s).2 := endsGoM_rd (g3 s).1 _ _
  have b6 := r6.bad b7
  have r5 : Rd (g5 s).2 _ (g6 s).2 := flagM_rd kKeeps _
  have b5 := r5.bad b6
  have r4 : Rd (g4 s).2 _ (g5 s).2 := flagM_rd kFalls _
  have b4 := r4.bad b5
  obtain ⟨p1, p2⟩ := piecesM_rd (g2 s).2
  have r3 : Rd (g3 s).2 _ (g4 s).2 := rowsGo_rd p2 (g1 s).1.toNat (g2 s).1.toNat (List.replicate ((g1 s).1.toNat * (g2 s).1.toNat) 0) (g3 s).2 (by rw [List.length_replicate, Nat.mul_comm]; exact Nat.le_refl _)
  have b3 := r3.bad b4
  have r2 : Rd (g2 s).2 _ (g3 s).2 := p1
  have b2 := r2.bad b3
  have r1 : Rd (g1 s).2 [] (g2 s).2 := sideM_rd _ _
  have b1 := r1.bad b2
  have r0 : Rd (g0 s).2 [] (g1 s).2 := sideM_rd _ _
  have all := ((((((((((hl.trans r0).trans r1).trans r2).trans r3).trans r4).trans r5).trans r6).trans r7).trans r8).trans r9) hb
  have h1 := all.2
  have els : s.ls = ls := by rw [hs]
  rw [els, he] at h1
  obtain ⟨w1, w2, w3⟩ := side_nat (show (sideM (wd (g0 s).1 1) (g0 s).2).2.bad = false from b1)
  obtain ⟨v1, v2, v3⟩ := side_nat (show (sideM (wd (g0 s).1 2) (g1 s).2).2.bad = false from b2)
  have f9 : num (gA s).1 = wd (lineM kRepeat 1 (g9 s).2).1 0 := numM_ok hb
  have f8 : num (g9 s).1 = wd (lineM kQuiet 1 (g8 s).2).1 0 := numM_ok b9
  obtain ⟨i, e7, h7⟩ := choiceM_ok (show (choiceM (wd (lineM kBlocked 1 (g7 s).2).1 0) wBlk (lineM kBlocked 1 (g7 s).2).2).2.bad = false from b8)
  have f7 : blockB (g8 s).1 = wd (lineM kBlocked 1 (g7 s).2).1 0 := by rw [show (g8 s).1 = (i : Int) from e7]; exact blk_word h7
  rw [h1]
  simp only [nl_app]
  rw [rowsLn_nl, ends_nl, flag_nl, flag_nl, pieces_nl]
  have e0 : (g0 s).1 = [wd (g0 s).1 0, wd (g0 s).1 1, wd (g0 s).1 2] := three_of hn
  show nl [joinL (kGame :: (g0 s).1)] ++ _ ++ _ ++ _ ++ _ ++ _ ++ _ ++ _ ++ _ ++ _ ++ _ ++ _ = _
  rw [e0, nl_one, nl_one, nl_one, nl_one, ← f9, ← f8, ← f7, ← w1, ← v1]
  have n0 : nl [] = [] := rfl
  simp only [n0, List.append_nil]
  rfl
end Go.Proofs.YtomclohfppbegaaGreatDoor

set_option maxRecDepth 100000
namespace Go.Proofs.YtomclohfppbegaaGreatDoor
open Go

/-! ### What is printed is read -/
/-- A word: no blank and no line's end in it. -/
def Wd (w : (List UInt8)) : Prop := 32 ∉ w ∧ 10 ∉ w
def ok0 (l : List (List UInt8)) : PS := ⟨l, false⟩
theorem joinL_cons (k : (List UInt8)) (ws : List (List UInt8)) : joinL (k :: ws) = k ++ Lib.joinTail [32] ws := by rw [joinL, Lib.join_cons]
theorem tail_blank (ws : List (List UInt8)) : ∃ t, Lib.joinTail [32] ws ++ [32] = 32 :: t := by
  cases ws with
  | nil => exact ⟨[], rfl⟩
  | cons w r => exact ⟨_, by rw [joinTail_cons]; rfl⟩
theorem begM_line (k : (List UInt8)) (ws rest : List (List UInt8)) : begM k (ok0 (joinL (k :: ws) :: rest)) = true := by
  obtain ⟨t, ht⟩ := tail_blank ws
  simp only [begM, ok0, Bool.not_false, Bool.true_and, Lib.hasPrefix, List.isPrefixOf_iff_prefix]
  rw [joinL_cons, List.append_assoc, ht]
  exact ⟨t, by simp⟩
theorem begM_nil (k : (List UInt8)) : begM k (ok0 []) = false := rfl
theorem lineM_c {k : (List UInt8)} {ws rest : List (List UInt8)} {n : Nat} (hn : ws.length = n) (hw : ∀ w ∈ ws, Wd w) : lineM k n (ok0 (joinL (k :: ws) :: rest)) = (ws, ok0 rest) := by
  have hr : restW k (joinL (k :: ws)) = ws := by
    have e : Lib.join ([] :: ws) [32] = Lib.joinTail [32] ws := by rw [Lib.join_cons]; rfl
    rw [restW, joinL_cons, List.drop_left, ← e, cut_join (by simp) (by
      intro w h
      rcases List.mem_cons.1 h with rfl | h
      · simp
      · exact (hw w h).1)]
    rfl
  rw [lineM, if_pos (begM_line k ws rest)]
  simp only [ok0, List.headD_cons, List.tail_cons, hr]
  rw [if_pos hn]
theorem num_small : ∀ v : Fin 208, (fun w : (List UInt8) => Lib.atoiAll w = .ok ((v.val : Int) - 7) ∧ 32 ∉ w ∧ 10 ∉ w) (if v.val < 7 then [45, UInt8.ofNat (48 + (7 - v.val))] else if v.val < 17 then [UInt8.ofNat (48 + (v.val - 7))] else if v.val < 107 then [UInt8.ofNat (48 + (v.val - 7) / 10), UInt8.ofNat (48 + (v.val - 7) % 10)] else [UInt8.ofNat (48 + (v.val - 7) / 100), UInt8.ofNat (48 + (v.val - 7) / 10 % 10), UInt8.ofNat (48 + (v.val - 7) % 10)]) := by decide +kernel
theorem num_is {v : Int} (h : -7 ≤ v) (h2 : v ≤ 200) : num v = if (v + 7).toNat < 7 then [45, UInt8.ofNat (48 + (7 - (v + 7).toNat))] else if (v + 7).toNat < 17 then [UInt8.ofNat (48 + ((v + 7).toNat - 7))] else if (v + 7).toNat < 107 then [UInt8.ofNat (48 + ((v + 7).toNat - 7) / 10), UInt8.ofNat (48 + ((v + 7).toNat - 7) % 10)] else [UInt8.ofNat (48 + ((v + 7).toNat - 7) / 100), UInt8.ofNat (48 + ((v + 7).toNat - 7) / 10 % 10), UInt8.ofNat (48 + ((v + 7).toNat - 7) % 10)] := by
  split
  · rw [num_neg (by omega), num_digit (by omega) (by omega)]
    congr 3; omega
  · split
    · rw [num_digit (by omega) (by omega)]
      congr 2; omega
    · split
      · rw [num_big (by omega), num_digit (by omega) (by omega), num_digit (by omega) (by omega)]
        simp only [List.singleton_append, List.cons.injEq, and_true]
        constructor <;> (congr 1; omega)
      · rw [num_big (by omega), num_big (n := v / 10) (by omega), num_digit (n := v / 10 / 10) (by omega) (by omega), num_digit (by omega) (by omega), num_digit (by omega) (by omega)]
        simp only [List.cons_append, List.nil_append, List.cons.injEq, and_true]
        refine ⟨?_, ?_, ?_⟩ <;> (congr 1; omega)
theorem num_all {v : Int} (h : -7 ≤ v) (h2 : v ≤ 200) : Lib.atoiAll (num v) = .ok v ∧ Wd (num v) := by
  have h3 := num_small ⟨(v + 7).toNat, by omega⟩
  simp only at h3
  rw [← num_is h h2] at h3
  have e : (((v + 7).toNat : Nat) : Int) - 7 = v := by omega
  rw [e] at h3
  exact ⟨h3.1, h3.2⟩
theorem num_wd {v : Int} (h : -7 ≤ v) (h2 : v ≤ 200) : Wd (num v) := (num_all h h2).2
theorem numM_c {v : Int} (h : -7 ≤ v) (h2 : v ≤ 200) (s : PS) : numM (num v) s = (v, s) := by
  rw [numM, numV, (num_all h h2).1]
  simp only [if_pos]
  rfl
theorem sideM_c {v : Int} (h : 1 ≤ v) (h2 : v ≤ 8) (s : PS) : sideM (num v) s = (v, s) := by
  rw [sideM, numM_c (by omega) (by omega), if_pos (inB_iff.2 ⟨h, h2⟩)]
theorem choice_take {t : Int} (h : 0 ≤ t) (h2 : t ≤ 2) (s : PS) : choiceM (takeB t) wTakes s = (t, s) := by
  obtain rfl | rfl | rfl : t = 0 ∨ t = 1 ∨ t = 2 := by omega
  all_goals rfl
theorem choice_blk {t : Int} (h : 0 ≤ t) (h2 : t ≤ 2) (s : PS) : choiceM (blockB t) wBlk s = (t, s) := by
  obtain rfl | rfl | rfl : t = 0 ∨ t = 1 ∨ t = 2 := by omega
  all_goals rfl
theorem choice_how (b : Bool) (s : PS) : choiceM (howB b) wHow s = (if b then 1 else 0, s) := by cases b <;> rfl
theorem isOne_how (b : Bool) : isOne (if b then 1 else 0) = b := by cases b <;> rfl
theorem takeB_wd (t : Int) : Wd (takeB t) := by
  unfold takeB Wd; split
  · decide
  · split <;> decide
theorem blockB_wd (t : Int) : Wd (blockB t) := by
  unfold blockB Wd; split
  · decide
  · split <;> decide
theorem howB_wd (b : Bool) : Wd (howB b) := by cases b <;> (unfold Wd; decide)
theorem wayM_c {x : WayD} (h : WOk x) (rest : List (List UInt8)) : wayM (ok0 (wayLn x :: rest)) = (x, ok0 rest) := by
  obtain ⟨⟨a1, a2⟩, ⟨b1, b2⟩, ⟨c1, c2⟩, d1, d2⟩ := h
  have hl : lineM kWay 4 (ok0 (wayLn x :: rest)) = ([num x.dx, num x.dy, num x.most, takeB x.take], ok0 rest) := by
    refine lineM_c rfl ?_
    simp only [List.mem_cons, List.not_mem_nil, or_false, forall_eq_or_imp, forall_eq]
    exact ⟨num_wd (by omega) (by omega), num_wd (by omega) (by omega), num_wd (by omega) (by omega), takeB_wd _⟩
  have e1 : wayA (ok0 (wayLn x :: rest)) = (x.dx, ok0 rest) := by rw [wayA, hl]; exact numM_c (by omega) (by omega) _
  have e2 : wayB2 (ok0 (wayLn x :: rest)) = (x.dy, ok0 rest) := by rw [wayB2, hl, e1]; exact numM_c (by omega) (by omega) _
  have e3 : wayC (ok0 (wayLn x :: rest)) = (x.most, ok0 rest) := by rw [wayC, hl, e2]; exact numM_c (by omega) (by omega) _
  have e4 : wayT (ok0 (wayLn x :: rest)) = (x.take, ok0 rest) := by rw [wayT, hl, e3]; exact choice_take d1 d2 _
  rw [wayM, e1, e2, e3, e4]
theorem waysGo_c (rest : List (List UInt8)) (hr : begM kWay (ok0 rest) = false) : ∀ (f : Nat) (xs : List WayD), (∀ x ∈ xs, WOk x) → xs.length ≤ f → waysGo f (ok0 (xs.map wayLn ++ rest)) = (xs, ok0 rest)
  | 0, [], _, _ => rfl
  | f + 1, [], _, _ => by
    rw [waysGo, if_neg]
    · rfl
    · show ¬ begM kWay (ok0 rest) = true
      rw [hr]; decide
  | f + 1, x :: xs, h, hl => by
    have e : ok0 ((x :: xs).map wayLn ++ rest) = ok0 (wayLn x :: (xs.map wayLn ++ rest)) := rfl
    rw [waysGo, e, if_pos (by exact begM_line _ _ _), wayM_c (h x (by simp)), waysGo_c rest hr f xs (fun y hy => h y (List.mem_cons_of_mem _ hy)) (by simpa using hl)]
theorem waysM_c {rest : List (List UInt8)} (hr : begM kWay (ok0 rest) = false) {xs : List WayD} (h : ∀ x ∈ xs, WOk x) : waysM (ok0 (xs.map wayLn ++ rest)) = (xs, ok0 rest) :=
  waysGo_c rest hr _ xs h (by simp [ok0])

/-! ### Types of pieces -/
def Caps (ps : List PieceD) : Prop := ∀ x ∈ ps, 65 ≤ x.letter ∧ x.letter ≤ 90
def Dist (ps : List PieceD) : Prop := ∀ (i j : Nat) (x y : PieceD), ps[i]? = some x → ps[j]? = some y → x.letter = y.letter → i = j
theorem ofNat_toNat {n : Nat} (h : n < 256) : (UInt8.ofNat n).toNat = n := by rw [UInt8.toNat_ofNat']; omega
theorem lett_at (x : PieceD) : lettB x = [UInt8.ofNat x.letter.toNat] := rfl
theorem cap_wd {x : PieceD} (h : 65 ≤ x.letter ∧ x.letter ≤ 90) : Wd (lettB x) := by
  have e := ofNat_toNat (n := x.letter.toNat) (by omega)
  have k : ∀ c : UInt8, c.toNat < 65 → c ∉ lettB x := by
    intro c hc hm
    rw [lett_at, List.mem_singleton] at hm
    rw [hm, e] at hc; omega
  exact ⟨k 32 (by decide), k 10 (by decide)⟩
theorem cap_nodash {x : PieceD} (h : 65 ≤ x.letter ∧ x.letter ≤ 90) : lettB x ≠ [45] := by
  intro hm
  have e := ofNat_toNat (n := x.letter.toNat) (by omega)
  rw [lett_at] at hm
  have := (List.cons.inj hm).1
  rw [this] at e
  have : (45 : UInt8).toNat = 45 := rfl
  omega
theorem lett_inj {x y : PieceD} (hx : 65 ≤ x.letter ∧ x.letter ≤ 90) (hy : 65 ≤ y.letter ∧ y.letter ≤ 90) (h : lettB x = lettB y) : x.letter = y.letter := by
  have h1 := (List.cons.inj h).1
  have h2 := congrArg UInt8.toNat h1
  rw [ofNat_toNat (by omega), ofNat_toNat (by omega)] at h2
  omega
theorem toB_wd {ps : List PieceD} (hc : Caps ps) {x : PieceD} : Wd (toB ps x) := by
  unfold toB
  split
  · split
    · rename_i y hy
      exact cap_wd (hc y (List.mem_of_getElem? hy))
    · unfold Wd; decide
  · unfold Wd; decide
/-- A type as it is read at first. -/
def raw (ps : List PieceD) (x : PieceD) : PieceD × (List UInt8) := (⟨x.letter, x.hand, 0, x.ways⟩, toB ps x)
def linesOf (ps : List PieceD) (l : List PieceD) : List (List UInt8) := (l.map fun x => pieceLn x (toB ps x)).flatten
theorem not_beg {k l : (List UInt8)} {a b : UInt8} {t u : (List UInt8)} (hk : k = a :: t) (hl : l = b :: u) (h : a ≠ b) (rest : List (List UInt8)) : begM k (ok0 (l :: rest)) = false := by
  subst hk; subst hl
  simp [begM, ok0, Lib.hasPrefix, List.isPrefixOf, h]
theorem psGo_c {ps : List PieceD} (hc : Caps ps) {n : Nat} {rest : List (List UInt8)} (hr : begM kWay (ok0 rest) = false) (hr2 : begM kPiece (ok0 rest) = false) : ∀ (f : Nat) (l : List PieceD), (∀ x ∈ l, POk n x) → l.length ≤ f → psGo f (ok0 (linesOf ps l ++ rest)) = (l.map (raw ps), ok0 rest)
  | 0, [], _, _ => rfl
  | f + 1, [], _, _ => by
    rw [psGo, if_neg]
    · rfl
    · show ¬ begM kPiece (ok0 rest) = true
      rw [hr2]; decide
  | f + 1, x :: l, h, hl => by
    obtain ⟨hcap, ⟨h0, h1⟩, _, _, hw⟩ := h x (by simp)
    have e : ok0 (linesOf ps (x :: l) ++ rest) = ok0 (joinL [kPiece, lettB x, num x.hand, toB ps x] :: (x.ways.map wayLn ++ (linesOf ps l ++ rest))) := by simp [linesOf, pieceLn]
    have hL : lineM kPiece 3 (ok0 (joinL [kPiece, lettB x, num x.hand, toB ps x] :: (x.ways.map wayLn ++ (linesOf ps l ++ rest)))) = ([lettB x, num x.hand, toB ps x], ok0 (x.ways.map wayLn ++ (linesOf ps l ++ rest))) := by
      refine lineM_c rfl ?_
      simp only [List.mem_cons, List.not_mem_nil, or_false, forall_eq_or_imp, forall_eq]
      exact ⟨cap_wd hcap, num_wd (by omega) (by omega), toB_wd hc⟩
    have hbw : begM kWay (ok0 (linesOf ps l ++ rest)) = false := by
      cases l with
      | nil => exact hr
      | cons y l =>
        have e2 : linesOf ps (y :: l) ++ rest = (112 :: ([105, 101, 99, 101] ++ Lib.joinTail [32] [lettB y, num y.hand, toB ps y])) :: (y.ways.map wayLn ++ (linesOf ps l ++ rest)) := by
          simp [linesOf, pieceLn, joinL_cons, kPiece]
        rw [e2]
        exact not_beg (a := 119) (b := 112) rfl rfl (by decide) _
    rw [e]
    generalize hs : ok0 (joinL [kPiece, lettB x, num x.hand, toB ps x] :: (x.ways.map wayLn ++ (linesOf ps l ++ rest))) = s at hL
    have hW : headW s = [lettB x, num x.hand, toB ps x] := by rw [headW, hL]
    have hN : headN s = (x.hand, ok0 (x.ways.map wayLn ++ (linesOf ps l ++ rest))) := by
      rw [headN, hW, hL]; exact numM_c (by omega) (by omega) _
    have hV : waysM (headN s).2 = (x.ways, ok0 (linesOf ps l ++ rest)) := by rw [hN]; exact waysM_c hbw hw
    have hS : headS s = ok0 (linesOf ps l ++ rest) := by rw [headS, hV]
    have hP : headP s = raw ps x := by
      rw [headP, hV, hW, hN, raw]
      have e3 : (((wd [lettB x, num x.hand, toB ps x] 0)[0]?.getD 0).toNat : Int) = x.letter := by
        show (((UInt8.ofNat x.letter.toNat).toNat : Nat) : Int) = x.letter
        rw [ofNat_toNat (by omega)]; omega
      rw [e3]; rfl
    have hb : begM kPiece s = true := by rw [← hs]; exact begM_line _ _ _
    rw [psGo, if_pos hb, hW, if_pos (show (wd [lettB x, num x.hand, toB ps x] 0).length = 1 from rfl), hP, hS, psGo_c hc hr hr2 f l (fun y hy => h y (List.mem_cons_of_mem _ hy)) (by simpa using hl)]
    rfl
end Go.Proofs.YtomclohfppbegaaGreatDoor

set_option maxRecDepth 100000
namespace Go.Proofs.YtomclohfppbegaaGreatDoor
open Go

theorem findIdx_at {α : Type} {p : α → Bool} {l : List α} {i : Nat} {x : α} (hx : l[i]? = some x) (hp : p x = true) (hj : ∀ (j : Nat) (y : α), j < i → l[j]? = some y → p y = false) : idxV p l = some (i : Int) := by
  have hi := (List.getElem?_eq_some_iff.1 hx).1
  have : l.findIdx? p = some i := by
    rw [List.findIdx?_eq_some_iff_getElem]
    refine ⟨hi, ?_, fun j hji => ?_⟩
    · have := (List.getElem?_eq_some_iff.1 hx).2; rw [this]; exact hp
    · have := hj j l[j] hji (List.getElem?_eq_getElem (by omega)); simp [this]
  rw [idxV, this]; rfl
theorem pieceM_c {ps qs : List PieceD} (hc : Caps ps) (hd : Dist ps) (hs : SameL qs ps) {i : Nat} {y : PieceD} (hy : ps[i]? = some y) (s : PS) : pieceM (lettB y) qs s = ((i : Int), s) := by
  obtain ⟨z, hz, hzl⟩ := SameL.at (Eq.symm hs) hy
  have hcy := hc y (List.mem_of_getElem? hy)
  have : idxV (fun q => lettB q == lettB y) qs = some (i : Int) := by
    refine findIdx_at hz (by simp [lettB, hzl]) (fun j u hj hu => ?_)
    obtain ⟨v, hv, hvl⟩ := SameL.at hs hu
    have hcv := hc v (List.mem_of_getElem? hv)
    rw [beq_eq_false_iff_ne]
    intro e
    have e2 : lettB v = lettB y := by rw [← e]; simp [lettB, hvl]
    have := hd j i v y hv hy (lett_inj hcv hcy e2)
    omega
  rw [pieceM, this]; rfl
theorem promI_c {ps qs : List PieceD} (hc : Caps ps) (hd : Dist ps) (hs : SameL qs ps) {x : PieceD} (h0 : 0 ≤ x.promote) (h1 : x.promote ≤ ps.length) (s : PS) : promI (toB ps x) qs s = (x.promote, s) := by
  by_cases hp : x.promote > 0
  · obtain ⟨i, hi⟩ := Int.eq_ofNat_of_zero_le (show 0 ≤ x.promote - 1 by omega)
    have hil : i < ps.length := by omega
    have hy : ps[i]? = some ps[i] := List.getElem?_eq_getElem hil
    have e1 : (x.promote - 1).toNat = i := by omega
    have e : toB ps x = lettB ps[i] := by rw [toB, if_pos hp, e1, hy]
    rw [promI, e, if_neg (cap_nodash (hc _ (List.mem_of_getElem? hy))), pieceM_c hc hd hs hy]
    have : (i : Int) + 1 = x.promote := by omega
    rw [this]
  · have e : toB ps x = [45] := by rw [toB, if_neg hp]
    have : (0 : Int) = x.promote := by omega
    rw [promI, if_pos e, this]
theorem promGo_c {ps qs : List PieceD} (hc : Caps ps) (hd : Dist ps) (hs : SameL qs ps) : ∀ (l : List PieceD) (s : PS), (∀ x ∈ l, POk ps.length x) → promGo qs (l.map (raw ps)) s = (l, s)
  | [], s, _ => rfl
  | x :: l, s, h => by
    obtain ⟨_, _, ⟨h0, h1⟩, _⟩ := h x (by simp)
    simp only [List.map_cons, promGo, raw]
    rw [promI_c hc hd hs h0 h1]
    rw [promGo_c hc hd hs l s (fun y hy => h y (List.mem_cons_of_mem _ hy))]
theorem raw_same (ps : List PieceD) (l : List PieceD) : SameL ((l.map (raw ps)).map (·.1)) l := by
  unfold SameL
  rw [List.map_map, List.map_map]; rfl
theorem lines_len (ps : List PieceD) : ∀ l : List PieceD, l.length ≤ (linesOf ps l).length
  | [] => Nat.le_refl _
  | x :: l => by
    have := lines_len ps l
    simp only [linesOf, List.map_cons, List.flatten_cons, List.length_append, List.length_cons, pieceLn] at this ⊢
    omega
theorem piecesM_c {ps : List PieceD} (hc : Caps ps) (hd : Dist ps) (h : ∀ x ∈ ps, POk ps.length x) {rest : List (List UInt8)} (hr : begM kWay (ok0 rest) = false) (hr2 : begM kPiece (ok0 rest) = false) : piecesM (ok0 (linesOf ps ps ++ rest)) = (ps, ok0 rest) := by
  have e : psM (ok0 (linesOf ps ps ++ rest)) = (ps.map (raw ps), ok0 rest) := by
    refine psGo_c hc hr hr2 _ ps h ?_
    have := lines_len ps ps
    simp only [ok0, List.length_append]; omega
  rw [piecesM, e]
  exact promGo_c hc hd (raw_same ps ps) ps _ h

/-! ### Rows -/
theorem cellGo_c {c : UInt8} {v : Int} : ∀ (qs : List PieceD) (i j : Nat) (y : PieceD), Caps qs → Dist qs → qs[j]? = some y →
    (v = 2 * ((i + j : Nat) : Int) + 1 ∧ c = UInt8.ofNat y.letter.toNat ∨ v = 2 * ((i + j : Nat) : Int) + 2 ∧ c = UInt8.ofNat (y.letter.toNat + 32)) → cellGo c qs i = some v
  | [], _, _, _, _, _, h, _ => by simp at h
  | q :: qs, i, j, y, hc, hd, hy, hv => by
    have hcy := hc y (List.mem_of_getElem? hy)
    have hcq := hc q (by simp)
    have hcn : (v = 2 * ((i + j : Nat) : Int) + 1 ∧ (c.toNat : Int) = y.letter) ∨ (v = 2 * ((i + j : Nat) : Int) + 2 ∧ (c.toNat : Int) = y.letter + 32) := by
      rcases hv with ⟨h1, h2⟩ | ⟨h1, h2⟩
      · refine .inl ⟨h1, ?_⟩
        rw [h2, ofNat_toNat (by omega)]; omega
      · refine .inr ⟨h1, ?_⟩
        rw [h2, ofNat_toNat (by omega)]; omega
    match j, hy with
    | 0, hy =>
      obtain rfl := Option.some.inj hy
      rw [Nat.add_zero] at hcn
      unfold cellGo
      rcases hcn with ⟨h1, h2⟩ | ⟨h1, h2⟩
      · rw [if_pos h2, h1]
      · rw [if_neg (by omega), if_pos (by omega), h1]
    | j + 1, hy =>
      have hne : y.letter ≠ q.letter := by
        intro e
        have := hd (j + 1) 0 y q hy rfl e
        omega
      have hy2 : qs[j]? = some y := by simpa using hy
      unfold cellGo
      rw [if_neg (by omega), if_neg (by omega)]
      refine cellGo_c qs (i + 1) j y (fun x hx => hc x (List.mem_cons_of_mem _ hx)) (fun a b x z h1 h2 h3 => ?_) hy2 ?_
      · have := hd (a + 1) (b + 1) x z (by simpa using h1) (by simpa using h2) h3; omega
      · have e : i + 1 + j = i + (j + 1) := by omega
        rw [e]; exact hv
theorem cellV_c {ps : List PieceD} (hc : Caps ps) (hd : Dist ps) {c : Int} (h0 : 0 ≤ c) (h1 : c ≤ 2 * ps.length) : cellV (cellB ps c) ps = some c ∧ cellB ps c ≠ 32 ∧ cellB ps c ≠ 10 := by
  by_cases hz : c = 0
  · subst hz; exact ⟨rfl, (by decide : (46 : UInt8) ≠ 32), (by decide : (46 : UInt8) ≠ 10)⟩
  · obtain ⟨d, hdd⟩ := Int.eq_ofNat_of_zero_le (show 0 ≤ c - 1 by omega)
    have hj : d / 2 < ps.length := by omega
    have hy : ps[d / 2]? = some ps[d / 2] := List.getElem?_eq_getElem hj
    have hcy := hc _ (List.mem_of_getElem? hy)
    have e1 : ((c - 1) / 2).toNat = d / 2 := by omega
    have hb : ∀ x : UInt8, x.toNat ≤ 64 → cellB ps c ≠ x := by
      intro x hx e
      have e2 := congrArg UInt8.toNat e
      rw [cellB, if_neg hz, e1, hy] at e2
      simp only at e2
      split at e2
      · rw [ofNat_toNat (by omega)] at e2; omega
      · rw [ofNat_toNat (by omega)] at e2; omega
    refine ⟨?_, hb 32 (by decide), hb 10 (by decide)⟩
    rw [cellV, if_neg (hb 46 (by decide))]
    refine cellGo_c ps 0 (d / 2) _ hc hd hy ?_
    rw [Nat.zero_add, cellB, if_neg hz, e1, hy]
    simp only
    by_cases hm : (c - 1) % 2 = 0
    · rw [if_pos hm]; exact .inl ⟨by omega, rfl⟩
    · rw [if_neg hm]; exact .inr ⟨by omega, rfl⟩
theorem rowGo_c {ps : List PieceD} {vf : Nat → Int} : ∀ (l : (List UInt8)) (i : Nat) (cs : List Int) (s : PS), (∀ j c, l[j]? = some c → cellV c ps = some (vf (i + j))) → i + l.length ≤ cs.length → (rowGo ps l i cs s).2 = s ∧ ∀ j, j < l.length → (rowGo ps l i cs s).1[i + j]? = some (vf (i + j))
  | [], _, _, _, _, _ => ⟨rfl, fun j hj => by simp at hj⟩
  | c :: l, i, cs, s, h, hl => by
    rw [List.length_cons] at hl
    have h0 : cellM c ps s = (vf i, s) := by rw [cellM, h 0 c rfl]; rfl
    have ih := rowGo_c l (i + 1) (cs.set i (vf i)) s (fun j x hx => by
      have := h (j + 1) x (by simpa using hx)
      rw [show i + (j + 1) = i + 1 + j by omega] at this; exact this) (by simp; omega)
    rw [rowGo, h0]
    refine ⟨ih.1, fun j hj => ?_⟩
    match j with
    | 0 => rw [rowGo_other ps l _ _ _ _ (by omega), Nat.add_zero, List.getElem?_set_self (by omega)]
    | j + 1 =>
      rw [List.length_cons] at hj
      have := ih.2 j (by omega)
      rw [show i + (j + 1) = i + 1 + j by omega]; exact this
theorem rowsGo_c {ps : List PieceD} (hc : Caps ps) (hd : Dist ps) {st : List Int} (hst : ∀ c ∈ st, 0 ≤ c ∧ c ≤ 2 * ps.length) (W : Nat) (rest : List (List UInt8)) : ∀ (y : Nat) (cs : List Int), y * W ≤ cs.length → y * W ≤ st.length →
    (rowsGo ps W y cs (ok0 (rowsLn ps st W y ++ rest))).2 = ok0 rest ∧ ∀ k, k < y * W → (rowsGo ps W y cs (ok0 (rowsLn ps st W y ++ rest))).1[k]? = st[k]?
  | 0, cs, _, _ => ⟨rfl, fun k hk => by simp at hk⟩
  | y + 1, cs, h1, h2 => by
    rw [Nat.add_mul, Nat.one_mul] at h1 h2
    have hcv : ∀ k, k < y * W + W → cellV (cellB ps (st[k]?.getD 0)) ps = some (st[k]?.getD 0) ∧ cellB ps (st[k]?.getD 0) ≠ 32 ∧ cellB ps (st[k]?.getD 0) ≠ 10 := by
      intro k hk
      have e : st[k]? = some st[k] := List.getElem?_eq_getElem (by omega)
      have hb := hst st[k] (List.getElem_mem _)
      rw [e]
      exact cellV_c hc hd hb.1 hb.2
    have hL : lineM kRow 1 (ok0 (rowsLn ps st W (y + 1) ++ rest)) = ([rowB ps st W y], ok0 (rowsLn ps st W y ++ rest)) := by
      refine lineM_c rfl ?_
      simp only [List.mem_cons, List.not_mem_nil, or_false, forall_eq]
      unfold rowB Wd
      simp only [List.mem_map, List.mem_range, not_exists, not_and]
      exact ⟨fun x hx => (hcv _ (by omega)).2.1, fun x hx => (hcv _ (by omega)).2.2⟩
    have hw : (rowB ps st W y).length = W := by simp [rowB]
    have hg := rowGo_c (ps := ps) (vf := fun k => st[k]?.getD 0) (rowB ps st W y) (y * W) cs (ok0 (rowsLn ps st W y ++ rest)) (by
      intro j c hj
      unfold rowB at hj
      have hjl : j < W := by have := (List.getElem?_eq_some_iff.1 hj).1; simpa using this
      rw [List.getElem?_map, List.getElem?_range hjl, Option.map_some] at hj
      rw [← Option.some.inj hj]
      exact (hcv _ (by omega)).1) (by rw [hw]; omega)
    have key : rowsGo ps W (y + 1) cs (ok0 (rowsLn ps st W (y + 1) ++ rest)) = rowsGo ps W y (rowGo ps (rowB ps st W y) (y * W) cs (ok0 (rowsLn ps st W y ++ rest))).1 (ok0 (rowsLn ps st W y ++ rest)) := by
      rw [rowsGo, hL, show wd ([rowB ps st W y], ok0 (rowsLn ps st W y ++ rest)).1 0 = rowB ps st W y from rfl, if_pos hw]
      exact congrArg (rowsGo ps W y _) hg.1
    rw [key]
    have ih := rowsGo_c hc hd hst W rest y (rowGo ps (rowB ps st W y) (y * W) cs (ok0 (rowsLn ps st W y ++ rest))).1 (by rw [rowGo_len]; omega) (by omega)
    refine ⟨ih.1, fun k hk => ?_⟩
    by_cases hky : k < y * W
    · exact ih.2 k hky
    · rw [rowsGo_other ps W y _ _ k (by omega)]
      rw [Nat.add_mul, Nat.one_mul] at hk
      have := hg.2 (k - y * W) (by rw [hw]; omega)
      rw [show y * W + (k - y * W) = k by omega] at this
      rw [this, List.getElem?_eq_getElem (by omega)]; rfl
theorem rowsM_c {ps : List PieceD} (hc : Caps ps) (hd : Dist ps) {st : List Int} (hst : ∀ c ∈ st, 0 ≤ c ∧ c ≤ 2 * ps.length) {W H : Nat} (hl : st.length = W * H) (rest : List (List UInt8)) : rowsM ps W H (ok0 (rowsLn ps st W H ++ rest)) = (st, ok0 rest) := by
  have hWH : H * W = W * H := Nat.mul_comm _ _
  obtain ⟨h1, h2⟩ := rowsGo_c hc hd hst W rest H (List.replicate (W * H) 0) (by rw [List.length_replicate]; omega) (by omega)
  have e : (rowsM ps W H (ok0 (rowsLn ps st W H ++ rest))).1 = st := by
    apply List.ext_getElem?
    intro k
    by_cases hk : k < H * W
    · exact h2 k hk
    · rw [List.getElem?_eq_none (by rw [rowsM, rowsGo_len, List.length_replicate]; omega), List.getElem?_eq_none (by omega)]
  exact Prod.ext e h1

/-! ### Conditions, and all of it -/
theorem flagM_c (k : (List UInt8)) (b : Bool) {rest : List (List UInt8)} (hr : begM k (ok0 rest) = false) : flagM k (ok0 ((if b then [joinL [k]] else []) ++ rest)) = (b, ok0 rest) := by
  cases b with
  | false =>
    show flagM k (ok0 rest) = _
    rw [flagM, if_neg (by rw [hr]; decide)]
  | true =>
    show flagM k (ok0 (joinL [k] :: rest)) = _
    have hL : lineM k 0 (ok0 (joinL [k] :: rest)) = ([], ok0 rest) := lineM_c rfl (fun w h => by cases h)
    rw [flagM, if_pos (begM_line k [] rest), hL]
/-- What a condition's line doesn't say is as it must be. -/
def EFull (x : EndD) : Prop := (x.kind = 0 → x.piece = 0) ∧ (x.kind = 1 → x.count = 0)
theorem beg_el_er (ws rest : List (List UInt8)) : begM kEL (ok0 (joinL (kER :: ws) :: rest)) = false := by
  rw [joinL_cons]; simp [begM, ok0, Lib.hasPrefix, List.isPrefixOf, kEL, kER]
theorem beg_el_et (ws rest : List (List UInt8)) : begM kEL (ok0 (joinL (kET :: ws) :: rest)) = false := by
  rw [joinL_cons]; simp [begM, ok0, Lib.hasPrefix, List.isPrefixOf, kEL, kET]
theorem beg_er_et (ws rest : List (List UInt8)) : begM kER (ok0 (joinL (kET :: ws) :: rest)) = false := by
  rw [joinL_cons]; simp [begM, ok0, Lib.hasPrefix, List.isPrefixOf, kER, kET]
theorem beg_end (k : (List UInt8)) (hk : k = kEL ∨ k = kER ∨ k = kET) (ws rest : List (List UInt8)) : begM kEnd (ok0 (joinL (k :: ws) :: rest)) = true := by
  rw [joinL_cons]
  rcases hk with rfl | rfl | rfl <;> simp [begM, ok0, Lib.hasPrefix, List.isPrefixOf, kEL, kER, kET, kEnd]
theorem endM_c {ps : List PieceD} (hc : Caps ps) (hd : Dist ps) {x : EndD} (h : EOk ps.length x) (hf : EFull x) (rest : List (List UInt8)) : endM ps (ok0 (endLn ps x :: rest)) = (x, ok0 rest) ∧ begM kEnd (ok0 (endLn ps x :: rest)) = true := by
  obtain ⟨⟨k0, k2⟩, ⟨p0, p1⟩, c0, c1⟩ := h
  obtain ⟨q, hq⟩ := Int.eq_ofNat_of_zero_le p0
  have hqn : q < ps.length := by omega
  have hy : ps[q]? = some ps[q] := List.getElem?_eq_getElem hqn
  have hpo : pieceTx ps x.piece = lettB ps[q] := by rw [pieceTx, hq, Int.toNat_natCast, hy]
  have hwd : Wd (lettB ps[q]) := cap_wd (hc _ (List.mem_of_getElem? hy))
  have hpm : ∀ s, pieceM (lettB ps[q]) ps s = (x.piece, s) := fun s => by rw [pieceM_c hc hd rfl hy, hq]
  have hnm : ∀ s, numM (num x.count) s = (x.count, s) := fun s => numM_c (by omega) (by omega) s
  have hnw : Wd (num x.count) := num_wd (by omega) (by omega)
  obtain hk | hk | hk : x.kind = 0 ∨ x.kind = 1 ∨ x.kind = 2 := by omega
  · have e : endLn ps x = joinL [kEL, num x.count, howB x.loses] := by rw [endLn, if_pos hk]
    rw [e]
    refine ⟨?_, beg_end kEL (.inl rfl) _ _⟩
    have hL : lineM kEL 2 (ok0 (joinL [kEL, num x.count, howB x.loses] :: rest)) = ([num x.count, howB x.loses], ok0 rest) := by
      refine lineM_c rfl ?_
      simp only [List.mem_cons, List.not_mem_nil, or_false, forall_eq_or_imp, forall_eq]
      exact ⟨hnw, howB_wd _⟩
    rw [endM, if_pos (begM_line _ _ _), elM, hL]
    show ((⟨0, 0, (numM (num x.count) (ok0 rest)).1, isOne (choiceM (howB x.loses) wHow (numM (num x.count) (ok0 rest)).2).1⟩ : EndD), (choiceM (howB x.loses) wHow (numM (num x.count) (ok0 rest)).2).2) = _
    rw [hnm, choice_how, isOne_how]
    have := hf.1 hk
    obtain ⟨kd, pc, ct, lo⟩ := x
    simp only at hk this
    rw [hk, this]
  · have e : endLn ps x = joinL [kER, lettB ps[q], howB x.loses] := by rw [endLn, if_neg (by omega), if_pos hk, hpo]
    rw [e]
    refine ⟨?_, beg_end kER (.inr (.inl rfl)) _ _⟩
    have hL : lineM kER 2 (ok0 (joinL [kER, lettB ps[q], howB x.loses] :: rest)) = ([lettB ps[q], howB x.loses], ok0 rest) := by
      refine lineM_c rfl ?_
      simp only [List.mem_cons, List.not_mem_nil, or_false, forall_eq_or_imp, forall_eq]
      exact ⟨hwd, howB_wd _⟩
    rw [endM, if_neg (by rw [beg_el_er]; decide), if_pos (begM_line _ _ _), erM, hL]
    show ((⟨1, (pieceM (lettB ps[q]) ps (ok0 rest)).1, 0, isOne (choiceM (howB x.loses) wHow (pieceM (lettB ps[q]) ps (ok0 rest)).2).1⟩ : EndD), (choiceM (howB x.loses) wHow (pieceM (lettB ps[q]) ps (ok0 rest)).2).2) = _
    rw [hpm, choice_how, isOne_how]
    have := hf.2 hk
    obtain ⟨kd, pc, ct, lo⟩ := x
    simp only at hk this
    rw [hk, this]
  · have e : endLn ps x = joinL [kET, lettB ps[q], num x.count, howB x.loses] := by rw [endLn, if_neg (by omega), if_neg (by omega), hpo]
    rw [e]
    refine ⟨?_, beg_end kET (.inr (.inr rfl)) _ _⟩
    have hL : lineM kET 3 (ok0 (joinL [kET, lettB ps[q], num x.count, howB x.loses] :: rest)) = ([lettB ps[q], num x.count, howB x.loses], ok0 rest) := by
      refine lineM_c rfl ?_
      simp only [List.mem_cons, List.not_mem_nil, or_false, forall_eq_or_imp, forall_eq]
      exact ⟨hwd, hnw, howB_wd _⟩
    have eP : etP ps (ok0 (joinL [kET, lettB ps[q], num x.count, howB x.loses] :: rest)) = (x.piece, ok0 rest) := by rw [etP, hL]; exact hpm _
    have eN : etN ps (ok0 (joinL [kET, lettB ps[q], num x.count, howB x.loses] :: rest)) = (x.count, ok0 rest) := by rw [etN, hL, eP]; exact hnm _
    have eH : etH ps (ok0 (joinL [kET, lettB ps[q], num x.count, howB x.loses] :: rest)) = (if x.loses then 1 else 0, ok0 rest) := by rw [etH, hL, eN]; exact choice_how _ _
    rw [endM, if_neg (by rw [beg_el_et]; decide), if_neg (by rw [beg_er_et]; decide), etM, eH, eN, eP]
    simp only
    rw [isOne_how]
    obtain ⟨kd, pc, ct, lo⟩ := x
    simp only at hk
    rw [hk]
theorem endsGoM_c {ps : List PieceD} (hc : Caps ps) (hd : Dist ps) {rest : List (List UInt8)} (hr : begM kEnd (ok0 rest) = false) : ∀ (f : Nat) (l : List EndD), (∀ x ∈ l, EOk ps.length x ∧ EFull x) → l.length ≤ f → endsGoM ps f (ok0 (l.map (endLn ps) ++ rest)) = (l, ok0 rest)
  | 0, [], _, _ => rfl
  | f + 1, [], _, _ => by
    rw [endsGoM, if_neg]
    · rfl
    · show ¬ begM kEnd (ok0 rest) = true
      rw [hr]; decide
  | f + 1, x :: l, h, hl => by
    obtain ⟨h1, h2⟩ := h x (by simp)
    obtain ⟨e1, e2⟩ := endM_c hc hd h1 h2 (l.map (endLn ps) ++ rest)
    have e : ok0 ((x :: l).map (endLn ps) ++ rest) = ok0 (endLn ps x :: (l.map (endLn ps) ++ rest)) := rfl
    rw [endsGoM, e, if_pos e2, e1, endsGoM_c hc hd hr f l (fun y hy => h y (List.mem_cons_of_mem _ hy)) (by simpa using hl)]
/-- The lines of a text of rules. -/
def textLs (r : RulesD) : List (List UInt8) :=
  joinL [kGame, r.name.data.toList, num r.width, num r.height] :: (linesOf r.pieces r.pieces ++ (rowsLn r.pieces r.start r.width.toNat r.height.toNat ++ ((if r.falls then [joinL [kFalls]] else []) ++ ((if r.keeps then [joinL [kKeeps]] else []) ++ (r.ends.map (endLn r.pieces) ++ [joinL [kBlocked, blockB r.blocked], joinL [kQuiet, num r.quiet], joinL [kRepeat, num r.rep]])))))
theorem textLs_nl (r : RulesD) : nl (textLs r) = textB r := by
  have e : textLs r = [joinL [kGame, r.name.data.toList, num r.width, num r.height]] ++ linesOf r.pieces r.pieces ++ rowsLn r.pieces r.start r.width.toNat r.height.toNat ++ (if r.falls then [joinL [kFalls]] else []) ++ (if r.keeps then [joinL [kKeeps]] else []) ++ r.ends.map (endLn r.pieces) ++ [joinL [kBlocked, blockB r.blocked]] ++ [joinL [kQuiet, num r.quiet]] ++ [joinL [kRepeat, num r.rep]] := by
    simp [textLs]
  rw [e]
  simp only [nl_app, nl_one, rowsLn_nl, ends_nl, flag_nl]
  rw [linesOf, pieces_nl]
  rfl
structure RFull (r : RulesD) : Prop where
  ok : ROk r
  nm : Wd r.name.data.toList
  caps : Caps r.pieces
  dist : Dist r.pieces
  ends : ∀ x ∈ r.ends, EFull x
theorem hd_row (ps : List PieceD) (st : List Int) (W y : Nat) : ∃ t, rowLn ps st W y = 114 :: t := ⟨_, by rw [rowLn, joinL_cons, kRow]; rfl⟩
/-- WHAT IS PRINTED IS READ AS IT WAS. -/
theorem rulesM_c {r : RulesD} (h : RFull r) : rulesM (ok0 (textLs r)) = r ∧ (gA (ok0 (textLs r))).2 = ok0 [] := by
  obtain ⟨ok, nm, hc, hd, he⟩ := h
  obtain ⟨t3, ht3⟩ : ∃ t, t = [joinL [kBlocked, blockB r.blocked], joinL [kQuiet, num r.quiet], joinL [kRepeat, num r.rep]] := ⟨_, rfl⟩
  obtain ⟨t4, ht4⟩ : ∃ t, t = r.ends.map (endLn r.pieces) ++ t3 := ⟨_, rfl⟩
  obtain ⟨t5, ht5⟩ : ∃ t, t = (if r.keeps then [joinL [kKeeps]] else []) ++ t4 := ⟨_, rfl⟩
  obtain ⟨t6, ht6⟩ : ∃ t, t = (if r.falls then [joinL [kFalls]] else []) ++ t5 := ⟨_, rfl⟩
  obtain ⟨t7, ht7⟩ : ∃ t, t = rowsLn r.pieces r.start r.width.toNat r.height.toNat ++ t6 := ⟨_, rfl⟩
  obtain ⟨t8, ht8⟩ : ∃ t, t = linesOf r.pieces r.pieces ++ t7 := ⟨_, rfl⟩
  have hT : textLs r = joinL [kGame, r.name.data.toList, num r.width, num r.height] :: t8 := by rw [ht8, ht7, ht6, ht5, ht4, ht3]; rfl
  have b3 : ∃ u v, t3 = (98 :: u) :: v := ⟨_, _, by rw [ht3, joinL_cons, kBlocked]; rfl⟩
  have b4 : (∃ u v, t4 = (98 :: u) :: v) ∨ ∃ u v, t4 = (101 :: u) :: v := by
    rw [ht4]
    cases r.ends with
    | nil => exact .inl b3
    | cons x l =>
      refine .inr ?_
      rw [List.map_cons, List.cons_append]
      unfold endLn
      split
      · exact ⟨_, _, by rw [joinL_cons, kEL]; rfl⟩
      · split
        · exact ⟨_, _, by rw [joinL_cons, kER]; rfl⟩
        · exact ⟨_, _, by rw [joinL_cons, kET]; rfl⟩
  have b5 : (∃ u v, t5 = (98 :: u) :: v) ∨ (∃ u v, t5 = (101 :: u) :: v) ∨ ∃ u v, t5 = (107 :: u) :: v := by
    rw [ht5]
    cases r.keeps with
    | false => exact b4.imp_right .inl
    | true => exact .inr (.inr ⟨_, _, by rw [joinL_cons, kKeeps]; rfl⟩)
  have b7 : ∃ u v, t7 = (114 :: u) :: v := by
    rw [ht7]
    have := ok.h1
    obtain ⟨y, hy⟩ : ∃ y, r.height.toNat = y + 1 := ⟨r.height.toNat - 1, by omega⟩
    rw [hy, rowsLn]
    obtain ⟨t, ht⟩ := hd_row r.pieces r.start r.width.toNat y
    exact ⟨t, _, by rw [ht]; rfl⟩
  have e0 : g0 (ok0 (textLs r)) = ([r.name.data.toList, num r.width, num r.height], ok0 t8) := by
    rw [hT, g0]
    refine lineM_c rfl ?_
    simp only [List.mem_cons, List.not_mem_nil, or_false, forall_eq_or_imp, forall_eq]
    exact ⟨nm, num_wd (by have := ok.w1; omega) (by have := ok.w2; omega), num_wd (by have := ok.h1; omega) (by have := ok.h2; omega)⟩
  have e1 : g1 (ok0 (textLs r)) = (r.width, ok0 t8) := by rw [g1, e0]; exact sideM_c ok.w1 ok.w2 _
  have e2 : g2 (ok0 (textLs r)) = (r.height, ok0 t8) := by rw [g2, e0, e1]; exact sideM_c ok.h1 ok.h2 _
  have e3 : g3 (ok0 (textLs r)) = (r.pieces, ok0 t7) := by
    rw [g3, e2, ht8]
    obtain ⟨u, v, hu⟩ := b7
    refine piecesM_c hc hd ok.ps ?_ ?_
    · rw [hu]; exact not_beg (a := 119) (b := 114) rfl rfl (by decide) _
    · rw [hu]; exact not_beg (a := 112) (b := 114) rfl rfl (by decide) _
  have e4 : g4 (ok0 (textLs r)) = (r.start, ok0 t6) := by
    rw [g4, e3, e2, e1, ht7]
    refine rowsM_c hc hd ok.st ?_ _
    have h1 := ok.sl
    have h2 := ok.w1
    have h3 := ok.h1
    have h4 : r.width = (r.width.toNat : Int) := by omega
    have h5 : r.height = (r.height.toNat : Int) := by omega
    rw [h4, h5, ← Int.natCast_mul] at h1
    exact Int.ofNat.inj h1
  have e5 : g5 (ok0 (textLs r)) = (r.falls, ok0 t5) := by
    rw [g5, e4, ht6]
    refine flagM_c kFalls r.falls ?_
    rcases b5 with ⟨u, v, hu⟩ | ⟨u, v, hu⟩ | ⟨u, v, hu⟩
    · rw [hu]; exact not_beg (a := 102) (b := 98) rfl rfl (by decide) _
    · rw [hu]; exact not_beg (a := 102) (b := 101) rfl rfl (by decide) _
    · rw [hu]; exact not_beg (a := 102) (b := 107) rfl rfl (by decide) _
  have e6 : g6 (ok0 (textLs r)) = (r.keeps, ok0 t4) := by
    rw [g6, e5, ht5]
    refine flagM_c kKeeps r.keeps ?_
    rcases b4 with ⟨u, v, hu⟩ | ⟨u, v, hu⟩
    · rw [hu]; exact not_beg (a := 107) (b := 98) rfl rfl (by decide) _
    · rw [hu]; exact not_beg (a := 107) (b := 101) rfl rfl (by decide) _
  have e7 : g7 (ok0 (textLs r)) = (r.ends, ok0 t3) := by
    rw [g7, e6, e3, ht4, endsM]
    obtain ⟨u, v, hu⟩ := b3
    refine endsGoM_c hc hd ?_ _ r.ends (fun x hx => ⟨ok.es x hx, he x hx⟩) (by simp [ok0])
    rw [hu]; exact not_beg (a := 101) (b := 98) rfl rfl (by decide) _
  have f8 : lineM kBlocked 1 (ok0 t3) = ([blockB r.blocked], ok0 [joinL [kQuiet, num r.quiet], joinL [kRepeat, num r.rep]]) := by
    rw [ht3]
    refine lineM_c rfl ?_
    simp only [List.mem_cons, List.not_mem_nil, or_false, forall_eq]
    exact blockB_wd _
  have e8 : g8 (ok0 (textLs r)) = (r.blocked, ok0 [joinL [kQuiet, num r.quiet], joinL [kRepeat, num r.rep]]) := by
    rw [g8, e7]
    simp only
    rw [f8]; exact choice_blk ok.b1 ok.b2 _
  have f9 : lineM kQuiet 1 (ok0 [joinL [kQuiet, num r.quiet], joinL [kRepeat, num r.rep]]) = ([num r.quiet], ok0 [joinL [kRepeat, num r.rep]]) := by
    refine lineM_c rfl ?_
    simp only [List.mem_cons, List.not_mem_nil, or_false, forall_eq]
    exact num_wd (by have := ok.q1; omega) ok.q2
  have e9 : g9 (ok0 (textLs r)) = (r.quiet, ok0 [joinL [kRepeat, num r.rep]]) := by
    rw [g9, e8]
    simp only
    rw [f9]; exact numM_c (by have := ok.q1; omega) ok.q2 _
  have fA : lineM kRepeat 1 (ok0 [joinL [kRepeat, num r.rep]]) = ([num r.rep], ok0 []) := by
    refine lineM_c rfl ?_
    simp only [List.mem_cons, List.not_mem_nil, or_false, forall_eq]
    exact num_wd (by have := ok.r1; omega) (by have := ok.r2; omega)
  have eA : gA (ok0 (textLs r)) = (r.rep, ok0 []) := by
    rw [gA, e9]
    simp only
    rw [fA]; exact numM_c (by have := ok.r1; omega) (by have := ok.r2; omega) _
  refine ⟨?_, by rw [eA]⟩
  rw [rulesM, e0, e1, e2, e3, e4, e5, e6, e7, e8, e9, eA]
  have : str (wd [r.name.data.toList, num r.width, num r.height] 0) = r.name := Lib.mk_data r.name
  simp only
  rw [this]
end Go.Proofs.YtomclohfppbegaaGreatDoor

set_option maxRecDepth 100000
namespace Go.Proofs.YtomclohfppbegaaGreatDoor
open Go

theorem cap_char {c : Int} (h : capB c = true ∨ digB c = true) : c ≠ 32 ∧ c ≠ 10 := by
  rcases h with h | h
  · rw [capB, inB_iff] at h; omega
  · rw [digB, inB_iff] at h; omega
theorem name_wd {l : (List UInt8)} (h : nameB l = true) : Wd l := by
  unfold nameB at h
  rw [Bool.and_eq_true, Bool.and_eq_true, List.all_eq_true] at h
  obtain ⟨_, _, h⟩ := h
  have k : ∀ x : UInt8, (x.toNat = 32 ∨ x.toNat = 10) → x ∉ l := by
    intro x hx hm
    obtain ⟨i, hi, e⟩ := List.getElem_of_mem hm
    have h2 := h i (by simpa using hi)
    rw [Bool.or_eq_true] at h2
    have h3 := cap_char h2
    have e2 : nb l i = (x.toNat : Int) := by
      unfold nb
      rw [List.getElem?_eq_getElem hi, e]; rfl
    rw [e2] at h3
    omega
  exact ⟨k 32 (.inl rfl), k 10 (.inr rfl)⟩
theorem piece_new {x : PieceD} {es : List PieceD} {n : Nat} (h : pieceE x es n = 0) : ∀ y ∈ es, y.letter ≠ x.letter := by
  unfold pieceE at h
  split at h
  · cases h
  · split at h
    · cases h
    · rename_i h2
      intro y hy e
      apply h2
      rw [List.any_eq_true]
      exact ⟨y, hy, by simpa using e⟩
theorem dist_of {ps : List PieceD} (h : piecesE ps = 0) : Dist ps := by
  have hn : ps.length ≠ 0 := by intro e; unfold piecesE at h; rw [if_pos e] at h; cases h
  have h6 : ¬ 6 < ps.length := by intro e; unfold piecesE at h; rw [if_neg hn, if_pos e] at h; cases h
  unfold piecesE at h
  rw [if_neg hn, if_neg h6] at h
  have key : ∀ (i j : Nat) (x y : PieceD), i < j → ps[i]? = some x → ps[j]? = some y → x.letter ≠ y.letter := by
    intro i j x y hij hx hy
    have h1 := goAll ps.length 0 h j y (Nat.zero_le _) (by have := (List.getElem?_eq_some_iff.1 hy).1; omega) hy
    refine piece_new h1 x ?_
    refine List.mem_of_getElem? (i := i) ?_
    rw [List.getElem?_take, if_pos hij, hx]
  intro i j x y hx hy e
  rcases Nat.lt_trichotomy i j with h1 | h1 | h1
  · exact absurd e (key i j x y h1 hx hy)
  · exact h1
  · exact absurd e.symm (key j i y x h1 hy hx)
theorem eFull_of {x : EndD} {n : Nat} (h : endE x n = 0) : EFull x := by
  unfold endE at h
  split at h
  · cases h
  · by_cases c2 : ((if x.kind = 1 then decide (x.count = 0) else inB x.count 1 64) && (if x.kind = 0 then decide (x.piece = 0) else inB x.piece 0 ((n : Int) - 1))) = true
    · rw [Bool.and_eq_true] at c2
      refine ⟨fun hk => ?_, fun hk => ?_⟩
      · have := c2.2; rw [if_pos hk] at this; exact of_decide_eq_true this
      · have := c2.1; rw [if_pos hk] at this; exact of_decide_eq_true this
    · rw [if_neg c2] at h; cases h
theorem rFull_of {r : RulesD} (h : rulesE r = 0) : RFull r := by
  obtain ⟨k1, _, _, k4, _, k6, _⟩ := rulesE_ok h
  have ok := rOk h
  refine ⟨ok, name_wd k1, fun x hx => (ok.ps x hx).1, dist_of k4, fun x hx => ?_⟩
  unfold endsE at k6
  rw [if_neg (by have := ok.e6; omega)] at k6
  exact eFull_of (endsAll k6 x hx)

/-! ### A text and its lines -/
theorem nl_join : ∀ {l : List (List UInt8)}, l ≠ [] → nl l = Lib.join l [10] ++ [10]
  | [], h => absurd rfl h
  | [x], _ => by simp [nl, Lib.join_one]
  | x :: y :: l, _ => by
    have ih := nl_join (l := y :: l) (by simp)
    have e : Lib.join (x :: y :: l) [10] = x ++ [10] ++ Lib.join (y :: l) [10] := by rw [Lib.join_cons, joinTail_cons, Lib.join_cons]; simp
    rw [nl_cons, ih, e]; simp only [List.append_assoc]
theorem suf_app (l : (List UInt8)) : Lib.hasSuffix (l ++ [10]) [10] = true ∧ Lib.trimSuffix (l ++ [10]) [10] = l := by
  have h : Lib.hasSuffix (l ++ [10]) [10] = true := by
    rw [Lib.hasSuffix, List.isSuffixOf_iff_suffix]; exact List.suffix_append _ _
  refine ⟨h, ?_⟩
  rw [Lib.trimSuffix, if_pos h]
  simp
theorem suf_of {s : (List UInt8)} (h : Lib.hasSuffix s [10] = true) : s = Lib.trimSuffix s [10] ++ [10] := by
  rw [Lib.hasSuffix, List.isSuffixOf_iff_suffix] at h
  obtain ⟨t, rfl⟩ := h
  rw [(suf_app t).2]
/-- The lines of a text. -/
def linesB (s : (List UInt8)) : List (List UInt8) := cutB 10 (Lib.trimSuffix s [10])
theorem lines_nl {s : (List UInt8)} (h : Lib.hasSuffix s [10] = true) : nl (linesB s) = s := by
  rw [linesB, nl_join (cutB_ne _ _), join_cut, ← suf_of h]
/-- What Parse does with a text: the error, and the rules where there is none. -/
def parseE (s : (List UInt8)) : Int :=
  if 8192 < s.length then 2
  else if (Lib.hasSuffix s [10] && (!(gA (ok0 (linesB s))).2.bad && decide ((gA (ok0 (linesB s))).2.ls.length = 0))) = true then rulesE (rulesM (ok0 (linesB s))) else 5
theorem not_true {b : Bool} (h : (!b) = true) : b = false := by cases b <;> simp_all
theorem rulesM_text0 (ls : List (List UInt8)) (hb : (gA (ok0 ls)).2.bad = false) (he : (gA (ok0 ls)).2.ls = []) : nl ls = textB (rulesM (ok0 ls)) := rulesM_text ls hb he
theorem parse_text {s : (List UInt8)} (h : parseE s = 0) : rulesE (rulesM (ok0 (linesB s))) = 0 ∧ textB (rulesM (ok0 (linesB s))) = s := by
  unfold parseE at h
  split at h
  · cases h
  · split at h
    · rename_i c
      rw [Bool.and_eq_true, Bool.and_eq_true] at c
      obtain ⟨c1, c2, c3⟩ := c
      refine ⟨h, ?_⟩
      have := rulesM_text0 (linesB s) (not_true c2) (List.length_eq_zero_iff.1 (of_decide_eq_true c3))
      rw [lines_nl c1] at this
      exact this.symm
    · cases h
theorem no_join {ws : List (List UInt8)} (h : ∀ w ∈ ws, 10 ∉ w) : (10 : UInt8) ∉ joinL ws := by
  cases ws with
  | nil => simp [joinL, Lib.join_nil]
  | cons a t =>
    rw [joinL, Lib.join_cons]
    simp only [Lib.joinTail, List.mem_append, List.mem_flatten, List.mem_map, not_or]
    refine ⟨h a (by simp), ?_⟩
    rintro ⟨l, ⟨w, hw, rfl⟩, hl⟩
    rw [List.mem_append] at hl
    rcases hl with hl | hl
    · exact absurd hl (by decide)
    · exact h w (List.mem_cons_of_mem _ hw) hl
theorem keys_no : (10 : UInt8) ∉ kWay ∧ (10 : UInt8) ∉ kPiece ∧ (10 : UInt8) ∉ kRow ∧ (10 : UInt8) ∉ kEL ∧ (10 : UInt8) ∉ kER ∧ (10 : UInt8) ∉ kET ∧ (10 : UInt8) ∉ kGame ∧ (10 : UInt8) ∉ kFalls ∧ (10 : UInt8) ∉ kKeeps ∧ (10 : UInt8) ∉ kBlocked ∧ (10 : UInt8) ∉ kQuiet ∧ (10 : UInt8) ∉ kRepeat := by decide
theorem text_lines {r : RulesD} (h : RFull r) : ∀ l ∈ textLs r, (10 : UInt8) ∉ l := by
  obtain ⟨ok, nm, hc, hd, he⟩ := h
  obtain ⟨z1, z2, z3, z4, z5, z6, z7, z8, z9, zA, zB, zC⟩ := keys_no
  have hn : ∀ v : Int, -7 ≤ v → v ≤ 200 → (10 : UInt8) ∉ num v := fun v h1 h2 => (num_wd h1 h2).2
  intro l hl
  unfold textLs at hl
  simp only [List.mem_cons, List.mem_append, List.not_mem_nil, or_false] at hl
  rcases hl with rfl | hl | hl | hl | hl | hl | rfl | rfl | rfl
  · apply no_join
    simp only [List.mem_cons, List.not_mem_nil, or_false, forall_eq_or_imp, forall_eq]
    exact ⟨z7, nm.2, hn _ (by have := ok.w1; omega) (by have := ok.w2; omega), hn _ (by have := ok.h1; omega) (by have := ok.h2; omega)⟩
  · unfold linesOf at hl
    rw [List.mem_flatten] at hl
    obtain ⟨m, hm, hl⟩ := hl
    rw [List.mem_map] at hm
    obtain ⟨x, hx, rfl⟩ := hm
    obtain ⟨p1, ⟨p2, p3⟩, _, _, pw⟩ := ok.ps x hx
    unfold pieceLn at hl
    rw [List.mem_cons] at hl
    rcases hl with rfl | hl
    · apply no_join
      simp only [List.mem_cons, List.not_mem_nil, or_false, forall_eq_or_imp, forall_eq]
      exact ⟨z2, (cap_wd p1).2, hn _ (by omega) (by omega), (toB_wd hc).2⟩
    · rw [List.mem_map] at hl
      obtain ⟨y, hy, rfl⟩ := hl
      obtain ⟨⟨a1, a2⟩, ⟨b1, b2⟩, ⟨c1, c2⟩, _⟩ := pw y hy
      apply no_join
      simp only [List.mem_cons, List.not_mem_nil, or_false, forall_eq_or_imp, forall_eq]
      exact ⟨z1, hn _ (by omega) (by omega), hn _ (by omega) (by omega), hn _ (by omega) (by omega), (takeB_wd _).2⟩
  · have key : ∀ y, y ≤ r.height.toNat → l ∈ rowsLn r.pieces r.start r.width.toNat y → (10 : UInt8) ∉ l := by
      intro y
      induction y with
      | zero => intro _ hm; cases hm
      | succ y ih =>
        intro hy hm
        rw [rowsLn, List.mem_cons] at hm
        rcases hm with rfl | hm
        · apply no_join
          simp only [List.mem_cons, List.not_mem_nil, or_false, forall_eq_or_imp, forall_eq]
          refine ⟨z3, ?_⟩
          unfold rowB
          simp only [List.mem_map, List.mem_range, not_exists, not_and]
          intro x hx
          have h1 := ok.sl
          have h2 := ok.w1
          have h3 := ok.h1
          have h4 : r.width = (r.width.toNat : Int) := by omega
          have h5 : r.height = (r.height.toNat : Int) := by omega
          rw [h4, h5, ← Int.natCast_mul] at h1
          have h6 : r.start.length = r.width.toNat * r.height.toNat := Int.ofNat.inj h1
          have h7 : (y + 1) * r.width.toNat ≤ r.height.toNat * r.width.toNat := Nat.mul_le_mul_right _ hy
          rw [Nat.add_mul, Nat.one_mul, Nat.mul_comm r.height.toNat] at h7
          have hk : y * r.width.toNat + x < r.start.length := by omega
          rw [List.getElem?_eq_getElem hk]
          have hb := ok.st _ (List.getElem_mem hk)
          exact (cellV_c hc hd hb.1 hb.2).2.2
        · exact ih (by omega) hm
    exact key _ (Nat.le_refl _) hl
  · split at hl
    · rw [List.mem_singleton] at hl; subst hl
      apply no_join
      simpa using z8
    · cases hl
  · split at hl
    · rw [List.mem_singleton] at hl; subst hl
      apply no_join
      simpa using z9
    · cases hl
  · rw [List.mem_map] at hl
    obtain ⟨x, hx, rfl⟩ := hl
    obtain ⟨_, _, c0, c1⟩ := ok.es x hx
    have hp : (10 : UInt8) ∉ pieceTx r.pieces x.piece := by
      unfold pieceTx
      split
      · rename_i y hy; exact (cap_wd (hc y (List.mem_of_getElem? hy))).2
      · simp
    unfold endLn
    split
    · apply no_join
      simp only [List.mem_cons, List.not_mem_nil, or_false, forall_eq_or_imp, forall_eq]
      exact ⟨z4, hn _ (by omega) (by omega), (howB_wd _).2⟩
    · split
      · apply no_join
        simp only [List.mem_cons, List.not_mem_nil, or_false, forall_eq_or_imp, forall_eq]
        exact ⟨z5, hp, (howB_wd _).2⟩
      · apply no_join
        simp only [List.mem_cons, List.not_mem_nil, or_false, forall_eq_or_imp, forall_eq]
        exact ⟨z6, hp, hn _ (by omega) (by omega), (howB_wd _).2⟩
  · apply no_join
    simp only [List.mem_cons, List.not_mem_nil, or_false, forall_eq_or_imp, forall_eq]
    exact ⟨zA, (blockB_wd _).2⟩
  · apply no_join
    simp only [List.mem_cons, List.not_mem_nil, or_false, forall_eq_or_imp, forall_eq]
    exact ⟨zB, hn _ (by have := ok.q1; omega) ok.q2⟩
  · apply no_join
    simp only [List.mem_cons, List.not_mem_nil, or_false, forall_eq_or_imp, forall_eq]
    exact ⟨zC, hn _ (by have := ok.r1; omega) (by have := ok.r2; omega)⟩
/-- THE TEXT OF GOOD RULES IS READ AS THESE RULES. -/
theorem parse_print {r : RulesD} (hr : rulesE r = 0) (hl : (textB r).length ≤ 8192) : parseE (textB r) = 0 ∧ rulesM (ok0 (linesB (textB r))) = r := by
  have h := rFull_of hr
  have hne : textLs r ≠ [] := by simp [textLs]
  have e : linesB (textB r) = textLs r := by
    rw [linesB, ← textLs_nl, nl_join hne, (suf_app _).2, cut_join hne (text_lines h)]
  have hs : Lib.hasSuffix (textB r) [10] = true := by rw [← textLs_nl, nl_join hne]; exact (suf_app _).1
  obtain ⟨h1, h2⟩ := rulesM_c h
  rw [parseE, if_neg (by omega), e, h2, h1]
  refine ⟨?_, rfl⟩
  rw [if_pos (by rw [hs]; rfl), hr]
end Go.Proofs.YtomclohfppbegaaGreatDoor
