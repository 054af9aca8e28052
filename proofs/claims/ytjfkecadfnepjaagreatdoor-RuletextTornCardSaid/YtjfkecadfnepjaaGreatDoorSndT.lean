/- What a parser that found all well has read: rows, conditions, and all of it. -/
import Derived.Test.YtjfkecadfnepjaaGreatDoorSnd
set_option maxRecDepth 100000
namespace Go.Proofs.YtjfkecadfnepjaaGreatDoor
open Go

/-! ### Rows, conditions, and all of it -/
theorem rowGo_rd (ps : List PieceD) : ∀ (l : (List UInt8)) (i : Nat) (cs : List Int) (s : PS), Rd s [] (rowGo ps l i cs s).2
  | [], _, _, s => Rd.refl s
  | c :: l, _, _, s => (cellM_rd c ps s).trans (rowGo_rd ps l _ _ _)
theorem rowGo_len (ps : List PieceD) : ∀ (l : (List UInt8)) (i : Nat) (cs : List Int) (s : PS), (rowGo ps l i cs s).1.length = cs.length
  | [], _, _, _ => rfl
  | c :: l, i, cs, s => by rw [rowGo, rowGo_len ps l]; simp
theorem rowGo_other (ps : List PieceD) : ∀ (l : (List UInt8)) (i : Nat) (cs : List Int) (s : PS) (k : Nat), k < i ∨ i + l.length ≤ k → (rowGo ps l i cs s).1[k]? = cs[k]?
  | [], _, _, _, _, _ => rfl
  | c :: l, i, cs, s, k, hk => by
    rw [List.length_cons] at hk
    rw [rowGo, rowGo_other ps l _ _ _ k (by omega), List.getElem?_set_ne (by omega)]
theorem rowGo_at {ps : List PieceD} (hf : Fit ps) : ∀ (l : (List UInt8)) (i : Nat) (cs : List Int) (s : PS), (rowGo ps l i cs s).2.bad = false → i + l.length ≤ cs.length → ∀ j c, l[j]? = some c → cellB ps ((rowGo ps l i cs s).1[i + j]?.getD 0) = c
  | [], _, _, _, _, _, j, c, h => by cases h
  | a :: l, i, cs, s, hb, hl, j, c, h => by
    rw [List.length_cons] at hl
    have hb1 : (cellM a ps s).2.bad = false := (rowGo_rd ps l _ _ _).bad hb
    match j, h with
    | 0, h =>
      obtain rfl := Option.some.inj h
      rw [rowGo, rowGo_other ps l _ _ _ _ (by omega), Nat.add_zero, List.getElem?_set_self (by omega)]
      exact cellM_ok hf hb1
    | j + 1, h =>
      have := rowGo_at hf l (i + 1) (cs.set i (cellM a ps s).1) (cellM a ps s).2 hb (by simp; omega) j c h
      rw [rowGo]
      rw [show i + (j + 1) = i + 1 + j by omega]
      exact this
def rowLn (ps : List PieceD) (st : List Int) (W y : Nat) : (List UInt8) := joinL [kRow, rowB ps st W y]
def rowsLn (ps : List PieceD) (st : List Int) (W : Nat) : Nat → List (List UInt8)
  | 0 => []
  | k + 1 => rowLn ps st W k :: rowsLn ps st W k
theorem rowsGo_len (ps : List PieceD) (W : Nat) : ∀ (y : Nat) (cs : List Int) (s : PS), (rowsGo ps W y cs s).1.length = cs.length
  | 0, _, _ => rfl
  | y + 1, cs, s => by
    unfold rowsGo
    split
    · rw [rowsGo_len ps W y, rowGo_len]
    · rfl
theorem rowsGo_other (ps : List PieceD) (W : Nat) : ∀ (y : Nat) (cs : List Int) (s : PS) (k : Nat), y * W ≤ k → (rowsGo ps W y cs s).1[k]? = cs[k]?
  | 0, _, _, _, _ => rfl
  | y + 1, cs, s, k, hk => by
    rw [Nat.add_mul, Nat.one_mul] at hk
    unfold rowsGo
    split
    · rename_i hl
      rw [rowsGo_other ps W y _ _ k (by omega), rowGo_other ps _ _ _ _ k (by rw [hl]; omega)]
    · rfl
theorem rowsGo_rd {ps : List PieceD} (hf : Fit ps) (W : Nat) : ∀ (y : Nat) (cs : List Int) (s : PS), y * W ≤ cs.length → Rd s (rowsLn ps (rowsGo ps W y cs s).1 W y) (rowsGo ps W y cs s).2
  | 0, _, s, _ => Rd.refl s
  | y + 1, cs, s, hl => by
    rw [Nat.add_mul, Nat.one_mul] at hl
    unfold rowsGo
    split
    · rename_i hw
      obtain ⟨h1, h2⟩ := lineM_rd kRow 1 s
      have h3 := rowGo_rd ps (wd (lineM kRow 1 s).1 0) (y * W) cs (lineM kRow 1 s).2
      have h4 := rowsGo_rd hf W y (rowGo ps (wd (lineM kRow 1 s).1 0) (y * W) cs (lineM kRow 1 s).2).1 (rowGo ps (wd (lineM kRow 1 s).1 0) (y * W) cs (lineM kRow 1 s).2).2 (by rw [rowGo_len]; omega)
      intro hb
      have hb3 := h4.bad hb
      have h := ((h1.trans h3).trans h4) hb
      refine ⟨h.1, h.2.trans ?_⟩
      have e : joinL (kRow :: (lineM kRow 1 s).1) = rowLn ps (rowsGo ps W y (rowGo ps (wd (lineM kRow 1 s).1 0) (y * W) cs (lineM kRow 1 s).2).1 (rowGo ps (wd (lineM kRow 1 s).1 0) (y * W) cs (lineM kRow 1 s).2).2).1 W y := by
        rw [one_of h2, rowLn]
        congr 2
        simp only [List.cons.injEq, and_true]
        apply List.ext_getElem?
        intro j
        unfold rowB
        by_cases hj : j < W
        · have hc : (wd (lineM kRow 1 s).1 0)[j]? = some ((wd (lineM kRow 1 s).1 0)[j]'(by omega)) := List.getElem?_eq_getElem _
          have h5 := rowGo_at hf (wd (lineM kRow 1 s).1 0) (y * W) cs (lineM kRow 1 s).2 hb3 (by omega) j _ hc
          rw [show wd [wd (lineM kRow 1 s).1 0] 0 = wd (lineM kRow 1 s).1 0 from rfl, hc]
          simp only [List.getElem?_map, List.getElem?_range hj, Option.map_some]
          rw [rowsGo_other ps W y _ _ _ (by omega), h5]
        · rw [show wd [wd (lineM kRow 1 s).1 0] 0 = wd (lineM kRow 1 s).1 0 from rfl, List.getElem?_eq_none (by omega), List.getElem?_eq_none (by simp; omega)]
      rw [e, List.append_nil]
      rfl
    · exact rd_fail _ _ _
theorem rowsLn_nl (ps : List PieceD) (st : List Int) (W : Nat) : ∀ y, nl (rowsLn ps st W y) = rowsL ps st W y
  | 0 => rfl
  | y + 1 => by
    rw [rowsLn, nl_cons, rowsLn_nl ps st W y, rowsL]
    simp [rowL, rowLn, joinL, lineB, kRow]
theorem flagM_rd (k : (List UInt8)) (s : PS) : Rd s (if (flagM k s).1 then [joinL [k]] else []) (flagM k s).2 := by
  unfold flagM
  split
  · obtain ⟨h1, h2⟩ := lineM_rd k 0 s
    have : (lineM k 0 s).1 = [] := List.length_eq_zero_iff.1 h2
    rw [this] at h1
    simpa using h1
  · simpa using Rd.refl s
def endLn (ps : List PieceD) (x : EndD) : (List UInt8) :=
  if x.kind = 0 then joinL [kEL, num x.count, howB x.loses] else if x.kind = 1 then joinL [kER, pieceOf ps x.piece, howB x.loses] else joinL [kET, pieceOf ps x.piece, num x.count, howB x.loses]
theorem endLn_nl (ps : List PieceD) (x : EndD) : endLn ps x ++ [10] = endL ps x := by
  unfold endLn endL
  split
  · rfl
  · split <;> rfl
theorem piece_of {w : (List UInt8)} {ps : List PieceD} {s : PS} (h : (pieceM w ps s).2.bad = false) : pieceOf ps (pieceM w ps s).1 = w := by
  obtain ⟨i, x, h1, h2, h3⟩ := pieceM_ok h
  rw [pieceOf, h1, Int.toNat_natCast, h2]
  exact h3
theorem how_of {w : (List UInt8)} {s : PS} (h : (choiceM w wHow s).2.bad = false) : howB (isOne (choiceM w wHow s).1) = w := by
  obtain ⟨i, h1, h2⟩ := choiceM_ok h
  rw [h1]; exact how_word2 h2
theorem elM_rd (ps : List PieceD) (s : PS) : Rd s [endLn ps (elM s).1] (elM s).2 := by
  obtain ⟨hl, hn⟩ := lineM_rd kEL 2 s
  intro hb
  have b1 := (choiceM_rd _ wHow _).bad hb
  have h := ((hl.trans (numM_rd _ _)).trans (choiceM_rd _ wHow _)) hb
  refine ⟨h.1, h.2.trans ?_⟩
  have f1 := numM_ok b1
  have f2 := how_of hb
  have e : joinL (kEL :: (lineM kEL 2 s).1) = endLn ps (elM s).1 := by
    rw [endLn, if_pos (show (elM s).1.kind = 0 from rfl), two_of hn]
    simp only [elM]
    rw [f1, f2]
  rw [e]; rfl
theorem erM_rd (ps : List PieceD) (s : PS) : Rd s [endLn ps (erM ps s).1] (erM ps s).2 := by
  obtain ⟨hl, hn⟩ := lineM_rd kER 2 s
  intro hb
  have b1 := (choiceM_rd _ wHow _).bad hb
  have h := ((hl.trans (pieceM_rd _ ps _)).trans (choiceM_rd _ wHow _)) hb
  refine ⟨h.1, h.2.trans ?_⟩
  have f1 := piece_of b1
  have f2 := how_of hb
  have e : joinL (kER :: (lineM kER 2 s).1) = endLn ps (erM ps s).1 := by
    rw [endLn, if_neg (by simp [erM]), if_pos (show (erM ps s).1.kind = 1 from rfl), two_of hn]
    simp only [erM]
    rw [f1, f2]
  rw [e]; rfl
theorem etM_rd (ps : List PieceD) (s : PS) : Rd s [endLn ps (etM ps s).1] (etM ps s).2 := by
  obtain ⟨hl, hn⟩ := lineM_rd kET 3 s
  intro hb
  have b2 : (etN ps s).2.bad = false := (choiceM_rd _ wHow _).bad hb
  have b1 : (etP ps s).2.bad = false := (numM_rd _ _).bad b2
  have h := (((hl.trans (pieceM_rd _ ps _)).trans (numM_rd _ _)).trans (choiceM_rd _ wHow _)) hb
  refine ⟨h.1, h.2.trans ?_⟩
  have f0 : pieceOf ps (etP ps s).1 = _ := piece_of b1
  have f1 : num (etN ps s).1 = _ := numM_ok b2
  have f2 : howB (isOne (etH ps s).1) = _ := how_of hb
  have e : joinL (kET :: (lineM kET 3 s).1) = endLn ps (etM ps s).1 := by
    rw [endLn, if_neg (by simp [etM]), if_neg (by simp [etM]), three_of hn]
    simp only [etM]
    rw [f0, f1, f2]
  rw [e]; rfl
theorem endM_rd (ps : List PieceD) (s : PS) : Rd s [endLn ps (endM ps s).1] (endM ps s).2 := by
  unfold endM
  split
  · exact elM_rd ps s
  · split
    · exact erM_rd ps s
    · exact etM_rd ps s
theorem endsGoM_rd (ps : List PieceD) : ∀ (f : Nat) (s : PS), Rd s ((endsGoM ps f s).1.map (endLn ps)) (endsGoM ps f s).2
  | 0, s => Rd.refl s
  | f + 1, s => by
    unfold endsGoM
    split
    · exact (endM_rd ps s).trans (endsGoM_rd ps f _)
    · exact Rd.refl s
theorem ends_nl (ps : List PieceD) : ∀ l : List EndD, nl (l.map (endLn ps)) = endsL ps l
  | [] => rfl
  | x :: l => by
    rw [List.map_cons, nl_cons, endLn_nl, ends_nl ps l]; simp [endsL]
theorem oneM_rd (k : (List UInt8)) (s : PS) : Rd s [joinL [k, wd (lineM k 1 s).1 0]] (lineM k 1 s).2 := by
  obtain ⟨h1, h2⟩ := lineM_rd k 1 s
  rw [one_of h2] at h1
  exact h1
theorem side_nat {w : (List UInt8)} {s : PS} (h : (sideM w s).2.bad = false) : num (sideM w s).1 = w ∧ 1 ≤ (sideM w s).1 ∧ (sideM w s).1 ≤ 8 := by
  obtain ⟨h1, h2⟩ := sideM_ok h
  rw [inB_iff] at h2
  exact ⟨h1, h2.1, h2.2⟩
theorem flag_nl (k : (List UInt8)) (b : Bool) : nl (if b then [joinL [k]] else []) = if b then lineB [k] else [] := by
  cases b
  · rfl
  · exact nl_one _
/-- WHAT IS READ HAS THIS TEXT. -/
theorem rulesM_text (ls : List (List UInt8)) (hb : (gA ⟨ls, false⟩).2.bad = false) (he : (gA ⟨ls, false⟩).2.ls = []) : nl ls = textB (rulesM ⟨ls, false⟩) := by
  obtain ⟨s, hs⟩ : ∃ s : PS, s = ⟨ls, false⟩ := ⟨_, rfl⟩
  rw [← hs] at hb he ⊢
  obtain ⟨hl, hn⟩ := lineM_rd kGame 3 s
  have r9 : Rd (g9 s).2 _ (gA s).2 := (oneM_rd kRepeat _).trans (numM_rd _ _)
  have b9 := r9.bad hb
  have r8 : Rd (g8 s).2 _ (g9 s).2 := (oneM_rd kQuiet _).trans (numM_rd _ _)
  have b8 := r8.bad b9
  have r7 : Rd (g7 s).2 _ (g8 s).2 := (oneM_rd kBlocked _).trans (choiceM_rd _ wBlk _)
  have b7 := r7.bad b8
  have r6 : Rd (g6 s).2 _ (g7 s).2 := endsGoM_rd (g3 s).1 _ _
  have b6 := r6.bad b7
  have r5 : Rd (g5 s).2 _ (g6 s).2 := flagM_rd kKeeps _
  have b5 := r5.bad b6
  have r4 : Rd (g4 s).2 _ (g5 s).2 := flagM_rd kFalls _
  have b4 := r4.bad b5
  obtain ⟨p1, p2⟩ := piecesM_rd (g2 s).2
  have r3 : Rd (g3 s).2 _ (g4 s).2 := rowsGo_rd p2 (g1 s).1.toNat (g2 s).1.toNat (List.replicate ((g1 s).1.toNat * (g2 s).1.toNat) 0) (g3 s).2 (by rw [List.length_replicate, Nat.mul_comm]; exact Nat.le_refl _)
  have b3 := r3.bad b4
  have r2 : Rd (g2 s).2 _ (g3 s).2 := p1
  have b2 := r2.bad b3
  have r1 : Rd (g1 s).2 [] (g2 s).2 := sideM_rd _ _
  have b1 := r1.bad b2
  have r0 : Rd (g0 s).2 [] (g1 s).2 := sideM_rd _ _
  have all := ((((((((((hl.trans r0).trans r1).trans r2).trans r3).trans r4).trans r5).trans r6).trans r7).trans r8).trans r9) hb
  have h1 := all.2
  have els : s.ls = ls := by rw [hs]
  rw [els, he] at h1
  obtain ⟨w1, w2, w3⟩ := side_nat (show (sideM (wd (g0 s).1 1) (g0 s).2).2.bad = false from b1)
  obtain ⟨v1, v2, v3⟩ := side_nat (show (sideM (wd (g0 s).1 2) (g1 s).2).2.bad = false from b2)
  have f9 : num (gA s).1 = wd (lineM kRepeat 1 (g9 s).2).1 0 := numM_ok hb
  have f8 : num (g9 s).1 = wd (lineM kQuiet 1 (g8 s).2).1 0 := numM_ok b9
  obtain ⟨i, e7, h7⟩ := choiceM_ok (show (choiceM (wd (lineM kBlocked 1 (g7 s).2).1 0) wBlk (lineM kBlocked 1 (g7 s).2).2).2.bad = false from b8)
  have f7 : blockB (g8 s).1 = wd (lineM kBlocked 1 (g7 s).2).1 0 := by rw [show (g8 s).1 = (i : Int) from e7]; exact blk_word h7
  rw [h1]
  simp only [nl_app]
  rw [rowsLn_nl, ends_nl, flag_nl, flag_nl, pieces_nl]
  have e0 : (g0 s).1 = [wd (g0 s).1 0, wd (g0 s).1 1, wd (g0 s).1 2] := three_of hn
  show nl [joinL (kGame :: (g0 s).1)] ++ _ ++ _ ++ _ ++ _ ++ _ ++ _ ++ _ ++ _ ++ _ ++ _ ++ _ = _
  rw [e0, nl_one, nl_one, nl_one, nl_one, ← f9, ← f8, ← f7, ← w1, ← v1]
  have n0 : nl [] = [] := rfl
  simp only [n0, List.append_nil]
  rfl
end Go.Proofs.YtjfkecadfnepjaaGreatDoor
