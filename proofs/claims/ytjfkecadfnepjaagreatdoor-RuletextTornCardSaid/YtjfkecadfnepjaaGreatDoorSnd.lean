/- What a parser that found all well has read: words, ways, types of pieces. -/
import Derived.Test.YtjfkecadfnepjaaGreatDoorCutM
set_option maxRecDepth 100000
namespace Go.Proofs.YtjfkecadfnepjaaGreatDoor
open Go

/-! ### What a parser that found all well has read -/
/-- From s to t, the lines l have been read, and all was well. -/
def Rd (s : PS) (l : List (List UInt8)) (t : PS) : Prop := t.bad = false → s.bad = false ∧ s.ls = l ++ t.ls
theorem Rd.trans {s t u : PS} {l m : List (List UInt8)} (h : Rd s l t) (k : Rd t m u) : Rd s (l ++ m) u := fun hu => by
  obtain ⟨h1, h2⟩ := k hu
  obtain ⟨h3, h4⟩ := h h1
  exact ⟨h3, by rw [h4, h2, List.append_assoc]⟩
theorem Rd.refl (s : PS) : Rd s [] s := fun h => ⟨h, rfl⟩
theorem Rd.bad {s t : PS} {l : List (List UInt8)} (h : Rd s l t) (hs : t.bad = false) : s.bad = false := (h hs).1
theorem rd_fail (s t : PS) (l : List (List UInt8)) : Rd s l (failS t) := fun h => by cases h
theorem rd_nil {s t : PS} {l : List (List UInt8)} (h : Rd s [] t) (k : t.bad = false → l = []) : Rd s l t := fun ht => by
  rw [k ht]; exact h ht
theorem lineM_rd (k : (List UInt8)) (n : Nat) (s : PS) : Rd s [joinL (k :: (lineM k n s).1)] (lineM k n s).2 ∧ (lineM k n s).1.length = n := by
  unfold lineM
  split
  · rename_i hb
    split
    · rename_i hl
      refine ⟨fun _ => ?_, hl⟩
      unfold begM at hb
      rw [Bool.and_eq_true] at hb
      obtain ⟨h1, h2⟩ := hb
      refine ⟨by simpa using h1, ?_⟩
      match hs : s.ls, h2 with
      | [], h2 => cases h2
      | l :: r, h2 =>
        simp only [Lib.hasPrefix, List.isPrefixOf_iff_prefix] at h2
        simp only [List.headD_cons, List.tail_cons, List.singleton_append, List.cons.injEq, and_true]
        -- the line is the key and what is behind it
        have hlen : k.length ≤ l.length := by have := h2.length_le; simp at this; exact this
        have hk : l.take k.length = k := by
          have e1 := List.prefix_iff_eq_take.1 h2
          have e2 : (l ++ [32]).take (k ++ [32]).length = l.take k.length ++ (l.drop k.length ++ [32]).take 1 := by
            have : (k ++ [32] : (List UInt8)).length = k.length + 1 := by simp
            rw [this]
            conv => lhs; rw [show l ++ [32] = l.take k.length ++ (l.drop k.length ++ [32]) by rw [← List.append_assoc, List.take_append_drop]]
            rw [List.take_append, List.length_take, Nat.min_eq_left hlen, List.take_of_length_le (by rw [List.length_take]; omega)]
            congr 2; omega
          rw [e2] at e1
          have := congrArg (List.take k.length) e1
          rw [List.take_append_of_le_length (Nat.le_refl _), List.take_length, List.take_append_of_le_length (by rw [List.length_take]; omega), List.take_take, Nat.min_self] at this
          exact this.symm
        have hd : Lib.join ([] :: restW k l) [32] = l.drop k.length := by
          have hz : (cutB 32 (l.drop k.length)).headD [] = [] := by
            obtain ⟨t, ht⟩ := h2
            have hld : l.drop k.length ++ [32] = 32 :: t := by
              have : l ++ [32] = k ++ (l.drop k.length ++ [32]) := by
                conv => lhs; rw [← List.take_append_drop k.length l, hk]
                rw [List.append_assoc]
              rw [this, List.append_assoc] at ht
              simpa using (List.append_cancel_left ht).symm
            cases hq : l.drop k.length with
            | nil => rfl
            | cons a b =>
              rw [hq, List.cons_append] at hld
              obtain rfl := (List.cons.inj hld).1
              simp [cutB]
          have := join_cut 32 (l.drop k.length)
          rw [cut_split, hz] at this
          exact this
        rw [joinL, Lib.join_cons]
        rw [Lib.join_cons, List.nil_append] at hd
        rw [hd]
        conv => lhs; rw [← List.take_append_drop k.length l, hk]
    · exact ⟨fun h => (by cases h), by simp⟩
  · exact ⟨fun h => (by cases h), by simp⟩
theorem optM_rd (o : Option Int) (s : PS) : Rd s [] (optM o s).2 := by
  cases o with
  | none => exact rd_fail _ _ _
  | some v => exact Rd.refl s
theorem optM_ok {o : Option Int} {s : PS} (h : (optM o s).2.bad = false) : o = some (optM o s).1 := by
  cases o with
  | none => cases h
  | some v => rfl
theorem numV_some {w : (List UInt8)} {v : Int} (h : numV w = some v) : num v = w := by
  unfold numV at h
  split at h
  · split at h
    · rename_i e; injection h with h; rw [← h]; exact e
    · cases h
  · cases h
theorem numM_rd (w : (List UInt8)) (s : PS) : Rd s [] (numM w s).2 := optM_rd _ _
theorem numM_ok {w : (List UInt8)} {s : PS} (h : (numM w s).2.bad = false) : num (numM w s).1 = w := numV_some (optM_ok h)
theorem sideM_rd (w : (List UInt8)) (s : PS) : Rd s [] (sideM w s).2 := by
  unfold sideM
  split
  · exact numM_rd w s
  · exact rd_fail _ _ _
theorem sideM_ok {w : (List UInt8)} {s : PS} (h : (sideM w s).2.bad = false) : num (sideM w s).1 = w ∧ inB (sideM w s).1 1 8 = true := by
  unfold sideM at h ⊢
  split
  · rename_i hb; rw [if_pos hb] at h; exact ⟨numM_ok h, hb⟩
  · rename_i hb; rw [if_neg hb] at h; cases h
theorem idxV_some {α : Type} {p : α → Bool} {l : List α} {v : Int} (h : idxV p l = some v) : ∃ (i : Nat) (x : α), v = (i : Int) ∧ l[i]? = some x ∧ p x = true := by
  unfold idxV at h
  rw [Option.map_eq_some_iff] at h
  obtain ⟨i, hi, rfl⟩ := h
  rw [List.findIdx?_eq_some_iff_getElem] at hi
  obtain ⟨h1, h2, _⟩ := hi
  exact ⟨i, l[i], rfl, List.getElem?_eq_getElem h1, h2⟩
theorem choiceM_rd (w : (List UInt8)) (ws : List (List UInt8)) (s : PS) : Rd s [] (choiceM w ws s).2 := optM_rd _ _
theorem choiceM_ok {w : (List UInt8)} {ws : List (List UInt8)} {s : PS} (h : (choiceM w ws s).2.bad = false) : ∃ i : Nat, (choiceM w ws s).1 = (i : Int) ∧ ws[i]? = some w := by
  obtain ⟨i, x, h1, h2, h3⟩ := idxV_some (optM_ok h)
  exact ⟨i, h1, by rw [h2, beq_iff_eq.1 h3]⟩
theorem pieceM_rd (w : (List UInt8)) (ps : List PieceD) (s : PS) : Rd s [] (pieceM w ps s).2 := optM_rd _ _
theorem pieceM_ok {w : (List UInt8)} {ps : List PieceD} {s : PS} (h : (pieceM w ps s).2.bad = false) : ∃ (i : Nat) (x : PieceD), (pieceM w ps s).1 = (i : Int) ∧ ps[i]? = some x ∧ lettB x = w := by
  obtain ⟨i, x, h1, h2, h3⟩ := idxV_some (optM_ok h)
  exact ⟨i, x, h1, h2, beq_iff_eq.1 h3⟩
theorem cellM_rd (c : UInt8) (ps : List PieceD) (s : PS) : Rd s [] (cellM c ps s).2 := optM_rd _ _
/-- A type's letter is a byte. -/
def Fit (ps : List PieceD) : Prop := ∀ x ∈ ps, 0 ≤ x.letter ∧ x.letter ≤ 255
theorem cellGo_some {c : UInt8} : ∀ {ps : List PieceD} {i : Nat} {v : Int}, Fit ps → cellGo c ps i = some v → ∃ (j : Nat) (q : PieceD), ps[j]? = some q ∧ ((v = 2 * ((i + j : Nat) : Int) + 1 ∧ UInt8.ofNat q.letter.toNat = c) ∨ (v = 2 * ((i + j : Nat) : Int) + 2 ∧ UInt8.ofNat (q.letter.toNat + 32) = c))
  | [], i, v, _, h => by cases h
  | q :: ps, i, v, hf, h => by
    have hq := hf q (by simp)
    unfold cellGo at h
    split at h
    · rename_i e
      injection h with h
      refine ⟨0, q, rfl, .inl ⟨by rw [← h]; simp, ?_⟩⟩
      rw [← e, Int.toNat_natCast, UInt8.ofNat_toNat]
    · split at h
      · rename_i e
        injection h with h
        refine ⟨0, q, rfl, .inr ⟨by rw [← h]; simp, ?_⟩⟩
        apply UInt8.toNat_inj.1
        rw [UInt8.toNat_ofNat']
        have := e.2
        have := c.toNat_lt
        omega
      · obtain ⟨j, y, h1, h2⟩ := cellGo_some (fun x hx => hf x (List.mem_cons_of_mem _ hx)) h
        refine ⟨j + 1, y, by simpa using h1, ?_⟩
        have e : i + 1 + j = i + (j + 1) := by omega
        rw [e] at h2; exact h2
theorem cellM_ok {c : UInt8} {ps : List PieceD} {s : PS} (hf : Fit ps) (h : (cellM c ps s).2.bad = false) : cellB ps (cellM c ps s).1 = c := by
  have h1 := optM_ok h
  unfold cellM
  generalize (optM (cellV c ps) s).1 = v at h1 ⊢
  unfold cellV at h1
  split at h1
  · rename_i e
    injection h1 with h1
    rw [← h1, cellB, if_pos rfl, e]
  · obtain ⟨j, q, hq, ⟨hv, hc⟩ | ⟨hv, hc⟩⟩ := cellGo_some hf h1
    · rw [Nat.zero_add] at hv
      have e1 : ((v - 1) / 2).toNat = j := by omega
      rw [cellB, if_neg (by omega), e1, hq]
      simp only
      rw [if_pos (by omega), hc]
    · rw [Nat.zero_add] at hv
      have e1 : ((v - 1) / 2).toNat = j := by omega
      rw [cellB, if_neg (by omega), e1, hq]
      simp only
      rw [if_neg (by omega), hc]
theorem take_word {i : Nat} {w : (List UInt8)} (h : wTakes[i]? = some w) : takeB (i : Int) = w := by
  match i, h with
  | 0, h => exact Option.some.inj h
  | 1, h => exact Option.some.inj h
  | 2, h => exact Option.some.inj h
theorem blk_word {i : Nat} {w : (List UInt8)} (h : wBlk[i]? = some w) : blockB (i : Int) = w := by
  match i, h with
  | 0, h => exact Option.some.inj h
  | 1, h => exact Option.some.inj h
  | 2, h => exact Option.some.inj h
theorem how_word2 {i : Nat} {w : (List UInt8)} (h : wHow[i]? = some w) : howB (isOne (i : Int)) = w := by
  match i, h with
  | 0, h => exact Option.some.inj h
  | 1, h => exact Option.some.inj h

/-- The lines of a text, each without its end. -/
def nl (l : List (List UInt8)) : (List UInt8) := (l.map fun x => x ++ [10]).flatten
theorem nl_app (a b : List (List UInt8)) : nl (a ++ b) = nl a ++ nl b := by simp [nl]
theorem nl_one (ws : List (List UInt8)) : nl [joinL ws] = lineB ws := by simp [nl, joinL, lineB]
theorem nl_cons (x : (List UInt8)) (l : List (List UInt8)) : nl (x :: l) = x ++ [10] ++ nl l := by simp [nl]
def wayLn (x : WayD) : (List UInt8) := joinL [kWay, num x.dx, num x.dy, num x.most, takeB x.take]
theorem two_of {l : List (List UInt8)} (h : l.length = 2) : l = [wd l 0, wd l 1] := by
  match l, h with
  | [a, b], _ => rfl
theorem one_of {l : List (List UInt8)} (h : l.length = 1) : l = [wd l 0] := by
  match l, h with
  | [a], _ => rfl
theorem three_of {l : List (List UInt8)} (h : l.length = 3) : l = [wd l 0, wd l 1, wd l 2] := by
  match l, h with
  | [a, b, c], _ => rfl
theorem four_of {l : List (List UInt8)} (h : l.length = 4) : l = [wd l 0, wd l 1, wd l 2, wd l 3] := by
  match l, h with
  | [a, b, c, d], _ => rfl
theorem wayM_rd (s : PS) : Rd s [wayLn (wayM s).1] (wayM s).2 := by
  obtain ⟨hl, hn⟩ := lineM_rd kWay 4 s
  intro hb
  have b3 : (wayC s).2.bad = false := (choiceM_rd _ _ _).bad hb
  have b2 : (wayB2 s).2.bad = false := (numM_rd _ _).bad b3
  have b1 : (wayA s).2.bad = false := (numM_rd _ _).bad b2
  obtain ⟨i, e4, h4⟩ := choiceM_ok hb
  have h := (((hl.trans (numM_rd _ _)).trans (numM_rd _ _)).trans (numM_rd _ _)).trans (choiceM_rd _ wTakes _) hb
  refine ⟨h.1, h.2.trans ?_⟩
  have e : joinL (kWay :: (lineM kWay 4 s).1) = wayLn (wayM s).1 := by
    rw [four_of hn]
    show joinL [kWay, _, _, _, _] = joinL [kWay, num (wayA s).1, num (wayB2 s).1, num (wayC s).1, takeB (wayT s).1]
    have f1 : num (wayA s).1 = wd (lineM kWay 4 s).1 0 := numM_ok b1
    have f2 : num (wayB2 s).1 = wd (lineM kWay 4 s).1 1 := numM_ok b2
    have f3 : num (wayC s).1 = wd (lineM kWay 4 s).1 2 := numM_ok b3
    have f4 : takeB (wayT s).1 = wd (lineM kWay 4 s).1 3 := by rw [show (wayT s).1 = (i : Int) from e4]; exact take_word h4
    rw [f1, f2, f3, f4]
  rw [← e]; rfl
theorem waysGo_rd : ∀ (f : Nat) (s : PS), Rd s ((waysGo f s).1.map wayLn) (waysGo f s).2
  | 0, s => Rd.refl s
  | f + 1, s => by
    unfold waysGo
    split
    · exact (wayM_rd s).trans (waysGo_rd f _)
    · exact Rd.refl s
/-- The lines of a type with a word for what it changes into. -/
def pieceLn (x : PieceD) (to : (List UInt8)) : List (List UInt8) := joinL [kPiece, lettB x, num x.hand, to] :: x.ways.map wayLn
def psLn (l : List (PieceD × (List UInt8))) : List (List UInt8) := (l.map fun y => pieceLn y.1 y.2).flatten
theorem head_rd (s : PS) (h1 : (wd (headW s) 0).length = 1) : Rd s (pieceLn (headP s).1 (headP s).2) (headS s) := by
  obtain ⟨hl, hn⟩ := lineM_rd kPiece 3 s
  intro hb
  have b1 : (headN s).2.bad = false := (waysGo_rd _ _).bad hb
  have h := ((hl.trans (numM_rd (wd (headW s) 1) _)).trans (waysGo_rd (headN s).2.ls.length (headN s).2)) hb
  refine ⟨h.1, h.2.trans ?_⟩
  have e : joinL (kPiece :: (lineM kPiece 3 s).1) = joinL [kPiece, lettB (headP s).1, num (headP s).1.hand, (headP s).2] := by
    rw [three_of hn]
    have f1 : num (headN s).1 = wd (headW s) 1 := numM_ok b1
    have f0 : lettB (headP s).1 = wd (headW s) 0 := by
      match hw : wd (headW s) 0, h1 with
      | [c], _ => simp [lettB, headP, hw]
    rw [f0]
    show joinL [kPiece, wd (headW s) 0, wd (headW s) 1, wd (headW s) 2] = joinL [kPiece, wd (headW s) 0, num (headN s).1, wd (headW s) 2]
    rw [f1]
  rw [List.append_nil, e]; rfl
theorem psGo_rd : ∀ (f : Nat) (s : PS), Rd s (psLn (psGo f s).1) (psGo f s).2
  | 0, s => Rd.refl s
  | f + 1, s => by
    unfold psGo
    split
    · split
      · rename_i h1
        have := (head_rd s h1).trans (psGo_rd f _)
        simpa [psLn] using this
      · exact rd_fail _ _ _
    · exact Rd.refl s
theorem psGo_fit : ∀ (f : Nat) (s : PS), Fit ((psGo f s).1.map (·.1))
  | 0, s => by intro x hx; cases hx
  | f + 1, s => by
    unfold psGo
    split
    · split
      · intro x hx
        simp only [List.map_cons, List.mem_cons] at hx
        rcases hx with rfl | hx
        · exact ⟨Int.natCast_nonneg _, by show ((_ : Nat) : Int) ≤ 255; have := ((wd (headW s) 0)[0]?.getD 0).toNat_lt; omega⟩
        · exact psGo_fit f _ x hx
      · intro x hx; cases hx
    · intro x hx; cases hx
/-- Two lists of types have the same letters. -/
def SameL (ps qs : List PieceD) : Prop := ps.map (·.letter) = qs.map (·.letter)
theorem SameL.at {ps qs : List PieceD} (h : SameL ps qs) {i : Nat} {x : PieceD} (hx : ps[i]? = some x) : ∃ y, qs[i]? = some y ∧ y.letter = x.letter := by
  have h1 := congrArg (fun l => l[i]?) h
  simp only [List.getElem?_map, hx, Option.map_some] at h1
  obtain ⟨y, hy, e⟩ := Option.map_eq_some_iff.1 h1.symm
  exact ⟨y, hy, e⟩
theorem prom_same (ps : List PieceD) : ∀ (l : List (PieceD × (List UInt8))) (s : PS), SameL (l.map (·.1)) (promGo ps l s).1
  | [], _ => rfl
  | (x, to) :: l, s => by
    have := prom_same ps l (promI to ps s).2
    unfold SameL at this ⊢
    simp only [promGo, List.map_cons, List.map_map] at this ⊢
    rw [← this]
theorem promI_rd (to : (List UInt8)) (ps : List PieceD) (s : PS) : Rd s [] (promI to ps s).2 := by
  unfold promI
  split
  · exact Rd.refl s
  · exact pieceM_rd to ps s
theorem promI_ok {to : (List UInt8)} {ps qs : List PieceD} {s : PS} (hs : SameL ps qs) (h : (promI to ps s).2.bad = false) (x : PieceD) : toB qs ⟨x.letter, x.hand, (promI to ps s).1, x.ways⟩ = to := by
  unfold promI at h ⊢
  split
  · rename_i e; simp [toB, e]
  · rename_i e
    rw [if_neg e] at h
    obtain ⟨i, y, h1, h2, h3⟩ := pieceM_ok h
    obtain ⟨z, hz, hzl⟩ := hs.at h2
    have e1 : ((pieceM to ps s).1 + 1 - 1).toNat = i := by omega
    show toB qs ⟨x.letter, x.hand, (pieceM to ps s).1 + 1, x.ways⟩ = to
    rw [toB, if_pos (by show (pieceM to ps s).1 + 1 > 0; omega)]
    simp only
    rw [e1, hz]
    simp only [lettB, hzl]
    exact h3
theorem prom_rd (ps qs : List PieceD) (hs : SameL ps qs) : ∀ (l : List (PieceD × (List UInt8))) (s : PS), Rd s [] (promGo ps l s).2 ∧ ((promGo ps l s).2.bad = false → psLn l = ((promGo ps l s).1.map fun x => pieceLn x (toB qs x)).flatten)
  | [], s => ⟨Rd.refl s, fun _ => rfl⟩
  | (x, to) :: l, s => by
    obtain ⟨h1, h2⟩ := prom_rd ps qs hs l (promI to ps s).2
    refine ⟨(promI_rd to ps s).trans h1, fun hb => ?_⟩
    have hb1 : (promI to ps s).2.bad = false := h1.bad hb
    simp only [promGo, List.map_cons, List.flatten_cons, psLn]
    rw [← h2 hb, promI_ok hs hb1 x]
    rfl
theorem pieceLn_nl (ps : List PieceD) (x : PieceD) : nl (pieceLn x (toB ps x)) = pieceL ps x := by
  have hw : ∀ l : List WayD, nl (l.map wayLn) = waysL l := fun l => by
    induction l with
    | nil => rfl
    | cons a l ih => rw [List.map_cons, nl_cons, ih]; simp [waysL, wayL, wayLn, joinL, lineB, kWay]
  rw [pieceLn, nl_cons, hw]
  simp [pieceL, headL, joinL, lineB, kPiece]
theorem pieces_nl (ps : List PieceD) : ∀ l : List PieceD, nl ((l.map fun x => pieceLn x (toB ps x)).flatten) = piecesL ps l
  | [] => rfl
  | x :: l => by
    rw [List.map_cons, List.flatten_cons, nl_app, pieceLn_nl, pieces_nl ps l]
    simp [piecesL]
theorem piecesM_rd (s : PS) : Rd s (((piecesM s).1.map fun x => pieceLn x (toB (piecesM s).1 x)).flatten) (piecesM s).2 ∧ Fit (piecesM s).1 := by
  have hs : SameL ((psM s).1.map (·.1)) (piecesM s).1 := prom_same _ _ _
  obtain ⟨h1, h2⟩ := prom_rd ((psM s).1.map (·.1)) (piecesM s).1 hs (psM s).1 (psM s).2
  constructor
  · intro hb
    have h3 := ((psGo_rd s.ls.length s).trans h1) hb
    refine ⟨h3.1, h3.2.trans ?_⟩
    rw [List.append_nil]
    show psLn (psM s).1 ++ _ = _
    rw [h2 hb]; rfl
  · have hf : Fit ((psM s).1.map (·.1)) := psGo_fit _ s
    intro x hx
    obtain ⟨i, hi⟩ := List.getElem?_of_mem hx
    obtain ⟨y, hy, e⟩ := SameL.at (hs.symm) hi
    rw [← e]
    exact hf y (List.mem_of_getElem? hy)
end Go.Proofs.YtjfkecadfnepjaaGreatDoor
