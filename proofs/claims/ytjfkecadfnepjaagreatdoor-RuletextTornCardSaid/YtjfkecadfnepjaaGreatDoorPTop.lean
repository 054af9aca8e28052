/- A text and its lines: what Parse answers, and that it undoes Print and Print undoes it. -/
import Derived.Test.YtjfkecadfnepjaaGreatDoorCmpT
set_option maxRecDepth 100000
namespace Go.Proofs.YtjfkecadfnepjaaGreatDoor
open Go

theorem cap_char {c : Int} (h : capB c = true ∨ digB c = true) : c ≠ 32 ∧ c ≠ 10 := by
  rcases h with h | h
  · rw [capB, inB_iff] at h; omega
  · rw [digB, inB_iff] at h; omega
theorem name_wd {l : (List UInt8)} (h : nameB l = true) : Wd l := by
  unfold nameB at h
  rw [Bool.and_eq_true, Bool.and_eq_true, List.all_eq_true] at h
  obtain ⟨_, _, h⟩ := h
  have k : ∀ x : UInt8, (x.toNat = 32 ∨ x.toNat = 10) → x ∉ l := by
    intro x hx hm
    obtain ⟨i, hi, e⟩ := List.getElem_of_mem hm
    have h2 := h i (by simpa using hi)
    rw [Bool.or_eq_true] at h2
    have h3 := cap_char h2
    have e2 : nb l i = (x.toNat : Int) := by
      unfold nb
      rw [List.getElem?_eq_getElem hi, e]; rfl
    rw [e2] at h3
    omega
  exact ⟨k 32 (.inl rfl), k 10 (.inr rfl)⟩
theorem piece_new {x : PieceD} {es : List PieceD} {n : Nat} (h : pieceE x es n = 0) : ∀ y ∈ es, y.letter ≠ x.letter := by
  unfold pieceE at h
  split at h
  · cases h
  · split at h
    · cases h
    · rename_i h2
      intro y hy e
      apply h2
      rw [List.any_eq_true]
      exact ⟨y, hy, by simpa using e⟩
theorem dist_of {ps : List PieceD} (h : piecesE ps = 0) : Dist ps := by
  have hn : ps.length ≠ 0 := by intro e; unfold piecesE at h; rw [if_pos e] at h; cases h
  have h6 : ¬ 6 < ps.length := by intro e; unfold piecesE at h; rw [if_neg hn, if_pos e] at h; cases h
  unfold piecesE at h
  rw [if_neg hn, if_neg h6] at h
  have key : ∀ (i j : Nat) (x y : PieceD), i < j → ps[i]? = some x → ps[j]? = some y → x.letter ≠ y.letter := by
    intro i j x y hij hx hy
    have h1 := goAll ps.length 0 h j y (Nat.zero_le _) (by have := (List.getElem?_eq_some_iff.1 hy).1; omega) hy
    refine piece_new h1 x ?_
    refine List.mem_of_getElem? (i := i) ?_
    rw [List.getElem?_take, if_pos hij, hx]
  intro i j x y hx hy e
  rcases Nat.lt_trichotomy i j with h1 | h1 | h1
  · exact absurd e (key i j x y h1 hx hy)
  · exact h1
  · exact absurd e.symm (key j i y x h1 hy hx)
theorem eFull_of {x : EndD} {n : Nat} (h : endE x n = 0) : EFull x := by
  unfold endE at h
  split at h
  · cases h
  · by_cases c2 : ((if x.kind = 1 then decide (x.count = 0) else inB x.count 1 64) && (if x.kind = 0 then decide (x.piece = 0) else inB x.piece 0 ((n : Int) - 1))) = true
    · rw [Bool.and_eq_true] at c2
      refine ⟨fun hk => ?_, fun hk => ?_⟩
      · have := c2.2; rw [if_pos hk] at this; exact of_decide_eq_true this
      · have := c2.1; rw [if_pos hk] at this; exact of_decide_eq_true this
    · rw [if_neg c2] at h; cases h
theorem rFull_of {r : RulesD} (h : rulesE r = 0) : RFull r := by
  obtain ⟨k1, _, _, k4, _, k6, _⟩ := rulesE_ok h
  have ok := rOk h
  refine ⟨ok, name_wd k1, fun x hx => (ok.ps x hx).1, dist_of k4, fun x hx => ?_⟩
  unfold endsE at k6
  rw [if_neg (by have := ok.e6; omega)] at k6
  exact eFull_of (endsAll k6 x hx)

/-! ### A text and its lines -/
theorem nl_join : ∀ {l : List (List UInt8)}, l ≠ [] → nl l = Lib.join l [10] ++ [10]
  | [], h => absurd rfl h
  | [x], _ => by simp [nl, Lib.join_one]
  | x :: y :: l, _ => by
    have ih := nl_join (l := y :: l) (by simp)
    have e : Lib.join (x :: y :: l) [10] = x ++ [10] ++ Lib.join (y :: l) [10] := by rw [Lib.join_cons, joinTail_cons, Lib.join_cons]; simp
    rw [nl_cons, ih, e]; simp only [List.append_assoc]
theorem suf_app (l : (List UInt8)) : Lib.hasSuffix (l ++ [10]) [10] = true ∧ Lib.trimSuffix (l ++ [10]) [10] = l := by
  have h : Lib.hasSuffix (l ++ [10]) [10] = true := by
    rw [Lib.hasSuffix, List.isSuffixOf_iff_suffix]; exact List.suffix_append _ _
  refine ⟨h, ?_⟩
  rw [Lib.trimSuffix, if_pos h]
  simp
theorem suf_of {s : (List UInt8)} (h : Lib.hasSuffix s [10] = true) : s = Lib.trimSuffix s [10] ++ [10] := by
  rw [Lib.hasSuffix, List.isSuffixOf_iff_suffix] at h
  obtain ⟨t, rfl⟩ := h
  rw [(suf_app t).2]
/-- The lines of a text. -/
def linesB (s : (List UInt8)) : List (List UInt8) := cutB 10 (Lib.trimSuffix s [10])
theorem lines_nl {s : (List UInt8)} (h : Lib.hasSuffix s [10] = true) : nl (linesB s) = s := by
  rw [linesB, nl_join (cutB_ne _ _), join_cut, ← suf_of h]
/-- What Parse does with a text: the error, and the rules where there is none. -/
def parseE (s : (List UInt8)) : Int :=
  if 8192 < s.length then 2
  else if (Lib.hasSuffix s [10] && (!(gA (ok0 (linesB s))).2.bad && decide ((gA (ok0 (linesB s))).2.ls.length = 0))) = true then rulesE (rulesM (ok0 (linesB s))) else 5
theorem not_true {b : Bool} (h : (!b) = true) : b = false := by cases b <;> simp_all
theorem rulesM_text0 (ls : List (List UInt8)) (hb : (gA (ok0 ls)).2.bad = false) (he : (gA (ok0 ls)).2.ls = []) : nl ls = textB (rulesM (ok0 ls)) := rulesM_text ls hb he
theorem parse_text {s : (List UInt8)} (h : parseE s = 0) : rulesE (rulesM (ok0 (linesB s))) = 0 ∧ textB (rulesM (ok0 (linesB s))) = s := by
  unfold parseE at h
  split at h
  · cases h
  · split at h
    · rename_i c
      rw [Bool.and_eq_true, Bool.and_eq_true] at c
      obtain ⟨c1, c2, c3⟩ := c
      refine ⟨h, ?_⟩
      have := rulesM_text0 (linesB s) (not_true c2) (List.length_eq_zero_iff.1 (of_decide_eq_true c3))
      rw [lines_nl c1] at this
      exact this.symm
    · cases h
theorem no_join {ws : List (List UInt8)} (h : ∀ w ∈ ws, 10 ∉ w) : (10 : UInt8) ∉ joinL ws := by
  cases ws with
  | nil => simp [joinL, Lib.join_nil]
  | cons a t =>
    rw [joinL, Lib.join_cons]
    simp only [Lib.joinTail, List.mem_append, List.mem_flatten, List.mem_map, not_or]
    refine ⟨h a (by simp), ?_⟩
    rintro ⟨l, ⟨w, hw, rfl⟩, hl⟩
    rw [List.mem_append] at hl
    rcases hl with hl | hl
    · exact absurd hl (by decide)
    · exact h w (List.mem_cons_of_mem _ hw) hl
theorem keys_no : (10 : UInt8) ∉ kWay ∧ (10 : UInt8) ∉ kPiece ∧ (10 : UInt8) ∉ kRow ∧ (10 : UInt8) ∉ kEL ∧ (10 : UInt8) ∉ kER ∧ (10 : UInt8) ∉ kET ∧ (10 : UInt8) ∉ kGame ∧ (10 : UInt8) ∉ kFalls ∧ (10 : UInt8) ∉ kKeeps ∧ (10 : UInt8) ∉ kBlocked ∧ (10 : UInt8) ∉ kQuiet ∧ (10 : UInt8) ∉ kRepeat := by decide
theorem text_lines {r : RulesD} (h : RFull r) : ∀ l ∈ textLs r, (10 : UInt8) ∉ l := by
  obtain ⟨ok, nm, hc, hd, he⟩ := h
  obtain ⟨z1, z2, z3, z4, z5, z6, z7, z8, z9, zA, zB, zC⟩ := keys_no
  have hn : ∀ v : Int, -7 ≤ v → v ≤ 200 → (10 : UInt8) ∉ num v := fun v h1 h2 => (num_wd h1 h2).2
  intro l hl
  unfold textLs at hl
  simp only [List.mem_cons, List.mem_append, List.not_mem_nil, or_false] at hl
  rcases hl with rfl | hl | hl | hl | hl | hl | rfl | rfl | rfl
  · apply no_join
    simp only [List.mem_cons, List.not_mem_nil, or_false, forall_eq_or_imp, forall_eq]
    exact ⟨z7, nm.2, hn _ (by have := ok.w1; omega) (by have := ok.w2; omega), hn _ (by have := ok.h1; omega) (by have := ok.h2; omega)⟩
  · unfold linesOf at hl
    rw [List.mem_flatten] at hl
    obtain ⟨m, hm, hl⟩ := hl
    rw [List.mem_map] at hm
    obtain ⟨x, hx, rfl⟩ := hm
    obtain ⟨p1, ⟨p2, p3⟩, _, _, pw⟩ := ok.ps x hx
    unfold pieceLn at hl
    rw [List.mem_cons] at hl
    rcases hl with rfl | hl
    · apply no_join
      simp only [List.mem_cons, List.not_mem_nil, or_false, forall_eq_or_imp, forall_eq]
      exact ⟨z2, (cap_wd p1).2, hn _ (by omega) (by omega), (toB_wd hc).2⟩
    · rw [List.mem_map] at hl
      obtain ⟨y, hy, rfl⟩ := hl
      obtain ⟨⟨a1, a2⟩, ⟨b1, b2⟩, ⟨c1, c2⟩, _⟩ := pw y hy
      apply no_join
      simp only [List.mem_cons, List.not_mem_nil, or_false, forall_eq_or_imp, forall_eq]
      exact ⟨z1, hn _ (by omega) (by omega), hn _ (by omega) (by omega), hn _ (by omega) (by omega), (takeB_wd _).2⟩
  · have key : ∀ y, y ≤ r.height.toNat → l ∈ rowsLn r.pieces r.start r.width.toNat y → (10 : UInt8) ∉ l := by
      intro y
      induction y with
      | zero => intro _ hm; cases hm
      | succ y ih =>
        intro hy hm
        rw [rowsLn, List.mem_cons] at hm
        rcases hm with rfl | hm
        · apply no_join
          simp only [List.mem_cons, List.not_mem_nil, or_false, forall_eq_or_imp, forall_eq]
          refine ⟨z3, ?_⟩
          unfold rowB
          simp only [List.mem_map, List.mem_range, not_exists, not_and]
          intro x hx
          have h1 := ok.sl
          have h2 := ok.w1
          have h3 := ok.h1
          have h4 : r.width = (r.width.toNat : Int) := by omega
          have h5 : r.height = (r.height.toNat : Int) := by omega
          rw [h4, h5, ← Int.natCast_mul] at h1
          have h6 : r.start.length = r.width.toNat * r.height.toNat := Int.ofNat.inj h1
          have h7 : (y + 1) * r.width.toNat ≤ r.height.toNat * r.width.toNat := Nat.mul_le_mul_right _ hy
          rw [Nat.add_mul, Nat.one_mul, Nat.mul_comm r.height.toNat] at h7
          have hk : y * r.width.toNat + x < r.start.length := by omega
          rw [List.getElem?_eq_getElem hk]
          have hb := ok.st _ (List.getElem_mem hk)
          exact (cellV_c hc hd hb.1 hb.2).2.2
        · exact ih (by omega) hm
    exact key _ (Nat.le_refl _) hl
  · split at hl
    · rw [List.mem_singleton] at hl; subst hl
      apply no_join
      simpa using z8
    · cases hl
  · split at hl
    · rw [List.mem_singleton] at hl; subst hl
      apply no_join
      simpa using z9
    · cases hl
  · rw [List.mem_map] at hl
    obtain ⟨x, hx, rfl⟩ := hl
    obtain ⟨_, _, c0, c1⟩ := ok.es x hx
    have hp : (10 : UInt8) ∉ pieceOf r.pieces x.piece := by
      unfold pieceOf
      split
      · rename_i y hy; exact (cap_wd (hc y (List.mem_of_getElem? hy))).2
      · simp
    unfold endLn
    split
    · apply no_join
      simp only [List.mem_cons, List.not_mem_nil, or_false, forall_eq_or_imp, forall_eq]
      exact ⟨z4, hn _ (by omega) (by omega), (howB_wd _).2⟩
    · split
      · apply no_join
        simp only [List.mem_cons, List.not_mem_nil, or_false, forall_eq_or_imp, forall_eq]
        exact ⟨z5, hp, (howB_wd _).2⟩
      · apply no_join
        simp only [List.mem_cons, List.not_mem_nil, or_false, forall_eq_or_imp, forall_eq]
        exact ⟨z6, hp, hn _ (by omega) (by omega), (howB_wd _).2⟩
  · apply no_join
    simp only [List.mem_cons, List.not_mem_nil, or_false, forall_eq_or_imp, forall_eq]
    exact ⟨zA, (blockB_wd _).2⟩
  · apply no_join
    simp only [List.mem_cons, List.not_mem_nil, or_false, forall_eq_or_imp, forall_eq]
    exact ⟨zB, hn _ (by have := ok.q1; omega) ok.q2⟩
  · apply no_join
    simp only [List.mem_cons, List.not_mem_nil, or_false, forall_eq_or_imp, forall_eq]
    exact ⟨zC, hn _ (by have := ok.r1; omega) (by have := ok.r2; omega)⟩
/-- THE TEXT OF GOOD RULES IS READ AS THESE RULES. -/
theorem parse_print {r : RulesD} (hr : rulesE r = 0) (hl : (textB r).length ≤ 8192) : parseE (textB r) = 0 ∧ rulesM (ok0 (linesB (textB r))) = r := by
  have h := rFull_of hr
  have hne : textLs r ≠ [] := by simp [textLs]
  have e : linesB (textB r) = textLs r := by
    rw [linesB, ← textLs_nl, nl_join hne, (suf_app _).2, cut_join hne (text_lines h)]
  have hs : Lib.hasSuffix (textB r) [10] = true := by rw [← textLs_nl, nl_join hne]; exact (suf_app _).1
  obtain ⟨h1, h2⟩ := rulesM_c h
  rw [parseE, if_neg (by omega), e, h2, h1]
  refine ⟨?_, rfl⟩
  rw [if_pos (by rw [hs]; rfl), hr]
end Go.Proofs.YtjfkecadfnepjaaGreatDoor
