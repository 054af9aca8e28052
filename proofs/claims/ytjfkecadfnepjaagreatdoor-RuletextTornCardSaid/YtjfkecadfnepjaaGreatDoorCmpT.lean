/- What is printed is read: rows, conditions, and all of it. -/
import Derived.Test.YtjfkecadfnepjaaGreatDoorCmp
set_option maxRecDepth 100000
namespace Go.Proofs.YtjfkecadfnepjaaGreatDoor
open Go

theorem findIdx_at {α : Type} {p : α → Bool} {l : List α} {i : Nat} {x : α} (hx : l[i]? = some x) (hp : p x = true) (hj : ∀ (j : Nat) (y : α), j < i → l[j]? = some y → p y = false) : idxV p l = some (i : Int) := by
  have hi := (List.getElem?_eq_some_iff.1 hx).1
  have : l.findIdx? p = some i := by
    rw [List.findIdx?_eq_some_iff_getElem]
    refine ⟨hi, ?_, fun j hji => ?_⟩
    · have := (List.getElem?_eq_some_iff.1 hx).2; rw [this]; exact hp
    · have := hj j l[j] hji (List.getElem?_eq_getElem (by omega)); simp [this]
  rw [idxV, this]; rfl
theorem pieceM_c {ps qs : List PieceD} (hc : Caps ps) (hd : Dist ps) (hs : SameL qs ps) {i : Nat} {y : PieceD} (hy : ps[i]? = some y) (s : PS) : pieceM (lettB y) qs s = ((i : Int), s) := by
  obtain ⟨z, hz, hzl⟩ := SameL.at (Eq.symm hs) hy
  have hcy := hc y (List.mem_of_getElem? hy)
  have : idxV (fun q => lettB q == lettB y) qs = some (i : Int) := by
    refine findIdx_at hz (by simp [lettB, hzl]) (fun j u hj hu => ?_)
    obtain ⟨v, hv, hvl⟩ := SameL.at hs hu
    have hcv := hc v (List.mem_of_getElem? hv)
    rw [beq_eq_false_iff_ne]
    intro e
    have e2 : lettB v = lettB y := by rw [← e]; simp [lettB, hvl]
    have := hd j i v y hv hy (lett_inj hcv hcy e2)
    omega
  rw [pieceM, this]; rfl
theorem promI_c {ps qs : List PieceD} (hc : Caps ps) (hd : Dist ps) (hs : SameL qs ps) {x : PieceD} (h0 : 0 ≤ x.promote) (h1 : x.promote ≤ ps.length) (s : PS) : promI (toB ps x) qs s = (x.promote, s) := by
  by_cases hp : x.promote > 0
  · obtain ⟨i, hi⟩ := Int.eq_ofNat_of_zero_le (show 0 ≤ x.promote - 1 by omega)
    have hil : i < ps.length := by omega
    have hy : ps[i]? = some ps[i] := List.getElem?_eq_getElem hil
    have e1 : (x.promote - 1).toNat = i := by omega
    have e : toB ps x = lettB ps[i] := by rw [toB, if_pos hp, e1, hy]
    rw [promI, e, if_neg (cap_nodash (hc _ (List.mem_of_getElem? hy))), pieceM_c hc hd hs hy]
    have : (i : Int) + 1 = x.promote := by omega
    rw [this]
  · have e : toB ps x = [45] := by rw [toB, if_neg hp]
    have : (0 : Int) = x.promote := by omega
    rw [promI, if_pos e, this]
theorem promGo_c {ps qs : List PieceD} (hc : Caps ps) (hd : Dist ps) (hs : SameL qs ps) : ∀ (l : List PieceD) (s : PS), (∀ x ∈ l, POk ps.length x) → promGo qs (l.map (raw ps)) s = (l, s)
  | [], s, _ => rfl
  | x :: l, s, h => by
    obtain ⟨_, _, ⟨h0, h1⟩, _⟩ := h x (by simp)
    simp only [List.map_cons, promGo, raw]
    rw [promI_c hc hd hs h0 h1]
    rw [promGo_c hc hd hs l s (fun y hy => h y (List.mem_cons_of_mem _ hy))]
theorem raw_same (ps : List PieceD) (l : List PieceD) : SameL ((l.map (raw ps)).map (·.1)) l := by
  unfold SameL
  rw [List.map_map, List.map_map]; rfl
theorem lines_len (ps : List PieceD) : ∀ l : List PieceD, l.length ≤ (linesOf ps l).length
  | [] => Nat.le_refl _
  | x :: l => by
    have := lines_len ps l
    simp only [linesOf, List.map_cons, List.flatten_cons, List.length_append, List.length_cons, pieceLn] at this ⊢
    omega
theorem piecesM_c {ps : List PieceD} (hc : Caps ps) (hd : Dist ps) (h : ∀ x ∈ ps, POk ps.length x) {rest : List (List UInt8)} (hr : begM kWay (ok0 rest) = false) (hr2 : begM kPiece (ok0 rest) = false) : piecesM (ok0 (linesOf ps ps ++ rest)) = (ps, ok0 rest) := by
  have e : psM (ok0 (linesOf ps ps ++ rest)) = (ps.map (raw ps), ok0 rest) := by
    refine psGo_c hc hr hr2 _ ps h ?_
    have := lines_len ps ps
    simp only [ok0, List.length_append]; omega
  rw [piecesM, e]
  exact promGo_c hc hd (raw_same ps ps) ps _ h

/-! ### Rows -/
theorem cellGo_c {c : UInt8} {v : Int} : ∀ (qs : List PieceD) (i j : Nat) (y : PieceD), Caps qs → Dist qs → qs[j]? = some y →
    (v = 2 * ((i + j : Nat) : Int) + 1 ∧ c = UInt8.ofNat y.letter.toNat ∨ v = 2 * ((i + j : Nat) : Int) + 2 ∧ c = UInt8.ofNat (y.letter.toNat + 32)) → cellGo c qs i = some v
  | [], _, _, _, _, _, h, _ => by simp at h
  | q :: qs, i, j, y, hc, hd, hy, hv => by
    have hcy := hc y (List.mem_of_getElem? hy)
    have hcq := hc q (by simp)
    have hcn : (v = 2 * ((i + j : Nat) : Int) + 1 ∧ (c.toNat : Int) = y.letter) ∨ (v = 2 * ((i + j : Nat) : Int) + 2 ∧ (c.toNat : Int) = y.letter + 32) := by
      rcases hv with ⟨h1, h2⟩ | ⟨h1, h2⟩
      · refine .inl ⟨h1, ?_⟩
        rw [h2, ofNat_toNat (by omega)]; omega
      · refine .inr ⟨h1, ?_⟩
        rw [h2, ofNat_toNat (by omega)]; omega
    match j, hy with
    | 0, hy =>
      obtain rfl := Option.some.inj hy
      rw [Nat.add_zero] at hcn
      unfold cellGo
      rcases hcn with ⟨h1, h2⟩ | ⟨h1, h2⟩
      · rw [if_pos h2, h1]
      · rw [if_neg (by omega), if_pos (by omega), h1]
    | j + 1, hy =>
      have hne : y.letter ≠ q.letter := by
        intro e
        have := hd (j + 1) 0 y q hy rfl e
        omega
      have hy2 : qs[j]? = some y := by simpa using hy
      unfold cellGo
      rw [if_neg (by omega), if_neg (by omega)]
      refine cellGo_c qs (i + 1) j y (fun x hx => hc x (List.mem_cons_of_mem _ hx)) (fun a b x z h1 h2 h3 => ?_) hy2 ?_
      · have := hd (a + 1) (b + 1) x z (by simpa using h1) (by simpa using h2) h3; omega
      · have e : i + 1 + j = i + (j + 1) := by omega
        rw [e]; exact hv
theorem cellV_c {ps : List PieceD} (hc : Caps ps) (hd : Dist ps) {c : Int} (h0 : 0 ≤ c) (h1 : c ≤ 2 * ps.length) : cellV (cellB ps c) ps = some c ∧ cellB ps c ≠ 32 ∧ cellB ps c ≠ 10 := by
  by_cases hz : c = 0
  · subst hz; exact ⟨rfl, (by decide : (46 : UInt8) ≠ 32), (by decide : (46 : UInt8) ≠ 10)⟩
  · obtain ⟨d, hdd⟩ := Int.eq_ofNat_of_zero_le (show 0 ≤ c - 1 by omega)
    have hj : d / 2 < ps.length := by omega
    have hy : ps[d / 2]? = some ps[d / 2] := List.getElem?_eq_getElem hj
    have hcy := hc _ (List.mem_of_getElem? hy)
    have e1 : ((c - 1) / 2).toNat = d / 2 := by omega
    have hb : ∀ x : UInt8, x.toNat ≤ 64 → cellB ps c ≠ x := by
      intro x hx e
      have e2 := congrArg UInt8.toNat e
      rw [cellB, if_neg hz, e1, hy] at e2
      simp only at e2
      split at e2
      · rw [ofNat_toNat (by omega)] at e2; omega
      · rw [ofNat_toNat (by omega)] at e2; omega
    refine ⟨?_, hb 32 (by decide), hb 10 (by decide)⟩
    rw [cellV, if_neg (hb 46 (by decide))]
    refine cellGo_c ps 0 (d / 2) _ hc hd hy ?_
    rw [Nat.zero_add, cellB, if_neg hz, e1, hy]
    simp only
    by_cases hm : (c - 1) % 2 = 0
    · rw [if_pos hm]; exact .inl ⟨by omega, rfl⟩
    · rw [if_neg hm]; exact .inr ⟨by omega, rfl⟩
theorem rowGo_c {ps : List PieceD} {vf : Nat → Int} : ∀ (l : (List UInt8)) (i : Nat) (cs : List Int) (s : PS), (∀ j c, l[j]? = some c → cellV c ps = some (vf (i + j))) → i + l.length ≤ cs.length → (rowGo ps l i cs s).2 = s ∧ ∀ j, j < l.length → (rowGo ps l i cs s).1[i + j]? = some (vf (i + j))
  | [], _, _, _, _, _ => ⟨rfl, fun j hj => by simp at hj⟩
  | c :: l, i, cs, s, h, hl => by
    rw [List.length_cons] at hl
    have h0 : cellM c ps s = (vf i, s) := by rw [cellM, h 0 c rfl]; rfl
    have ih := rowGo_c l (i + 1) (cs.set i (vf i)) s (fun j x hx => by
      have := h (j + 1) x (by simpa using hx)
      rw [show i + (j + 1) = i + 1 + j by omega] at this; exact this) (by simp; omega)
    rw [rowGo, h0]
    refine ⟨ih.1, fun j hj => ?_⟩
    match j with
    | 0 => rw [rowGo_other ps l _ _ _ _ (by omega), Nat.add_zero, List.getElem?_set_self (by omega)]
    | j + 1 =>
      rw [List.length_cons] at hj
      have := ih.2 j (by omega)
      rw [show i + (j + 1) = i + 1 + j by omega]; exact this
theorem rowsGo_c {ps : List PieceD} (hc : Caps ps) (hd : Dist ps) {st : List Int} (hst : ∀ c ∈ st, 0 ≤ c ∧ c ≤ 2 * ps.length) (W : Nat) (rest : List (List UInt8)) : ∀ (y : Nat) (cs : List Int), y * W ≤ cs.length → y * W ≤ st.length →
    (rowsGo ps W y cs (ok0 (rowsLn ps st W y ++ rest))).2 = ok0 rest ∧ ∀ k, k < y * W → (rowsGo ps W y cs (ok0 (rowsLn ps st W y ++ rest))).1[k]? = st[k]?
  | 0, cs, _, _ => ⟨rfl, fun k hk => by simp at hk⟩
  | y + 1, cs, h1, h2 => by
    rw [Nat.add_mul, Nat.one_mul] at h1 h2
    have hcv : ∀ k, k < y * W + W → cellV (cellB ps (st[k]?.getD 0)) ps = some (st[k]?.getD 0) ∧ cellB ps (st[k]?.getD 0) ≠ 32 ∧ cellB ps (st[k]?.getD 0) ≠ 10 := by
      intro k hk
      have e : st[k]? = some st[k] := List.getElem?_eq_getElem (by omega)
      have hb := hst st[k] (List.getElem_mem _)
      rw [e]
      exact cellV_c hc hd hb.1 hb.2
    have hL : lineM kRow 1 (ok0 (rowsLn ps st W (y + 1) ++ rest)) = ([rowB ps st W y], ok0 (rowsLn ps st W y ++ rest)) := by
      refine lineM_c rfl ?_
      simp only [List.mem_cons, List.not_mem_nil, or_false, forall_eq]
      unfold rowB Wd
      simp only [List.mem_map, List.mem_range, not_exists, not_and]
      exact ⟨fun x hx => (hcv _ (by omega)).2.1, fun x hx => (hcv _ (by omega)).2.2⟩
    have hw : (rowB ps st W y).length = W := by simp [rowB]
    have hg := rowGo_c (ps := ps) (vf := fun k => st[k]?.getD 0) (rowB ps st W y) (y * W) cs (ok0 (rowsLn ps st W y ++ rest)) (by
      intro j c hj
      unfold rowB at hj
      have hjl : j < W := by have := (List.getElem?_eq_some_iff.1 hj).1; simpa using this
      rw [List.getElem?_map, List.getElem?_range hjl, Option.map_some] at hj
      rw [← Option.some.inj hj]
      exact (hcv _ (by omega)).1) (by rw [hw]; omega)
    have key : rowsGo ps W (y + 1) cs (ok0 (rowsLn ps st W (y + 1) ++ rest)) = rowsGo ps W y (rowGo ps (rowB ps st W y) (y * W) cs (ok0 (rowsLn ps st W y ++ rest))).1 (ok0 (rowsLn ps st W y ++ rest)) := by
      rw [rowsGo, hL, show wd ([rowB ps st W y], ok0 (rowsLn ps st W y ++ rest)).1 0 = rowB ps st W y from rfl, if_pos hw]
      exact congrArg (rowsGo ps W y _) hg.1
    rw [key]
    have ih := rowsGo_c hc hd hst W rest y (rowGo ps (rowB ps st W y) (y * W) cs (ok0 (rowsLn ps st W y ++ rest))).1 (by rw [rowGo_len]; omega) (by omega)
    refine ⟨ih.1, fun k hk => ?_⟩
    by_cases hky : k < y * W
    · exact ih.2 k hky
    · rw [rowsGo_other ps W y _ _ k (by omega)]
      rw [Nat.add_mul, Nat.one_mul] at hk
      have := hg.2 (k - y * W) (by rw [hw]; omega)
      rw [show y * W + (k - y * W) = k by omega] at this
      rw [this, List.getElem?_eq_getElem (by omega)]; rfl
theorem rowsM_c {ps : List PieceD} (hc : Caps ps) (hd : Dist ps) {st : List Int} (hst : ∀ c ∈ st, 0 ≤ c ∧ c ≤ 2 * ps.length) {W H : Nat} (hl : st.length = W * H) (rest : List (List UInt8)) : rowsM ps W H (ok0 (rowsLn ps st W H ++ rest)) = (st, ok0 rest) := by
  have hWH : H * W = W * H := Nat.mul_comm _ _
  obtain ⟨h1, h2⟩ := rowsGo_c hc hd hst W rest H (List.replicate (W * H) 0) (by rw [List.length_replicate]; omega) (by omega)
  have e : (rowsM ps W H (ok0 (rowsLn ps st W H ++ rest))).1 = st := by
    apply List.ext_getElem?
    intro k
    by_cases hk : k < H * W
    · exact h2 k hk
    · rw [List.getElem?_eq_none (by rw [rowsM, rowsGo_len, List.length_replicate]; omega), List.getElem?_eq_none (by omega)]
  exact Prod.ext e h1

/-! ### Conditions, and all of it -/
theorem flagM_c (k : (List UInt8)) (b : Bool) {rest : List (List UInt8)} (hr : begM k (ok0 rest) = false) : flagM k (ok0 ((if b then [joinL [k]] else []) ++ rest)) = (b, ok0 rest) := by
  cases b with
  | false =>
    show flagM k (ok0 rest) = _
    rw [flagM, if_neg (by rw [hr]; decide)]
  | true =>
    show flagM k (ok0 (joinL [k] :: rest)) = _
    have hL : lineM k 0 (ok0 (joinL [k] :: rest)) = ([], ok0 rest) := lineM_c rfl (fun w h => by cases h)
    rw [flagM, if_pos (begM_line k [] rest), hL]
/-- What a condition's line doesn't say is as it must be. -/
def EFull (x : EndD) : Prop := (x.kind = 0 → x.piece = 0) ∧ (x.kind = 1 → x.count = 0)
theorem beg_el_er (ws rest : List (List UInt8)) : begM kEL (ok0 (joinL (kER :: ws) :: rest)) = false := by
  rw [joinL_cons]; simp [begM, ok0, Lib.hasPrefix, List.isPrefixOf, kEL, kER]
theorem beg_el_et (ws rest : List (List UInt8)) : begM kEL (ok0 (joinL (kET :: ws) :: rest)) = false := by
  rw [joinL_cons]; simp [begM, ok0, Lib.hasPrefix, List.isPrefixOf, kEL, kET]
theorem beg_er_et (ws rest : List (List UInt8)) : begM kER (ok0 (joinL (kET :: ws) :: rest)) = false := by
  rw [joinL_cons]; simp [begM, ok0, Lib.hasPrefix, List.isPrefixOf, kER, kET]
theorem beg_end (k : (List UInt8)) (hk : k = kEL ∨ k = kER ∨ k = kET) (ws rest : List (List UInt8)) : begM kEnd (ok0 (joinL (k :: ws) :: rest)) = true := by
  rw [joinL_cons]
  rcases hk with rfl | rfl | rfl <;> simp [begM, ok0, Lib.hasPrefix, List.isPrefixOf, kEL, kER, kET, kEnd]
theorem endM_c {ps : List PieceD} (hc : Caps ps) (hd : Dist ps) {x : EndD} (h : EOk ps.length x) (hf : EFull x) (rest : List (List UInt8)) : endM ps (ok0 (endLn ps x :: rest)) = (x, ok0 rest) ∧ begM kEnd (ok0 (endLn ps x :: rest)) = true := by
  obtain ⟨⟨k0, k2⟩, ⟨p0, p1⟩, c0, c1⟩ := h
  obtain ⟨q, hq⟩ := Int.eq_ofNat_of_zero_le p0
  have hqn : q < ps.length := by omega
  have hy : ps[q]? = some ps[q] := List.getElem?_eq_getElem hqn
  have hpo : pieceOf ps x.piece = lettB ps[q] := by rw [pieceOf, hq, Int.toNat_natCast, hy]
  have hwd : Wd (lettB ps[q]) := cap_wd (hc _ (List.mem_of_getElem? hy))
  have hpm : ∀ s, pieceM (lettB ps[q]) ps s = (x.piece, s) := fun s => by rw [pieceM_c hc hd rfl hy, hq]
  have hnm : ∀ s, numM (num x.count) s = (x.count, s) := fun s => numM_c (by omega) (by omega) s
  have hnw : Wd (num x.count) := num_wd (by omega) (by omega)
  obtain hk | hk | hk : x.kind = 0 ∨ x.kind = 1 ∨ x.kind = 2 := by omega
  · have e : endLn ps x = joinL [kEL, num x.count, howB x.loses] := by rw [endLn, if_pos hk]
    rw [e]
    refine ⟨?_, beg_end kEL (.inl rfl) _ _⟩
    have hL : lineM kEL 2 (ok0 (joinL [kEL, num x.count, howB x.loses] :: rest)) = ([num x.count, howB x.loses], ok0 rest) := by
      refine lineM_c rfl ?_
      simp only [List.mem_cons, List.not_mem_nil, or_false, forall_eq_or_imp, forall_eq]
      exact ⟨hnw, howB_wd _⟩
    rw [endM, if_pos (begM_line _ _ _), elM, hL]
    show ((⟨0, 0, (numM (num x.count) (ok0 rest)).1, isOne (choiceM (howB x.loses) wHow (numM (num x.count) (ok0 rest)).2).1⟩ : EndD), (choiceM (howB x.loses) wHow (numM (num x.count) (ok0 rest)).2).2) = _
    rw [hnm, choice_how, isOne_how]
    have := hf.1 hk
    obtain ⟨kd, pc, ct, lo⟩ := x
    simp only at hk this
    rw [hk, this]
  · have e : endLn ps x = joinL [kER, lettB ps[q], howB x.loses] := by rw [endLn, if_neg (by omega), if_pos hk, hpo]
    rw [e]
    refine ⟨?_, beg_end kER (.inr (.inl rfl)) _ _⟩
    have hL : lineM kER 2 (ok0 (joinL [kER, lettB ps[q], howB x.loses] :: rest)) = ([lettB ps[q], howB x.loses], ok0 rest) := by
      refine lineM_c rfl ?_
      simp only [List.mem_cons, List.not_mem_nil, or_false, forall_eq_or_imp, forall_eq]
      exact ⟨hwd, howB_wd _⟩
    rw [endM, if_neg (by rw [beg_el_er]; decide), if_pos (begM_line _ _ _), erM, hL]
    show ((⟨1, (pieceM (lettB ps[q]) ps (ok0 rest)).1, 0, isOne (choiceM (howB x.loses) wHow (pieceM (lettB ps[q]) ps (ok0 rest)).2).1⟩ : EndD), (choiceM (howB x.loses) wHow (pieceM (lettB ps[q]) ps (ok0 rest)).2).2) = _
    rw [hpm, choice_how, isOne_how]
    have := hf.2 hk
    obtain ⟨kd, pc, ct, lo⟩ := x
    simp only at hk this
    rw [hk, this]
  · have e : endLn ps x = joinL [kET, lettB ps[q], num x.count, howB x.loses] := by rw [endLn, if_neg (by omega), if_neg (by omega), hpo]
    rw [e]
    refine ⟨?_, beg_end kET (.inr (.inr rfl)) _ _⟩
    have hL : lineM kET 3 (ok0 (joinL [kET, lettB ps[q], num x.count, howB x.loses] :: rest)) = ([lettB ps[q], num x.count, howB x.loses], ok0 rest) := by
      refine lineM_c rfl ?_
      simp only [List.mem_cons, List.not_mem_nil, or_false, forall_eq_or_imp, forall_eq]
      exact ⟨hwd, hnw, howB_wd _⟩
    have eP : etP ps (ok0 (joinL [kET, lettB ps[q], num x.count, howB x.loses] :: rest)) = (x.piece, ok0 rest) := by rw [etP, hL]; exact hpm _
    have eN : etN ps (ok0 (joinL [kET, lettB ps[q], num x.count, howB x.loses] :: rest)) = (x.count, ok0 rest) := by rw [etN, hL, eP]; exact hnm _
    have eH : etH ps (ok0 (joinL [kET, lettB ps[q], num x.count, howB x.loses] :: rest)) = (if x.loses then 1 else 0, ok0 rest) := by rw [etH, hL, eN]; exact choice_how _ _
    rw [endM, if_neg (by rw [beg_el_et]; decide), if_neg (by rw [beg_er_et]; decide), etM, eH, eN, eP]
    simp only
    rw [isOne_how]
    obtain ⟨kd, pc, ct, lo⟩ := x
    simp only at hk
    rw [hk]
theorem endsGoM_c {ps : List PieceD} (hc : Caps ps) (hd : Dist ps) {rest : List (List UInt8)} (hr : begM kEnd (ok0 rest) = false) : ∀ (f : Nat) (l : List EndD), (∀ x ∈ l, EOk ps.length x ∧ EFull x) → l.length ≤ f → endsGoM ps f (ok0 (l.map (endLn ps) ++ rest)) = (l, ok0 rest)
  | 0, [], _, _ => rfl
  | f + 1, [], _, _ => by
    rw [endsGoM, if_neg]
    · rfl
    · show ¬ begM kEnd (ok0 rest) = true
      rw [hr]; decide
  | f + 1, x :: l, h, hl => by
    obtain ⟨h1, h2⟩ := h x (by simp)
    obtain ⟨e1, e2⟩ := endM_c hc hd h1 h2 (l.map (endLn ps) ++ rest)
    have e : ok0 ((x :: l).map (endLn ps) ++ rest) = ok0 (endLn ps x :: (l.map (endLn ps) ++ rest)) := rfl
    rw [endsGoM, e, if_pos e2, e1, endsGoM_c hc hd hr f l (fun y hy => h y (List.mem_cons_of_mem _ hy)) (by simpa using hl)]
/-- The lines of a text of rules. -/
def textLs (r : RulesD) : List (List UInt8) :=
  joinL [kGame, r.name.data.toList, num r.width, num r.height] :: (linesOf r.pieces r.pieces ++ (rowsLn r.pieces r.start r.width.toNat r.height.toNat ++ ((if r.falls then [joinL [kFalls]] else []) ++ ((if r.keeps then [joinL [kKeeps]] else []) ++ (r.ends.map (endLn r.pieces) ++ [joinL [kBlocked, blockB r.blocked], joinL [kQuiet, num r.quiet], joinL [kRepeat, num r.rep]])))))
theorem textLs_nl (r : RulesD) : nl (textLs r) = textB r := by
  have e : textLs r = [joinL [kGame, r.name.data.toList, num r.width, num r.height]] ++ linesOf r.pieces r.pieces ++ rowsLn r.pieces r.start r.width.toNat r.height.toNat ++ (if r.falls then [joinL [kFalls]] else []) ++ (if r.keeps then [joinL [kKeeps]] else []) ++ r.ends.map (endLn r.pieces) ++ [joinL [kBlocked, blockB r.blocked]] ++ [joinL [kQuiet, num r.quiet]] ++ [joinL [kRepeat, num r.rep]] := by
    simp [textLs]
  rw [e]
  simp only [nl_app, nl_one, rowsLn_nl, ends_nl, flag_nl]
  rw [linesOf, pieces_nl]
  rfl
structure RFull (r : RulesD) : Prop where
  ok : ROk r
  nm : Wd r.name.data.toList
  caps : Caps r.pieces
  dist : Dist r.pieces
  ends : ∀ x ∈ r.ends, EFull x
theorem hd_row (ps : List PieceD) (st : List Int) (W y : Nat) : ∃ t, rowLn ps st W y = 114 :: t := ⟨_, by rw [rowLn, joinL_cons, kRow]; rfl⟩
/-- WHAT IS PRINTED IS READ AS IT WAS. -/
theorem rulesM_c {r : RulesD} (h : RFull r) : rulesM (ok0 (textLs r)) = r ∧ (gA (ok0 (textLs r))).2 = ok0 [] := by
  obtain ⟨ok, nm, hc, hd, he⟩ := h
  obtain ⟨t3, ht3⟩ : ∃ t, t = [joinL [kBlocked, blockB r.blocked], joinL [kQuiet, num r.quiet], joinL [kRepeat, num r.rep]] := ⟨_, rfl⟩
  obtain ⟨t4, ht4⟩ : ∃ t, t = r.ends.map (endLn r.pieces) ++ t3 := ⟨_, rfl⟩
  obtain ⟨t5, ht5⟩ : ∃ t, t = (if r.keeps then [joinL [kKeeps]] else []) ++ t4 := ⟨_, rfl⟩
  obtain ⟨t6, ht6⟩ : ∃ t, t = (if r.falls then [joinL [kFalls]] else []) ++ t5 := ⟨_, rfl⟩
  obtain ⟨t7, ht7⟩ : ∃ t, t = rowsLn r.pieces r.start r.width.toNat r.height.toNat ++ t6 := ⟨_, rfl⟩
  obtain ⟨t8, ht8⟩ : ∃ t, t = linesOf r.pieces r.pieces ++ t7 := ⟨_, rfl⟩
  have hT : textLs r = joinL [kGame, r.name.data.toList, num r.width, num r.height] :: t8 := by rw [ht8, ht7, ht6, ht5, ht4, ht3]; rfl
  have b3 : ∃ u v, t3 = (98 :: u) :: v := ⟨_, _, by rw [ht3, joinL_cons, kBlocked]; rfl⟩
  have b4 : (∃ u v, t4 = (98 :: u) :: v) ∨ ∃ u v, t4 = (101 :: u) :: v := by
    rw [ht4]
    cases r.ends with
    | nil => exact .inl b3
    | cons x l =>
      refine .inr ?_
      rw [List.map_cons, List.cons_append]
      unfold endLn
      split
      · exact ⟨_, _, by rw [joinL_cons, kEL]; rfl⟩
      · split
        · exact ⟨_, _, by rw [joinL_cons, kER]; rfl⟩
        · exact ⟨_, _, by rw [joinL_cons, kET]; rfl⟩
  have b5 : (∃ u v, t5 = (98 :: u) :: v) ∨ (∃ u v, t5 = (101 :: u) :: v) ∨ ∃ u v, t5 = (107 :: u) :: v := by
    rw [ht5]
    cases r.keeps with
    | false => exact b4.imp_right .inl
    | true => exact .inr (.inr ⟨_, _, by rw [joinL_cons, kKeeps]; rfl⟩)
  have b7 : ∃ u v, t7 = (114 :: u) :: v := by
    rw [ht7]
    have := ok.h1
    obtain ⟨y, hy⟩ : ∃ y, r.height.toNat = y + 1 := ⟨r.height.toNat - 1, by omega⟩
    rw [hy, rowsLn]
    obtain ⟨t, ht⟩ := hd_row r.pieces r.start r.width.toNat y
    exact ⟨t, _, by rw [ht]; rfl⟩
  have e0 : g0 (ok0 (textLs r)) = ([r.name.data.toList, num r.width, num r.height], ok0 t8) := by
    rw [hT, g0]
    refine lineM_c rfl ?_
    simp only [List.mem_cons, List.not_mem_nil, or_false, forall_eq_or_imp, forall_eq]
    exact ⟨nm, num_wd (by have := ok.w1; omega) (by have := ok.w2; omega), num_wd (by have := ok.h1; omega) (by have := ok.h2; omega)⟩
  have e1 : g1 (ok0 (textLs r)) = (r.width, ok0 t8) := by rw [g1, e0]; exact sideM_c ok.w1 ok.w2 _
  have e2 : g2 (ok0 (textLs r)) = (r.height, ok0 t8) := by rw [g2, e0, e1]; exact sideM_c ok.h1 ok.h2 _
  have e3 : g3 (ok0 (textLs r)) = (r.pieces, ok0 t7) := by
    rw [g3, e2, ht8]
    obtain ⟨u, v, hu⟩ := b7
    refine piecesM_c hc hd ok.ps ?_ ?_
    · rw [hu]; exact not_beg (a := 119) (b := 114) rfl rfl (by decide) _
    · rw [hu]; exact not_beg (a := 112) (b := 114) rfl rfl (by decide) _
  have e4 : g4 (ok0 (textLs r)) = (r.start, ok0 t6) := by
    rw [g4, e3, e2, e1, ht7]
    refine rowsM_c hc hd ok.st ?_ _
    have h1 := ok.sl
    have h2 := ok.w1
    have h3 := ok.h1
    have h4 : r.width = (r.width.toNat : Int) := by omega
    have h5 : r.height = (r.height.toNat : Int) := by omega
    rw [h4, h5, ← Int.natCast_mul] at h1
    exact Int.ofNat.inj h1
  have e5 : g5 (ok0 (textLs r)) = (r.falls, ok0 t5) := by
    rw [g5, e4, ht6]
    refine flagM_c kFalls r.falls ?_
    rcases b5 with ⟨u, v, hu⟩ | ⟨u, v, hu⟩ | ⟨u, v, hu⟩
    · rw [hu]; exact not_beg (a := 102) (b := 98) rfl rfl (by decide) _
    · rw [hu]; exact not_beg (a := 102) (b := 101) rfl rfl (by decide) _
    · rw [hu]; exact not_beg (a := 102) (b := 107) rfl rfl (by decide) _
  have e6 : g6 (ok0 (textLs r)) = (r.keeps, ok0 t4) := by
    rw [g6, e5, ht5]
    refine flagM_c kKeeps r.keeps ?_
    rcases b4 with ⟨u, v, hu⟩ | ⟨u, v, hu⟩
    · rw [hu]; exact not_beg (a := 107) (b := 98) rfl rfl (by decide) _
    · rw [hu]; exact not_beg (a := 107) (b := 101) rfl rfl (by decide) _
  have e7 : g7 (ok0 (textLs r)) = (r.ends, ok0 t3) := by
    rw [g7, e6, e3, ht4, endsM]
    obtain ⟨u, v, hu⟩ := b3
    refine endsGoM_c hc hd ?_ _ r.ends (fun x hx => ⟨ok.es x hx, he x hx⟩) (by simp [ok0])
    rw [hu]; exact not_beg (a := 101) (b := 98) rfl rfl (by decide) _
  have f8 : lineM kBlocked 1 (ok0 t3) = ([blockB r.blocked], ok0 [joinL [kQuiet, num r.quiet], joinL [kRepeat, num r.rep]]) := by
    rw [ht3]
    refine lineM_c rfl ?_
    simp only [List.mem_cons, List.not_mem_nil, or_false, forall_eq]
    exact blockB_wd _
  have e8 : g8 (ok0 (textLs r)) = (r.blocked, ok0 [joinL [kQuiet, num r.quiet], joinL [kRepeat, num r.rep]]) := by
    rw [g8, e7]
    simp only
    rw [f8]; exact choice_blk ok.b1 ok.b2 _
  have f9 : lineM kQuiet 1 (ok0 [joinL [kQuiet, num r.quiet], joinL [kRepeat, num r.rep]]) = ([num r.quiet], ok0 [joinL [kRepeat, num r.rep]]) := by
    refine lineM_c rfl ?_
    simp only [List.mem_cons, List.not_mem_nil, or_false, forall_eq]
    exact num_wd (by have := ok.q1; omega) ok.q2
  have e9 : g9 (ok0 (textLs r)) = (r.quiet, ok0 [joinL [kRepeat, num r.rep]]) := by
    rw [g9, e8]
    simp only
    rw [f9]; exact numM_c (by have := ok.q1; omega) ok.q2 _
  have fA : lineM kRepeat 1 (ok0 [joinL [kRepeat, num r.rep]]) = ([num r.rep], ok0 []) := by
    refine lineM_c rfl ?_
    simp only [List.mem_cons, List.not_mem_nil, or_false, forall_eq]
    exact num_wd (by have := ok.r1; omega) (by have := ok.r2; omega)
  have eA : gA (ok0 (textLs r)) = (r.rep, ok0 []) := by
    rw [gA, e9]
    simp only
    rw [fA]; exact numM_c (by have := ok.r1; omega) (by have := ok.r2; omega) _
  refine ⟨?_, by rw [eA]⟩
  rw [rulesM, e0, e1, e2, e3, e4, e5, e6, e7, e8, e9, eA]
  have : str (wd [r.name.data.toList, num r.width, num r.height] 0) = r.name := Lib.mk_data r.name
  simp only
  rw [this]
end Go.Proofs.YtjfkecadfnepjaaGreatDoor
