/- What is printed is read: words, ways, types of pieces. -/
import Derived.Test.YtjfkecadfnepjaaGreatDoorSndT
set_option maxRecDepth 100000
namespace Go.Proofs.YtjfkecadfnepjaaGreatDoor
open Go

/-! ### What is printed is read -/
/-- A word: no blank and no line's end in it. -/
def Wd (w : (List UInt8)) : Prop := 32 ∉ w ∧ 10 ∉ w
def ok0 (l : List (List UInt8)) : PS := ⟨l, false⟩
theorem joinL_cons (k : (List UInt8)) (ws : List (List UInt8)) : joinL (k :: ws) = k ++ Lib.joinTail [32] ws := by rw [joinL, Lib.join_cons]
theorem tail_blank (ws : List (List UInt8)) : ∃ t, Lib.joinTail [32] ws ++ [32] = 32 :: t := by
  cases ws with
  | nil => exact ⟨[], rfl⟩
  | cons w r => exact ⟨_, by rw [joinTail_cons]; rfl⟩
theorem begM_line (k : (List UInt8)) (ws rest : List (List UInt8)) : begM k (ok0 (joinL (k :: ws) :: rest)) = true := by
  obtain ⟨t, ht⟩ := tail_blank ws
  simp only [begM, ok0, Bool.not_false, Bool.true_and, Lib.hasPrefix, List.isPrefixOf_iff_prefix]
  rw [joinL_cons, List.append_assoc, ht]
  exact ⟨t, by simp⟩
theorem begM_nil (k : (List UInt8)) : begM k (ok0 []) = false := rfl
theorem lineM_c {k : (List UInt8)} {ws rest : List (List UInt8)} {n : Nat} (hn : ws.length = n) (hw : ∀ w ∈ ws, Wd w) : lineM k n (ok0 (joinL (k :: ws) :: rest)) = (ws, ok0 rest) := by
  have hr : restW k (joinL (k :: ws)) = ws := by
    have e : Lib.join ([] :: ws) [32] = Lib.joinTail [32] ws := by rw [Lib.join_cons]; rfl
    rw [restW, joinL_cons, List.drop_left, ← e, cut_join (by simp) (by
      intro w h
      rcases List.mem_cons.1 h with rfl | h
      · simp
      · exact (hw w h).1)]
    rfl
  rw [lineM, if_pos (begM_line k ws rest)]
  simp only [ok0, List.headD_cons, List.tail_cons, hr]
  rw [if_pos hn]
theorem num_small : ∀ v : Fin 208, (fun w : (List UInt8) => Lib.atoiAll w = .ok ((v.val : Int) - 7) ∧ 32 ∉ w ∧ 10 ∉ w) (if v.val < 7 then [45, UInt8.ofNat (48 + (7 - v.val))] else if v.val < 17 then [UInt8.ofNat (48 + (v.val - 7))] else if v.val < 107 then [UInt8.ofNat (48 + (v.val - 7) / 10), UInt8.ofNat (48 + (v.val - 7) % 10)] else [UInt8.ofNat (48 + (v.val - 7) / 100), UInt8.ofNat (48 + (v.val - 7) / 10 % 10), UInt8.ofNat (48 + (v.val - 7) % 10)]) := by decide +kernel
theorem num_is {v : Int} (h : -7 ≤ v) (h2 : v ≤ 200) : num v = if (v + 7).toNat < 7 then [45, UInt8.ofNat (48 + (7 - (v + 7).toNat))] else if (v + 7).toNat < 17 then [UInt8.ofNat (48 + ((v + 7).toNat - 7))] else if (v + 7).toNat < 107 then [UInt8.ofNat (48 + ((v + 7).toNat - 7) / 10), UInt8.ofNat (48 + ((v + 7).toNat - 7) % 10)] else [UInt8.ofNat (48 + ((v + 7).toNat - 7) / 100), UInt8.ofNat (48 + ((v + 7).toNat - 7) / 10 % 10), UInt8.ofNat (48 + ((v + 7).toNat - 7) % 10)] := by
  split
  · rw [num_neg (by omega), num_digit (by omega) (by omega)]
    congr 3; omega
  · split
    · rw [num_digit (by omega) (by omega)]
      congr 2; omega
    · split
      · rw [num_big (by omega), num_digit (by omega) (by omega), num_digit (by omega) (by omega)]
        simp only [List.singleton_append, List.cons.injEq, and_true]
        constructor <;> (congr 1; omega)
      · rw [num_big (by omega), num_big (n := v / 10) (by omega), num_digit (n := v / 10 / 10) (by omega) (by omega), num_digit (by omega) (by omega), num_digit (by omega) (by omega)]
        simp only [List.cons_append, List.nil_append, List.cons.injEq, and_true]
        refine ⟨?_, ?_, ?_⟩ <;> (congr 1; omega)
theorem num_all {v : Int} (h : -7 ≤ v) (h2 : v ≤ 200) : Lib.atoiAll (num v) = .ok v ∧ Wd (num v) := by
  have h3 := num_small ⟨(v + 7).toNat, by omega⟩
  simp only at h3
  rw [← num_is h h2] at h3
  have e : (((v + 7).toNat : Nat) : Int) - 7 = v := by omega
  rw [e] at h3
  exact ⟨h3.1, h3.2⟩
theorem num_wd {v : Int} (h : -7 ≤ v) (h2 : v ≤ 200) : Wd (num v) := (num_all h h2).2
theorem numM_c {v : Int} (h : -7 ≤ v) (h2 : v ≤ 200) (s : PS) : numM (num v) s = (v, s) := by
  rw [numM, numV, (num_all h h2).1]
  simp only [if_pos]
  rfl
theorem sideM_c {v : Int} (h : 1 ≤ v) (h2 : v ≤ 8) (s : PS) : sideM (num v) s = (v, s) := by
  rw [sideM, numM_c (by omega) (by omega), if_pos (inB_iff.2 ⟨h, h2⟩)]
theorem choice_take {t : Int} (h : 0 ≤ t) (h2 : t ≤ 2) (s : PS) : choiceM (takeB t) wTakes s = (t, s) := by
  obtain rfl | rfl | rfl : t = 0 ∨ t = 1 ∨ t = 2 := by omega
  all_goals rfl
theorem choice_blk {t : Int} (h : 0 ≤ t) (h2 : t ≤ 2) (s : PS) : choiceM (blockB t) wBlk s = (t, s) := by
  obtain rfl | rfl | rfl : t = 0 ∨ t = 1 ∨ t = 2 := by omega
  all_goals rfl
theorem choice_how (b : Bool) (s : PS) : choiceM (howB b) wHow s = (if b then 1 else 0, s) := by cases b <;> rfl
theorem isOne_how (b : Bool) : isOne (if b then 1 else 0) = b := by cases b <;> rfl
theorem takeB_wd (t : Int) : Wd (takeB t) := by
  unfold takeB Wd; split
  · decide
  · split <;> decide
theorem blockB_wd (t : Int) : Wd (blockB t) := by
  unfold blockB Wd; split
  · decide
  · split <;> decide
theorem howB_wd (b : Bool) : Wd (howB b) := by cases b <;> (unfold Wd; decide)
theorem wayM_c {x : WayD} (h : WOk x) (rest : List (List UInt8)) : wayM (ok0 (wayLn x :: rest)) = (x, ok0 rest) := by
  obtain ⟨⟨a1, a2⟩, ⟨b1, b2⟩, ⟨c1, c2⟩, d1, d2⟩ := h
  have hl : lineM kWay 4 (ok0 (wayLn x :: rest)) = ([num x.dx, num x.dy, num x.most, takeB x.take], ok0 rest) := by
    refine lineM_c rfl ?_
    simp only [List.mem_cons, List.not_mem_nil, or_false, forall_eq_or_imp, forall_eq]
    exact ⟨num_wd (by omega) (by omega), num_wd (by omega) (by omega), num_wd (by omega) (by omega), takeB_wd _⟩
  have e1 : wayA (ok0 (wayLn x :: rest)) = (x.dx, ok0 rest) := by rw [wayA, hl]; exact numM_c (by omega) (by omega) _
  have e2 : wayB2 (ok0 (wayLn x :: rest)) = (x.dy, ok0 rest) := by rw [wayB2, hl, e1]; exact numM_c (by omega) (by omega) _
  have e3 : wayC (ok0 (wayLn x :: rest)) = (x.most, ok0 rest) := by rw [wayC, hl, e2]; exact numM_c (by omega) (by omega) _
  have e4 : wayT (ok0 (wayLn x :: rest)) = (x.take, ok0 rest) := by rw [wayT, hl, e3]; exact choice_take d1 d2 _
  rw [wayM, e1, e2, e3, e4]
theorem waysGo_c (rest : List (List UInt8)) (hr : begM kWay (ok0 rest) = false) : ∀ (f : Nat) (xs : List WayD), (∀ x ∈ xs, WOk x) → xs.length ≤ f → waysGo f (ok0 (xs.map wayLn ++ rest)) = (xs, ok0 rest)
  | 0, [], _, _ => rfl
  | f + 1, [], _, _ => by
    rw [waysGo, if_neg]
    · rfl
    · show ¬ begM kWay (ok0 rest) = true
      rw [hr]; decide
  | f + 1, x :: xs, h, hl => by
    have e : ok0 ((x :: xs).map wayLn ++ rest) = ok0 (wayLn x :: (xs.map wayLn ++ rest)) := rfl
    rw [waysGo, e, if_pos (by exact begM_line _ _ _), wayM_c (h x (by simp)), waysGo_c rest hr f xs (fun y hy => h y (List.mem_cons_of_mem _ hy)) (by simpa using hl)]
theorem waysM_c {rest : List (List UInt8)} (hr : begM kWay (ok0 rest) = false) {xs : List WayD} (h : ∀ x ∈ xs, WOk x) : waysM (ok0 (xs.map wayLn ++ rest)) = (xs, ok0 rest) :=
  waysGo_c rest hr _ xs h (by simp [ok0])

/-! ### Types of pieces -/
def Caps (ps : List PieceD) : Prop := ∀ x ∈ ps, 65 ≤ x.letter ∧ x.letter ≤ 90
def Dist (ps : List PieceD) : Prop := ∀ (i j : Nat) (x y : PieceD), ps[i]? = some x → ps[j]? = some y → x.letter = y.letter → i = j
theorem ofNat_toNat {n : Nat} (h : n < 256) : (UInt8.ofNat n).toNat = n := by rw [UInt8.toNat_ofNat']; omega
theorem lett_at (x : PieceD) : lettB x = [UInt8.ofNat x.letter.toNat] := rfl
theorem cap_wd {x : PieceD} (h : 65 ≤ x.letter ∧ x.letter ≤ 90) : Wd (lettB x) := by
  have e := ofNat_toNat (n := x.letter.toNat) (by omega)
  have k : ∀ c : UInt8, c.toNat < 65 → c ∉ lettB x := by
    intro c hc hm
    rw [lett_at, List.mem_singleton] at hm
    rw [hm, e] at hc; omega
  exact ⟨k 32 (by decide), k 10 (by decide)⟩
theorem cap_nodash {x : PieceD} (h : 65 ≤ x.letter ∧ x.letter ≤ 90) : lettB x ≠ [45] := by
  intro hm
  have e := ofNat_toNat (n := x.letter.toNat) (by omega)
  rw [lett_at] at hm
  have := (List.cons.inj hm).1
  rw [this] at e
  have : (45 : UInt8).toNat = 45 := rfl
  omega
theorem lett_inj {x y : PieceD} (hx : 65 ≤ x.letter ∧ x.letter ≤ 90) (hy : 65 ≤ y.letter ∧ y.letter ≤ 90) (h : lettB x = lettB y) : x.letter = y.letter := by
  have h1 := (List.cons.inj h).1
  have h2 := congrArg UInt8.toNat h1
  rw [ofNat_toNat (by omega), ofNat_toNat (by omega)] at h2
  omega
theorem toB_wd {ps : List PieceD} (hc : Caps ps) {x : PieceD} : Wd (toB ps x) := by
  unfold toB
  split
  · split
    · rename_i y hy
      exact cap_wd (hc y (List.mem_of_getElem? hy))
    · unfold Wd; decide
  · unfold Wd; decide
/-- A type as it is read at first. -/
def raw (ps : List PieceD) (x : PieceD) : PieceD × (List UInt8) := (⟨x.letter, x.hand, 0, x.ways⟩, toB ps x)
def linesOf (ps : List PieceD) (l : List PieceD) : List (List UInt8) := (l.map fun x => pieceLn x (toB ps x)).flatten
theorem not_beg {k l : (List UInt8)} {a b : UInt8} {t u : (List UInt8)} (hk : k = a :: t) (hl : l = b :: u) (h : a ≠ b) (rest : List (List UInt8)) : begM k (ok0 (l :: rest)) = false := by
  subst hk; subst hl
  simp [begM, ok0, Lib.hasPrefix, List.isPrefixOf, h]
theorem psGo_c {ps : List PieceD} (hc : Caps ps) {n : Nat} {rest : List (List UInt8)} (hr : begM kWay (ok0 rest) = false) (hr2 : begM kPiece (ok0 rest) = false) : ∀ (f : Nat) (l : List PieceD), (∀ x ∈ l, POk n x) → l.length ≤ f → psGo f (ok0 (linesOf ps l ++ rest)) = (l.map (raw ps), ok0 rest)
  | 0, [], _, _ => rfl
  | f + 1, [], _, _ => by
    rw [psGo, if_neg]
    · rfl
    · show ¬ begM kPiece (ok0 rest) = true
      rw [hr2]; decide
  | f + 1, x :: l, h, hl => by
    obtain ⟨hcap, ⟨h0, h1⟩, _, _, hw⟩ := h x (by simp)
    have e : ok0 (linesOf ps (x :: l) ++ rest) = ok0 (joinL [kPiece, lettB x, num x.hand, toB ps x] :: (x.ways.map wayLn ++ (linesOf ps l ++ rest))) := by simp [linesOf, pieceLn]
    have hL : lineM kPiece 3 (ok0 (joinL [kPiece, lettB x, num x.hand, toB ps x] :: (x.ways.map wayLn ++ (linesOf ps l ++ rest)))) = ([lettB x, num x.hand, toB ps x], ok0 (x.ways.map wayLn ++ (linesOf ps l ++ rest))) := by
      refine lineM_c rfl ?_
      simp only [List.mem_cons, List.not_mem_nil, or_false, forall_eq_or_imp, forall_eq]
      exact ⟨cap_wd hcap, num_wd (by omega) (by omega), toB_wd hc⟩
    have hbw : begM kWay (ok0 (linesOf ps l ++ rest)) = false := by
      cases l with
      | nil => exact hr
      | cons y l =>
        have e2 : linesOf ps (y :: l) ++ rest = (112 :: ([105, 101, 99, 101] ++ Lib.joinTail [32] [lettB y, num y.hand, toB ps y])) :: (y.ways.map wayLn ++ (linesOf ps l ++ rest)) := by
          simp [linesOf, pieceLn, joinL_cons, kPiece]
        rw [e2]
        exact not_beg (a := 119) (b := 112) rfl rfl (by decide) _
    rw [e]
    generalize hs : ok0 (joinL [kPiece, lettB x, num x.hand, toB ps x] :: (x.ways.map wayLn ++ (linesOf ps l ++ rest))) = s at hL
    have hW : headW s = [lettB x, num x.hand, toB ps x] := by rw [headW, hL]
    have hN : headN s = (x.hand, ok0 (x.ways.map wayLn ++ (linesOf ps l ++ rest))) := by
      rw [headN, hW, hL]; exact numM_c (by omega) (by omega) _
    have hV : waysM (headN s).2 = (x.ways, ok0 (linesOf ps l ++ rest)) := by rw [hN]; exact waysM_c hbw hw
    have hS : headS s = ok0 (linesOf ps l ++ rest) := by rw [headS, hV]
    have hP : headP s = raw ps x := by
      rw [headP, hV, hW, hN, raw]
      have e3 : (((wd [lettB x, num x.hand, toB ps x] 0)[0]?.getD 0).toNat : Int) = x.letter := by
        show (((UInt8.ofNat x.letter.toNat).toNat : Nat) : Int) = x.letter
        rw [ofNat_toNat (by omega)]; omega
      rw [e3]; rfl
    have hb : begM kPiece s = true := by rw [← hs]; exact begM_line _ _ _
    rw [psGo, if_pos hb, hW, if_pos (show (wd [lettB x, num x.hand, toB ps x] 0).length = 1 from rfl), hP, hS, psGo_c hc hr hr2 f l (fun y hy => h y (List.mem_cons_of_mem _ hy)) (by simpa using hl)]
    rfl
end Go.Proofs.YtjfkecadfnepjaaGreatDoor
