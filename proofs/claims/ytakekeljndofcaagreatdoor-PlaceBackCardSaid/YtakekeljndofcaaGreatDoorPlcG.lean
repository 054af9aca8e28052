/- What Read guesses of a text, as data; and that it guesses what was written. -/
import Derived.Test.YtakekeljndofcaaGreatDoorPlcT
import Derived.Test.YtakekeljndofcaaGreatDoorCutM
set_option maxRecDepth 100000
namespace Go.Proofs.YtakekeljndofcaaGreatDoor
open Go Go.RowKit

def isDig (c : UInt8) : Bool := decide (48 ≤ c.toNat) && decide (c.toNat ≤ 57)
/-- The first cell with a letter; 0: there is none. -/
def guessCell (ps : List PieceD) (c : UInt8) : Int := match (List.range (2 * ps.length)).find? (fun k : Nat => cellB ps ((k : Int) + 1) == c) with
  | some k => (k : Int) + 1
  | none => 0
def decB (ps : List PieceD) (c : UInt8) : List Int := if isDig c = true then List.replicate (c.toNat - 48) 0 else [guessCell ps c]
def decL (ps : List PieceD) (l : List UInt8) : List Int := (l.map (decB ps)).flatten
def guessCells (ps : List PieceD) (s : List UInt8) : List Int := decL ps (cutB 47 s).reverse.flatten
def numG (w : List UInt8) : Int := match Lib.atoiAll w with
  | .ok v => v
  | _ => 0
/-- Does a text begin with the letter of a type? -/
def hasL (x : PieceD) (s : List UInt8) : Bool := match s with
  | [] => false
  | c :: _ => decide ((c.toNat : Int) = x.letter)
def hNum (x : PieceD) (s : List UInt8) : Int := if hasL x s = true then numG (s.tail.takeWhile isDig) else 0
def hRest (x : PieceD) (s : List UInt8) : List UInt8 := if hasL x s = true then s.tail.dropWhile isDig else s
def guessH : List PieceD → List UInt8 → List Int
  | [], _ => []
  | x :: ps, s => hNum x s :: guessH ps (hRest x s)
def restH : List PieceD → List UInt8 → List UInt8
  | [], s => s
  | x :: ps, s => restH ps (hRest x s)
def guess5 (ps : List PieceD) (a b c d e : List UInt8) : PlaceD := ⟨guessCells ps a, guessH ps b, guessH ps c, IntKind.i64.wrap (numG d - 1), numG e⟩
def guessP (ps : List PieceD) (s : List UInt8) : PlaceD := match cutB 32 s with
  | [a, b, c, d, e] => guess5 ps a b c d e
  | _ => zeroP
def readE (r : RulesD) (s : List UInt8) : Int :=
  if rulesE r ≠ 0 then rulesE r else if 8192 < s.length then 2 else if placeE r (guessP r.pieces s) = 0 ∧ placeT r (guessP r.pieces s) = s then 0 else 5

/-! ### Step by step -/
theorem guessH_len : ∀ (ps : List PieceD) (s : List UInt8), (guessH ps s).length = ps.length
  | [], _ => rfl
  | x :: ps, s => by rw [guessH, List.length_cons, guessH_len ps, List.length_cons]
theorem restH_app (x : PieceD) : ∀ (ps : List PieceD) (s : List UInt8), restH (ps ++ [x]) s = hRest x (restH ps s)
  | [], s => rfl
  | y :: ps, s => by rw [List.cons_append, restH, restH_app x ps, restH]
theorem guessH_app (x : PieceD) : ∀ (ps : List PieceD) (s : List UInt8), guessH (ps ++ [x]) s = guessH ps s ++ [hNum x (restH ps s)]
  | [], s => rfl
  | y :: ps, s => by rw [List.cons_append, guessH, guessH_app x ps, guessH, restH, List.cons_append]
theorem restH_succ {ps : List PieceD} {k : Nat} {x : PieceD} (h : ps[k]? = some x) (s : List UInt8) : restH (ps.take (k + 1)) s = hRest x (restH (ps.take k) s) := by
  rw [List.take_add_one, h]; exact restH_app x _ s
theorem guessH_succ {ps : List PieceD} {k : Nat} {x : PieceD} (h : ps[k]? = some x) (s : List UInt8) : guessH (ps.take (k + 1)) s = guessH (ps.take k) s ++ [hNum x (restH (ps.take k) s)] := by
  rw [List.take_add_one, h]; exact guessH_app x _ s
theorem hRest_len (x : PieceD) (s : List UInt8) : (hRest x s).length ≤ s.length := by
  unfold hRest; split
  · have := (List.dropWhile_sublist isDig (l := s.tail)).length_le
    rw [List.length_tail] at this; omega
  · exact Nat.le_refl _
theorem restH_len : ∀ (ps : List PieceD) (s : List UInt8), (restH ps s).length ≤ s.length
  | [], _ => Nat.le_refl _
  | x :: ps, s => Nat.le_trans (restH_len ps _) (hRest_len x s)
theorem guessCell_yes {ps : List PieceD} {c : UInt8} {k : Nat} (hk : k < 2 * ps.length) (h : cellB ps ((k : Int) + 1) = c) (hn : ∀ j, j < k → cellB ps ((j : Int) + 1) ≠ c) : guessCell ps c = (k : Int) + 1 := by
  have : (List.range (2 * ps.length)).find? (fun k : Nat => cellB ps ((k : Int) + 1) == c) = some k := by
    rw [List.find?_range_eq_some]
    refine ⟨by simpa using h, by simpa using hk, fun j hj => by simpa using hn j hj⟩
  rw [guessCell, this]
theorem guessCell_no {ps : List PieceD} {c : UInt8} (hn : ∀ j, j < 2 * ps.length → cellB ps ((j : Int) + 1) ≠ c) : guessCell ps c = 0 := by
  have : (List.range (2 * ps.length)).find? (fun k : Nat => cellB ps ((k : Int) + 1) == c) = none := by
    rw [List.find?_eq_none]
    intro x hx
    have := hn x (by simpa using hx)
    simpa using this
  rw [guessCell, this]
theorem decL_succ {ps : List PieceD} {l : List UInt8} {k : Nat} {c : UInt8} (h : l[k]? = some c) : decL ps (l.take (k + 1)) = decL ps (l.take k) ++ decB ps c := by
  rw [decL, List.take_add_one, h]; simp [decL]
theorem decL_app (ps : List PieceD) (a b : List UInt8) : decL ps (a ++ b) = decL ps a ++ decL ps b := by simp [decL]
theorem decB_len (ps : List PieceD) (c : UInt8) : (decB ps c).length ≤ 9 := by
  unfold decB isDig; split
  · rename_i h
    simp only [Bool.and_eq_true, decide_eq_true_eq] at h
    rw [List.length_replicate]; omega
  · simp
theorem decL_len (ps : List PieceD) : ∀ l : List UInt8, (decL ps l).length ≤ l.length * 9
  | [] => by simp [decL]
  | c :: l => by
    have h1 := decL_len ps l
    have h2 := decB_len ps c
    have e : decL ps (c :: l) = decB ps c ++ decL ps l := by simp [decL]
    rw [e, List.length_append, List.length_cons, Nat.succ_mul]; omega

/-! ### Letters -/
structure Lets (ps : List PieceD) : Prop where
  cap : ∀ x ∈ ps, 65 ≤ x.letter ∧ x.letter ≤ 90
  apart : ∀ (i j : Nat) (x y : PieceD), i < j → ps[i]? = some x → ps[j]? = some y → x.letter ≠ y.letter
theorem pieceE_apart {x : PieceD} {es : List PieceD} {n : Nat} (h : pieceE x es n = 0) : ∀ y ∈ es, y.letter ≠ x.letter := by
  intro y hy e
  unfold pieceE at h
  split at h
  · cases h
  · split at h
    · cases h
    · rename_i c2
      exact c2 (List.any_eq_true.2 ⟨y, hy, by simpa using e⟩)
theorem lets_ok {r : RulesD} (hz : rulesE r = 0) : Lets r.pieces := by
  have hr := rOk hz
  refine ⟨fun x hx => (hr.ps x hx).1, fun i j x y hij hi hj e => ?_⟩
  obtain ⟨_, _, _, k4, _, _, _⟩ := rulesE_ok hz
  have p1 := hr.p1
  have p6 := hr.p6
  unfold piecesE at k4
  rw [if_neg (by omega), if_neg (by omega)] at k4
  have hjl := (List.getElem?_eq_some_iff.1 hj).1
  have h1 := goAll _ 0 k4 j y (Nat.zero_le _) (by omega) hj
  refine pieceE_apart h1 x ?_ e
  have : (r.pieces.take j)[i]? = some x := by rw [List.getElem?_take, if_pos hij, hi]
  exact List.mem_of_getElem? this
theorem Lets.tail {x : PieceD} {ps : List PieceD} (h : Lets (x :: ps)) : Lets ps :=
  ⟨fun y hy => h.cap y (List.mem_cons_of_mem _ hy), fun i j a b hij hi hj => h.apart (i + 1) (j + 1) a b (by omega) (by simpa using hi) (by simpa using hj)⟩
theorem Lets.head {x : PieceD} {ps : List PieceD} (h : Lets (x :: ps)) : ∀ y ∈ ps, x.letter ≠ y.letter := by
  intro y hy
  obtain ⟨j, hj⟩ := List.getElem?_of_mem hy
  exact h.apart 0 (j + 1) x y (by omega) rfl (by simpa using hj)
/-- The letter of a cell, as a number. -/
theorem cellB_nat {ps : List PieceD} (hp : Lets ps) {k : Nat} (hk : k < 2 * ps.length) : ∃ x, ps[k / 2]? = some x ∧ 65 ≤ x.letter ∧ x.letter ≤ 90 ∧ ((cellB ps ((k : Int) + 1)).toNat : Int) = if k % 2 = 0 then x.letter else x.letter + 32 := by
  have hl : k / 2 < ps.length := by omega
  obtain ⟨x, hx⟩ : ∃ x, ps[k / 2]? = some x := ⟨_, List.getElem?_eq_getElem hl⟩
  obtain ⟨h1, h2⟩ := hp.cap x (List.mem_of_getElem? hx)
  refine ⟨x, hx, h1, h2, ?_⟩
  have e2 : ((k : Int) + 1 - 1) / 2 = ((k / 2 : Nat) : Int) := by omega
  rw [cellB, if_neg (by omega), e2, Int.toNat_natCast, hx]
  simp only
  by_cases hm : k % 2 = 0
  · rw [if_pos (by omega), if_pos hm, UInt8.toNat_ofNat']; omega
  · rw [if_neg (by omega), if_neg hm, UInt8.toNat_ofNat']; omega
theorem cellB_inj {ps : List PieceD} (hp : Lets ps) {j k : Nat} (hj : j < 2 * ps.length) (hk : k < 2 * ps.length) (h : cellB ps ((j : Int) + 1) = cellB ps ((k : Int) + 1)) : j = k := by
  obtain ⟨x, hx, x1, x2, ex⟩ := cellB_nat hp hj
  obtain ⟨y, hy, y1, y2, ey⟩ := cellB_nat hp hk
  rw [h] at ex
  rw [ex] at ey
  have hxy : x.letter = y.letter ∧ j % 2 = k % 2 := by
    split at ey <;> split at ey <;> omega
  have hd : j / 2 = k / 2 := by
    rcases Nat.lt_trichotomy (j / 2) (k / 2) with h1 | h1 | h1
    · exact absurd hxy.1 (hp.apart _ _ x y h1 hx hy)
    · exact h1
    · exact absurd hxy.1.symm (hp.apart _ _ y x h1 hy hx)
  omega
theorem guess_letter {ps : List PieceD} (hp : Lets ps) {c : Int} (h0 : 1 ≤ c) (h1 : c ≤ 2 * ps.length) : guessCell ps (cellB ps c) = c := by
  obtain ⟨k, hk⟩ := Int.eq_ofNat_of_zero_le (show 0 ≤ c - 1 by omega)
  obtain rfl : c = (k : Int) + 1 := by omega
  refine guessCell_yes (by omega) rfl (fun j hj e => ?_)
  have := cellB_inj hp (by omega) (by omega) e
  omega
theorem letter_ge {ps : List PieceD} (hp : Lets ps) {c : Int} (h0 : 1 ≤ c) (h1 : c ≤ 2 * ps.length) : 65 ≤ (cellB ps c).toNat := by
  obtain ⟨k, hk⟩ := Int.eq_ofNat_of_zero_le (show 0 ≤ c - 1 by omega)
  obtain rfl : c = (k : Int) + 1 := by omega
  obtain ⟨x, _, x1, x2, ex⟩ := cellB_nat hp (k := k) (by omega)
  split at ex <;> omega
theorem dec_letter {ps : List PieceD} (hp : Lets ps) {c : Int} (h0 : 1 ≤ c) (h1 : c ≤ 2 * ps.length) : decB ps (cellB ps c) = [c] := by
  have := letter_ge hp h0 h1
  rw [decB, if_neg (by simp [isDig]; omega), guess_letter hp h0 h1]

/-! ### Rows -/
theorem dec_dig {ps : List PieceD} {g : Nat} (hg : g ≤ 9) : decL ps (dig g) = List.replicate g 0 := by
  unfold dig; split
  · rename_i h; subst h; rfl
  · have e : (UInt8.ofNat (48 + g)).toNat = 48 + g := by rw [UInt8.toNat_ofNat']; omega
    have e2 : decB ps (UInt8.ofNat (48 + g)) = List.replicate g 0 := by
      rw [decB, if_pos (by simp only [isDig, e, Bool.and_eq_true, decide_eq_true_eq]; omega), e, Nat.add_sub_cancel_left]
    rw [decL, List.map_cons, e2]; simp
theorem dec_gap {ps : List PieceD} (hp : Lets ps) : ∀ (l : List Int) (s : List UInt8 × Nat), s.2 + l.length ≤ 9 → (∀ c ∈ l, 0 ≤ c ∧ c ≤ 2 * (ps.length : Int)) →
    decL ps (l.foldl (gapStep ps) s).1 ++ List.replicate (l.foldl (gapStep ps) s).2 0 = decL ps s.1 ++ List.replicate s.2 0 ++ l
  | [], s, _, _ => by simp
  | c :: l, s, hg, hc => by
    rw [List.length_cons] at hg
    have hs : (gapStep ps s c).2 ≤ s.2 + 1 := by unfold gapStep; split <;> simp
    rw [List.foldl_cons, dec_gap hp l (gapStep ps s c) (by omega) (fun d hd => hc d (List.mem_cons_of_mem _ hd))]
    have h2 := hc c (List.mem_cons_self ..)
    unfold gapStep
    split
    · rename_i h0; subst h0
      simp [List.replicate_succ']
    · rename_i h0
      have e : decL ps [cellB ps c] = [c] := by
        rw [decL, List.map_cons, dec_letter hp (by omega) h2.2]; rfl
      simp only [List.append_nil, List.replicate_zero, decL_app, dec_dig (ps := ps) (g := s.2) (by omega), e, List.append_assoc, List.cons_append, List.nil_append]
theorem dec_row {ps : List PieceD} (hp : Lets ps) {l : List Int} (hl : l.length ≤ 9) (hc : ∀ c ∈ l, 0 ≤ c ∧ c ≤ 2 * (ps.length : Int)) : decL ps (rowG ps l) = l := by
  have h := dec_gap hp l ([], 0) (by simpa using hl) hc
  have hg : (gapGo ps l).2 ≤ 9 := by have := (gapGo_len ps l ([], 0)).2; have e : l.foldl (gapStep ps) ([], 0) = gapGo ps l := rfl; rw [e] at this; simp at this; omega
  rw [rowG, decL_app, dec_dig hg]
  simpa [decL, gapGo] using h
theorem dig_ge {g : Nat} (hg : g ≤ 9) : ∀ b ∈ dig g, 48 ≤ b.toNat := by
  intro b hb
  unfold dig at hb
  split at hb
  · cases hb
  · rw [List.mem_singleton] at hb
    subst hb
    rw [UInt8.toNat_ofNat']; omega
theorem gap_ge {ps : List PieceD} (hp : Lets ps) : ∀ (l : List Int) (s : List UInt8 × Nat), s.2 + l.length ≤ 9 → (∀ c ∈ l, 0 ≤ c ∧ c ≤ 2 * (ps.length : Int)) → (∀ b ∈ s.1, 48 ≤ b.toNat) → ∀ b ∈ (l.foldl (gapStep ps) s).1, 48 ≤ b.toNat
  | [], s, _, _, h => h
  | c :: l, s, hg, hc, h => by
    rw [List.length_cons] at hg
    have hs : (gapStep ps s c).2 ≤ s.2 + 1 := by unfold gapStep; split <;> simp
    rw [List.foldl_cons]
    refine gap_ge hp l _ (by omega) (fun d hd => hc d (List.mem_cons_of_mem _ hd)) ?_
    have h2 := hc c (List.mem_cons_self ..)
    unfold gapStep
    split
    · exact h
    · rename_i h0
      intro b hb
      rw [List.mem_append, List.mem_append, List.mem_singleton] at hb
      rcases hb with (hb | hb) | rfl
      · exact h b hb
      · exact dig_ge (by omega) b hb
      · have := letter_ge hp (c := c) (by omega) h2.2; omega
theorem row_ge {ps : List PieceD} (hp : Lets ps) {l : List Int} (hl : l.length ≤ 9) (hc : ∀ c ∈ l, 0 ≤ c ∧ c ≤ 2 * (ps.length : Int)) : ∀ b ∈ rowG ps l, 48 ≤ b.toNat := by
  have hg : (gapGo ps l).2 ≤ 9 := by have := (gapGo_len ps l ([], 0)).2; have e : l.foldl (gapStep ps) ([], 0) = gapGo ps l := rfl; rw [e] at this; simp at this; omega
  intro b hb
  rw [rowG, List.mem_append] at hb
  rcases hb with hb | hb
  · exact gap_ge hp l ([], 0) (by simpa using hl) hc (fun b hb => by cases hb) b hb
  · exact dig_ge hg b hb
theorem rowOf_in {W : Nat} {cs : List Int} {y : Nat} {c : Int} (h : c ∈ rowOf W cs y) : c ∈ cs := List.mem_of_mem_drop (List.mem_of_mem_take h)
theorem dec_rows {ps : List PieceD} (hp : Lets ps) {W : Nat} (hW : W ≤ 9) {cs : List Int} (hc : ∀ c ∈ cs, 0 ≤ c ∧ c ≤ 2 * (ps.length : Int)) : ∀ k, decL ps (rowsT ps W cs k).reverse.flatten = cs.take (k * W)
  | 0 => by simp [rowsT, decL]
  | k + 1 => by
    rw [rowsT, List.reverse_cons, List.flatten_append, decL_app, dec_rows hp hW hc k, List.flatten_singleton, rowT, dec_row hp (by rw [rowOf, List.length_take]; omega) (fun c h => hc c (rowOf_in h)), rowOf, Nat.succ_mul, List.take_add]
theorem rows_ge {ps : List PieceD} (hp : Lets ps) {W : Nat} (hW : W ≤ 9) {cs : List Int} (hc : ∀ c ∈ cs, 0 ≤ c ∧ c ≤ 2 * (ps.length : Int)) (k : Nat) : ∀ x ∈ rowsT ps W cs k, ∀ b ∈ x, 48 ≤ b.toNat := by
  intro x hx
  obtain ⟨y, _, rfl⟩ := rowsT_mem hx
  exact row_ge hp (by rw [rowOf, List.length_take]; omega) (fun c h => hc c (rowOf_in h))
theorem cells_guess {ps : List PieceD} (hp : Lets ps) {W H : Nat} (hW : W ≤ 9) (hH : 1 ≤ H) {cs : List Int} (hl : cs.length = W * H) (hc : ∀ c ∈ cs, 0 ≤ c ∧ c ≤ 2 * (ps.length : Int)) : guessCells ps (cellsT ps W H cs) = cs := by
  have hne : rowsT ps W cs H ≠ [] := by intro e; have := rowsT_length ps W cs H; rw [e] at this; simp at this; omega
  rw [guessCells, cellsT, cut_join hne (fun w hw hm => by have := rows_ge hp hW hc H w hw 47 hm; simp at this), dec_rows hp hW hc H, Nat.mul_comm, List.take_of_length_le (by omega)]
theorem join_mem {s : List UInt8} {b : UInt8} : ∀ {ws : List (List UInt8)}, b ∈ Lib.join ws s → b ∈ s ∨ ∃ w ∈ ws, b ∈ w
  | [], h => by simp [Lib.join] at h
  | x :: ws, h => by
    have ht : ∀ {ws : List (List UInt8)}, b ∈ Lib.joinTail s ws → b ∈ s ∨ ∃ w ∈ ws, b ∈ w := by
      intro ws
      induction ws with
      | nil => intro h; simp [Lib.joinTail] at h
      | cons y r ih =>
        intro h
        rw [joinTail_cons, List.mem_append, List.mem_append] at h
        rcases h with (h | h) | h
        · exact .inl h
        · exact .inr ⟨y, by simp, h⟩
        · rcases ih h with h | ⟨w, hw, h⟩
          · exact .inl h
          · exact .inr ⟨w, List.mem_cons_of_mem _ hw, h⟩
    rw [Lib.join_cons, List.mem_append] at h
    rcases h with h | h
    · exact .inr ⟨x, by simp, h⟩
    · rcases ht h with h | ⟨w, hw, h⟩
      · exact .inl h
      · exact .inr ⟨w, List.mem_cons_of_mem _ hw, h⟩
theorem cells_blank {ps : List PieceD} (hp : Lets ps) {W H : Nat} (hW : W ≤ 9) {cs : List Int} (hc : ∀ c ∈ cs, 0 ≤ c ∧ c ≤ 2 * (ps.length : Int)) : (32 : UInt8) ∉ cellsT ps W H cs := by
  intro h
  rcases join_mem h with h | ⟨w, hw, h⟩
  · simp at h
  · have := rows_ge hp hW hc H w hw 32 h; simp at this

/-! ### Numbers and hands -/
theorem num_upto : ∀ v : Fin 1001, (fun w : List UInt8 => Lib.atoiAll w = .ok (v.val : Int) ∧ w.all isDig = true) (if v.val < 10 then [UInt8.ofNat (48 + v.val)] else if v.val < 100 then [UInt8.ofNat (48 + v.val / 10), UInt8.ofNat (48 + v.val % 10)] else if v.val < 1000 then [UInt8.ofNat (48 + v.val / 100), UInt8.ofNat (48 + v.val / 10 % 10), UInt8.ofNat (48 + v.val % 10)] else [49, 48, 48, 48]) := by decide +kernel
theorem num_form {n : Nat} (h : n ≤ 1000) : num (n : Int) = if n < 10 then [UInt8.ofNat (48 + n)] else if n < 100 then [UInt8.ofNat (48 + n / 10), UInt8.ofNat (48 + n % 10)] else if n < 1000 then [UInt8.ofNat (48 + n / 100), UInt8.ofNat (48 + n / 10 % 10), UInt8.ofNat (48 + n % 10)] else [49, 48, 48, 48] := by
  split
  · rw [num_digit (by omega) (by omega)]
    congr 2
  · split
    · rw [num_big (by omega), num_digit (by omega) (by omega), num_digit (by omega) (by omega)]
      simp only [List.singleton_append, List.cons.injEq, and_true]
      exact ⟨congrArg UInt8.ofNat (by omega), congrArg UInt8.ofNat (by omega)⟩
    · split
      · rw [num_big (by omega), num_big (n := (n : Int) / 10) (by omega), num_digit (n := (n : Int) / 10 / 10) (by omega) (by omega), num_digit (by omega) (by omega), num_digit (by omega) (by omega)]
        simp only [List.cons_append, List.nil_append, List.cons.injEq, and_true]
        exact ⟨congrArg UInt8.ofNat (by omega), congrArg UInt8.ofNat (by omega), congrArg UInt8.ofNat (by omega)⟩
      · obtain rfl : n = 1000 := by omega
        rw [num_big (by omega), num_big (n := ((1000 : Nat) : Int) / 10) (by omega), num_big (n := ((1000 : Nat) : Int) / 10 / 10) (by omega), num_digit (n := ((1000 : Nat) : Int) / 10 / 10 / 10) (by omega) (by omega), num_digit (by omega) (by omega), num_digit (by omega) (by omega), num_digit (by omega) (by omega)]
        rfl
theorem num_back {n : Int} (h0 : 0 ≤ n) (h1 : n ≤ 1000) : numG (num n) = n ∧ ∀ b ∈ num n, isDig b = true := by
  obtain ⟨k, rfl⟩ := Int.eq_ofNat_of_zero_le h0
  have h := num_upto ⟨k, by omega⟩
  simp only at h
  rw [← num_form (by omega)] at h
  refine ⟨by rw [numG, h.1], List.all_eq_true.1 h.2⟩
theorem dig_not {c : UInt8} (h : isDig c = true) : c ≠ 32 := by
  rintro rfl
  simp [isDig] at h
theorem num_blank {n : Int} (h0 : 0 ≤ n) (h1 : n ≤ 1000) : (32 : UInt8) ∉ num n := fun h => dig_not ((num_back h0 h1).2 _ h) rfl
theorem handL_cons (x : PieceD) (ps : List PieceD) (n : Int) (h : List Int) : handL (x :: ps) (n :: h) = handB x n ++ handL ps h := by simp [handL, handsB]
theorem lett_nat {x : PieceD} (h : 65 ≤ x.letter ∧ x.letter ≤ 90) : ((UInt8.ofNat x.letter.toNat).toNat : Int) = x.letter := by rw [UInt8.toNat_ofNat']; omega
/-- What hands' text begins with. -/
theorem hand_first : ∀ {ps : List PieceD} {h : List Int}, (∀ x ∈ ps, 65 ≤ x.letter ∧ x.letter ≤ 90) → handL ps h = [] ∨ ∃ y ∈ ps, ∃ t, handL ps h = UInt8.ofNat y.letter.toNat :: t
  | [], h, _ => .inl (by simp [handL, handsB])
  | x :: ps, [], _ => .inl (by simp [handL, handsB])
  | x :: ps, n :: h, hc => by
    rw [handL_cons]
    unfold handB
    split
    · exact .inr ⟨x, by simp, _, rfl⟩
    · rw [List.nil_append]
      rcases hand_first (ps := ps) (h := h) (fun y hy => hc y (List.mem_cons_of_mem _ hy)) with e | ⟨y, hy, t, e⟩
      · exact .inl e
      · exact .inr ⟨y, List.mem_cons_of_mem _ hy, t, e⟩
theorem take_num {n : Int} (h0 : 0 ≤ n) (h1 : n ≤ 1000) {r : List UInt8} (hr : ∀ c t, r = c :: t → isDig c = false) : (num n ++ r).takeWhile isDig = num n ∧ (num n ++ r).dropWhile isDig = r := by
  have hd := (num_back h0 h1).2
  have e : r.takeWhile isDig = [] ∧ r.dropWhile isDig = r := by
    cases r with
    | nil => exact ⟨rfl, rfl⟩
    | cons c t => have := hr c t rfl; simp [this]
  refine ⟨?_, ?_⟩
  · rw [List.takeWhile_append_of_pos hd, e.1, List.append_nil]
  · rw [List.dropWhile_append_of_pos hd, e.2]
theorem hand_guess : ∀ {ps : List PieceD} {h : List Int}, Lets ps → h.length = ps.length → (∀ n ∈ h, 0 ≤ n ∧ n ≤ 1000) → guessH ps (handL ps h) = h
  | [], h, _, hl, _ => by have : h = [] := by simpa using hl
                          subst this; rfl
  | x :: ps, [], _, hl, _ => by simp at hl
  | x :: ps, n :: h, hp, hl, hb => by
    have hl2 : h.length = ps.length := by simpa using hl
    have hb2 := fun m hm => hb m (List.mem_cons_of_mem n hm)
    have ih := hand_guess hp.tail hl2 hb2
    have hx := hp.cap x (List.mem_cons_self ..)
    obtain ⟨n0, n1⟩ := hb n (List.mem_cons_self ..)
    have hf := hand_first (ps := ps) (h := h) hp.tail.cap
    rw [handL_cons, guessH]
    unfold handB
    split
    · have hL : hasL x (lettB x ++ num n ++ handL ps h) = true := by
        simp [hasL, lettB]
        have := lett_nat hx
        rw [UInt8.toNat_ofNat'] at this; omega
      have ht : (lettB x ++ num n ++ handL ps h).tail = num n ++ handL ps h := by simp [lettB]
      obtain ⟨k1, k2⟩ := take_num (r := handL ps h) n0 n1 (fun c t e => by
        rcases hf with e2 | ⟨y, hy, t2, e2⟩
        · rw [e2] at e; cases e
        · rw [e2] at e
          obtain ⟨rfl, _⟩ := List.cons.inj e
          have h3 := hp.tail.cap y hy
          have h4 := lett_nat h3
          simp only [isDig, Bool.and_eq_false_iff, decide_eq_false_iff_not]
          right; omega)
      rw [hNum, if_pos hL, hRest, if_pos hL, ht, k1, k2, (num_back n0 n1).1, ih]
    · have hL : hasL x (handL ps h) = false := by
        rcases hf with e2 | ⟨y, hy, t2, e2⟩
        · rw [e2]; rfl
        · rw [e2, hasL]
          have h4 := lett_nat (hp.tail.cap y hy)
          have := hp.head y hy
          simp only [decide_eq_false_iff_not]
          omega
      rw [List.nil_append, hNum, if_neg (by rw [hL]; decide), hRest, if_neg (by rw [hL]; decide), ih]
      congr 1; omega
theorem guess_dash : ∀ {ps : List PieceD} {h : List Int}, Lets ps → h.length = ps.length → (∀ n ∈ h, 0 ≤ n ∧ n ≤ 1000) → handL ps h = [] → guessH ps [45] = h
  | [], h, _, hl, _, _ => by simp at hl; subst hl; rfl
  | x :: ps, [], _, hl, _, _ => by simp at hl
  | x :: ps, n :: h, hp, hl, hb, he => by
    rw [handL_cons, List.append_eq_nil_iff] at he
    have ih := guess_dash hp.tail (by simpa using hl) (fun m hm => hb m (List.mem_cons_of_mem n hm)) he.2
    have hx := hp.cap x (List.mem_cons_self ..)
    have hn : n = 0 := by
      have h1 := he.1
      unfold handB at h1
      split at h1
      · simp [lettB] at h1
      · have := (hb n (List.mem_cons_self ..)).1; omega
    have hL : hasL x [45] = false := by
      simp only [hasL, decide_eq_false_iff_not]
      have : ((45 : UInt8).toNat : Int) = 45 := rfl
      omega
    rw [guessH, hNum, if_neg (by rw [hL]; decide), hRest, if_neg (by rw [hL]; decide), ih, hn]
theorem handT_guess {ps : List PieceD} {h : List Int} (hp : Lets ps) (hl : h.length = ps.length) (hb : ∀ n ∈ h, 0 ≤ n ∧ n ≤ 1000) : guessH ps (handT ps h) = h := by
  unfold handT; split
  · rename_i e; exact guess_dash hp hl hb e
  · exact hand_guess hp hl hb
theorem handL_blank : ∀ {ps : List PieceD} {h : List Int}, (∀ x ∈ ps, 65 ≤ x.letter ∧ x.letter ≤ 90) → (∀ n ∈ h, 0 ≤ n ∧ n ≤ 1000) → (32 : UInt8) ∉ handL ps h
  | [], h, _, _ => by simp [handL, handsB]
  | x :: ps, [], _, _ => by simp [handL, handsB]
  | x :: ps, n :: h, hc, hb => by
    have ih := handL_blank (ps := ps) (h := h) (fun y hy => hc y (List.mem_cons_of_mem _ hy)) (fun m hm => hb m (List.mem_cons_of_mem _ hm))
    obtain ⟨n0, n1⟩ := hb n (List.mem_cons_self ..)
    have hx := lett_nat (hc x (List.mem_cons_self ..))
    have hx2 := hc x (List.mem_cons_self ..)
    rw [handL_cons, List.mem_append]
    rintro (h1 | h1)
    · unfold handB at h1
      split at h1
      · rw [List.mem_append, lettB, List.mem_singleton] at h1
        rcases h1 with e | h1
        · rw [← e] at hx
          have : ((32 : UInt8).toNat : Int) = 32 := rfl
          omega
        · exact num_blank n0 n1 h1
      · cases h1
    · exact ih h1
theorem handT_blank {ps : List PieceD} {h : List Int} (hp : Lets ps) (hb : ∀ n ∈ h, 0 ≤ n ∧ n ≤ 1000) : (32 : UInt8) ∉ handT ps h := by
  unfold handT; split
  · simp
  · exact handL_blank hp.cap hb
/-- What was written is guessed. -/
theorem guess_text {r : RulesD} {p : PlaceD} (h : POkay r p) : guessP r.pieces (placeT r p) = p := by
  have hr := rOk h.e
  have hp := lets_ok h.e
  obtain ⟨W, hW⟩ := Int.eq_ofNat_of_zero_le (show 0 ≤ r.width by have := hr.w1; omega)
  obtain ⟨H, hH⟩ := Int.eq_ofNat_of_zero_le (show 0 ≤ r.height by have := hr.h1; omega)
  have hW8 : W ≤ 8 := by have := hr.w2; omega
  have hH1 : 1 ≤ H := by have := hr.h1; omega
  have hl : p.cells.length = W * H := by have := h.cl; rw [hW, hH, ← Int.natCast_mul] at this; exact_mod_cast this
  have hcut : cutB 32 (placeT r p) = partsT r p := by
    rw [placeT]
    refine cut_join (by simp [partsT]) (fun w hw => ?_)
    simp only [partsT, List.mem_cons, List.not_mem_nil, or_false] at hw
    rcases hw with rfl | rfl | rfl | rfl | rfl
    · rw [hW, hH]; exact cells_blank hp (by simp; omega) h.cs
    · exact handT_blank hp h.n0
    · exact handT_blank hp h.n1
    · exact num_blank (by have := h.t0; omega) (by have := h.t1; omega)
    · exact num_blank h.q0 (by have := h.q1; omega)
  have e4 : IntKind.i64.wrap (numG (num (p.turn + 1)) - 1) = p.turn := by
    have := h.t0
    have := h.t1
    rw [(num_back (n := p.turn + 1) (by omega) (by omega)).1, IntWalk.i64_in _ (by omega)]; omega
  have e5 : numG (num p.quiet) = p.quiet := (num_back h.q0 (by have := h.q1; omega)).1
  rw [guessP, hcut, partsT]
  simp only [guess5]
  rw [e4, e5, handT_guess hp h.l0 h.n0, handT_guess hp h.l1 h.n1, hW, hH, Int.toNat_natCast, Int.toNat_natCast, cells_guess hp (by omega) hH1 hl h.cs]
theorem readE_text {r : RulesD} {p : PlaceD} (h : POkay r p) : readE r (placeT r p) = 0 := by
  have h1 := placeT_len h
  rw [readE, if_neg (by simpa using h.e), if_neg (by omega), if_pos]
  rw [guess_text h]
  exact ⟨placeE_iff.2 h, rfl⟩
theorem readE_ok {r : RulesD} {s : List UInt8} (h : readE r s = 0) : POkay r (guessP r.pieces s) ∧ placeT r (guessP r.pieces s) = s := by
  unfold readE at h
  split at h
  · rename_i h1; exact absurd h h1
  · split at h
    · cases h
    · split at h
      · rename_i h1; exact ⟨placeE_iff.1 h1.1, h1.2⟩
      · cases h
end Go.Proofs.YtakekeljndofcaaGreatDoor
