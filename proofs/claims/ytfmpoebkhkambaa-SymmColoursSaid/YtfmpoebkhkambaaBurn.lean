/- SymmColours: plain facts: the colourings that are the least of their forms, counted, are as many as Colours returns; for at most 8 squares and 3 colours. -/
import Derived.Test.YtfmpoebkhkambaaColours
import Derived.Test.YtfmpoebkhkambaaCanon
namespace Go.Proofs.Ytfmpoebkhkambaa
open Go.RowKit Go.Shelf

/-- The cells of colouring x, of which those below k are there. -/
def cTo (A c x k : Nat) : List Int := (List.range A).map fun p => if p < k then ((x / c ^ p % c : Nat) : Int) else 0
def cellsV (A c x : Nat) : List Int := (List.range A).map fun p => ((x / c ^ p % c : Nat) : Int)
theorem cTo_length (A c x k : Nat) : (cTo A c x k).length = A := by simp [cTo]
theorem cellsV_length (A c x : Nat) : (cellsV A c x).length = A := by simp [cellsV]
theorem cTo_zero (A c x : Nat) : vals (cTo A c x 0) = List.replicate A (.int .i64 0) := by
  apply List.ext_getElem
  · simp [vals, cTo]
  · intro i h1 h2; simp [vals, cTo]
theorem cTo_all (A c x : Nat) : cTo A c x A = cellsV A c x := by
  apply List.ext_getElem
  · simp [cTo, cellsV]
  · intro i h1 h2
    have : i < A := by simpa [cTo] using h1
    simp [cTo, cellsV, this]
theorem cTo_set (A c x k : Nat) : (vals (cTo A c x k)).set k (.int .i64 ((x / c ^ k % c : Nat) : Int)) = vals (cTo A c x (k + 1)) := by
  apply List.ext_getElem
  · simp [vals, cTo]
  · intro p h1 h2
    have hp : p < A := by simpa [vals, cTo] using h2
    rw [List.getElem_set]
    by_cases e : k = p
    · subst e; simp [vals, cTo]
    · rw [if_neg e]
      simp only [vals, cTo, List.map_map, List.getElem_map, List.getElem_range, Function.comp]
      by_cases h4 : p < k
      · rw [if_pos h4, if_pos (by omega)]
      · rw [if_neg h4, if_neg (by omega)]
/-- Is it the least of the forms by the symmetries below i? -/
def leastTo (W H : Nat) (cs : List Int) (i : Nat) : Bool := (List.range i).all fun s => !ltL (app W H s cs) cs
theorem leastTo_succ (W H : Nat) (cs : List Int) (i : Nat) : leastTo W H cs (i + 1) = (leastTo W H cs i && !ltL (app W H i cs) cs) := by simp [leastTo, List.range_succ]
/-- How many of the colourings below x are the least ones. -/
def wantTo (W H c x : Nat) : Nat := ((List.range x).filter fun y => leastTo W H (cellsV (W * H) c y) (cntS W H)).length
theorem wantTo_succ (W H c x : Nat) : wantTo W H c (x + 1) = if leastTo W H (cellsV (W * H) c x) (cntS W H) then wantTo W H c x + 1 else wantTo W H c x := by
  rw [wantTo, List.range_succ, List.filter_append, List.filter_cons]
  cases leastTo W H (cellsV (W * H) c x) (cntS W H) <;> simp [wantTo]
theorem wantTo_le (W H c x : Nat) : wantTo W H c x ≤ x := by
  have := List.length_filter_le (fun y => leastTo W H (cellsV (W * H) c y) (cntS W H)) (List.range x); simpa [wantTo] using this

/-! ### The same, as it is reckoned -/
def nth : List Nat → Nat → Nat
  | [], _ => 0
  | x :: _, 0 => x
  | _ :: l, i + 1 => nth l i
theorem nth_is (l : List Nat) (i : Nat) : nth l i = l[i]?.getD 0 := by
  induction l generalizing i with
  | nil => simp [nth]
  | cons x l ih => cases i <;> simp [nth, ih]
/-- Are the numbers at these places lexicographically before the others? -/
def ltP (cs : List Nat) : List Nat → List Nat → Bool
  | i :: l, y :: ys => bif Nat.beq (nth cs i) y then ltP cs l ys else Nat.blt (nth cs i) y
  | _, _ => false
theorem ltP_is (cs : List Nat) : ∀ l ys, ltP cs l ys = ltL (l.map fun i => (nth cs i : Int)) (ys.map fun y : Nat => (y : Int)) := by
  intro l
  induction l with
  | nil => intro ys; cases ys <;> rfl
  | cons i l ih =>
    intro ys
    cases ys with
    | nil => rfl
    | cons y ys =>
      rw [ltP, List.map_cons, List.map_cons, ltL]
      by_cases e : nth cs i = y
      · rw [if_pos (by rw [e]), ih, e, Nat.beq_refl]; rfl
      · rw [if_neg (by omega)]
        have h : Nat.beq (nth cs i) y = false := by
          cases h : Nat.beq (nth cs i) y
          · rfl
          · exact absurd (Nat.eq_of_beq_eq_true h) e
        rw [h, cond_false]
        by_cases g2 : nth cs i < y
        · rw [decide_eq_true (by omega)]; simp only [Nat.blt]; exact Nat.ble_eq_true_of_le (by omega)
        · rw [decide_eq_false (by omega)]
          cases h2 : Nat.blt (nth cs i) y
          · rfl
          · simp only [Nat.blt] at h2; exact absurd (Nat.le_of_ble_eq_true h2) (by omega)
/-- From where the symmetries bring the squares. -/
def permOf (W H s : Nat) : List Nat := (List.range (W * H)).map fun p => mv W H (invS s) p
def digitsV (A c x : Nat) : List Nat := (List.range A).map fun p => x / c ^ p % c
theorem lt_is {W H : Nat} (B : Board W H) (c x s : Nat) (hs : s < cntS W H) : ltL (app W H s (cellsV (W * H) c x)) (cellsV (W * H) c x) = ltP (digitsV (W * H) c x) (permOf W H s) (digitsV (W * H) c x) := by
  rw [ltP_is]
  have e : app W H s (cellsV (W * H) c x) = (permOf W H s).map fun i => (nth (digitsV (W * H) c x) i : Int) := by
    apply List.ext_getElem
    · simp [app_length, permOf]
    · intro p h1 h2
      have hp : p < W * H := by rwa [app_length] at h1
      have h3 := app_at B s hs (cellsV (W * H) c x) p hp
      have h4 := mv_lt B (invS s) p (inv_lt s hs) hp
      have h5 : (app W H s (cellsV (W * H) c x))[p]?.getD 0 = (app W H s (cellsV (W * H) c x))[p] := by rw [List.getElem?_eq_getElem h1]; rfl
      rw [← h5, h3]
      simp [permOf, nth_is, cellsV, digitsV, h4]
  rw [e]
  congr 1
  simp [cellsV, digitsV]
/-- The least by all of these. -/
def leastP (ps : List (List Nat)) (cs : List Nat) : Bool := ps.all fun l => !ltP cs l cs
def cntD (f : Nat → Nat) : Nat → Nat
  | 0 => 0
  | d + 1 => cntD f d + f d
def cntL (p : List Nat → Bool) (c : Nat) : Nat → List Nat → Nat
  | 0, acc => bif p acc then 1 else 0
  | A + 1, acc => cntD (fun d => cntL p c A (d :: acc)) c
theorem cntD_is (M : Nat) (p : Nat → Bool) : ∀ k, cntD (fun d => ((List.range M).filter fun x => p (d * M + x)).length) k = ((List.range (k * M)).filter p).length := by
  intro k
  induction k with
  | zero => simp [cntD]
  | succ k ih =>
    rw [cntD, ih, Nat.succ_mul, List.range_add, List.filter_append, List.length_append, List.filter_map, List.length_map]
    rfl
theorem digits_more (A c d x : Nat) (hd : d < c) (hx : x < c ^ A) : digitsV (A + 1) c (d * c ^ A + x) = digitsV A c x ++ [d] := by
  have hc : 0 < c := by omega
  rw [digitsV, List.range_succ, List.map_append, digitsV]
  congr 1
  · apply List.map_congr_left
    intro p hp
    have hp' : p < A := by simpa using hp
    have e : c ^ A = c ^ p * (c * c ^ (A - p - 1)) := by
      rw [← Nat.pow_succ', ← Nat.pow_add]; congr 1; omega
    rw [e, show d * (c ^ p * (c * c ^ (A - p - 1))) + x = x + c ^ p * (c * (d * c ^ (A - p - 1))) by
      rw [Nat.add_comm]; congr 1; rw [Nat.mul_left_comm d, Nat.mul_left_comm d c]]
    rw [Nat.add_mul_div_left _ _ (Nat.pow_pos hc), Nat.add_mul_mod_self_left]
  · simp only [List.map_cons, List.map_nil]
    rw [Nat.add_comm, Nat.add_mul_div_right _ _ (Nat.pow_pos hc), Nat.div_eq_of_lt hx, Nat.zero_add, Nat.mod_eq_of_lt hd]
theorem cntL_is (p : List Nat → Bool) (c : Nat) : ∀ A acc, cntL p c A acc = ((List.range (c ^ A)).filter fun x => p (digitsV A c x ++ acc)).length := by
  intro A
  induction A with
  | zero => intro acc; rw [cntL]; simp only [Nat.pow_zero, List.range_one, digitsV, List.range_zero, List.map_nil, List.nil_append, List.filter_cons, List.filter_nil]; cases p acc <;> simp
  | succ A ih =>
    intro acc
    rw [cntL]
    have e : ∀ k, k ≤ c → cntD (fun d => cntL p c A (d :: acc)) k = cntD (fun d => ((List.range (c ^ A)).filter fun x => (fun y => p (digitsV (A + 1) c y ++ acc)) (d * c ^ A + x)).length) k := by
      intro k
      induction k with
      | zero => intro _; rfl
      | succ k ihk =>
        intro hk
        rw [cntD, cntD, ihk (by omega), ih]
        congr 2
        apply List.filter_congr
        intro x hx
        have hx' : x < c ^ A := by simpa using hx
        simp only
        rw [digits_more A c k x (by omega) hx', List.append_assoc]; rfl
    rw [e c (Nat.le_refl _), cntD_is (c ^ A) (fun y => p (digitsV (A + 1) c y ++ acc)) c, Nat.pow_succ, Nat.mul_comm]
def idP (A : Nat) : List Nat := List.range A
theorem ltP_id {W H : Nat} (cs : List Nat) (l : List Nat) (h : cs.length = W * H) (e : l = idP (W * H)) : ltP cs l cs = false := by
  rw [ltP_is, e]
  have e2 : ((idP (W * H)).map fun i => (nth cs i : Int)) = cs.map fun y : Nat => (y : Int) := by
    apply List.ext_getElem
    · simp [idP, h]
    · intro i h1 h2
      have : i < cs.length := by simpa using h2
      simp [idP, nth_is, this]
  rw [e2]
  have irr : ∀ a, ltL a a = false := by
    intro a
    induction a with
    | nil => rfl
    | cons x a ih => rw [ltL, if_pos rfl]; exact ih
  exact irr _
/-- The ways in which the squares of the boards with at most 8 squares are exchanged. -/
def permsOf (W H : Nat) : List (List Nat) :=
  if W = 1 ∨ H = 1 then [(List.range (W * H)).reverse] else (List.range (cntS W H - 1)).map fun s => permOf W H (s + 1)
def nEq : List Nat → List Nat → Bool
  | [], [] => true
  | x :: a, y :: b => Nat.beq x y && nEq a b
  | _, _ => false
theorem nEq_eq : ∀ a b, nEq a b = true → a = b := by
  intro a
  induction a with
  | nil => intro b h; cases b with
           | nil => rfl
           | cons y b => simp [nEq] at h
  | cons x a ih =>
    intro b h
    cases b with
    | nil => simp [nEq] at h
    | cons y b =>
      simp only [nEq, Bool.and_eq_true] at h
      rw [Nat.eq_of_beq_eq_true h.1, ih b h.2]
theorem perms_facts : allB (fun w h => Nat.blt 8 (w * h) || (allN (cntS w h) (fun s => nEq (permOf w h s) (idP (w * h)) || (permsOf w h).any fun l => nEq (permOf w h s) l) && (permsOf w h).all fun l => (List.range (cntS w h)).any fun s => nEq l (permOf w h s))) = true := by decide +kernel
theorem least_is {W H : Nat} (B : Board W H) (hA : W * H ≤ 8) (c x : Nat) : leastTo W H (cellsV (W * H) c x) (cntS W H) = leastP (permsOf W H) (digitsV (W * H) c x) := by
  have h := allB_at perms_facts W H B.w1 B.w8 B.h1 B.h8
  rw [Bool.or_eq_true] at h
  rcases h with h | h
  · simp only [Nat.blt] at h; have := Nat.le_of_ble_eq_true h; omega
  · rw [Bool.and_eq_true] at h
    obtain ⟨h1, h2⟩ := h
    rw [leastTo, leastP, Bool.eq_iff_iff, List.all_eq_true, List.all_eq_true]
    have hl : (digitsV (W * H) c x).length = W * H := by simp [digitsV]
    constructor
    · intro g l hl2
      rw [List.all_eq_true] at h2
      have h3 := h2 l hl2
      rw [List.any_eq_true] at h3
      obtain ⟨s, hs, e⟩ := h3
      have hs' : s < cntS W H := by simpa using hs
      have := g s hs
      rw [lt_is B c x s hs', ← nEq_eq _ _ e] at this
      exact this
    · intro g s hs
      have hs' : s < cntS W H := by simpa using hs
      rw [lt_is B c x s hs']
      have h3 := allN_at h1 s hs'
      rw [Bool.or_eq_true] at h3
      rcases h3 with e | e
      · rw [ltP_id _ _ hl (nEq_eq _ _ e)]; rfl
      · rw [List.any_eq_true] at e
        obtain ⟨l, hl2, e⟩ := e
        rw [nEq_eq _ _ e]; exact g l hl2
def wantF (W H c : Nat) : Nat := cntL (leastP (permsOf W H)) c (W * H) []
theorem want_is {W H : Nat} (B : Board W H) (hA : W * H ≤ 8) (c : Nat) : wantTo W H c (c ^ (W * H)) = wantF W H c := by
  rw [wantF, cntL_is, wantTo]
  congr 1
  apply List.filter_congr
  intro x _
  rw [List.append_nil, least_is B hA]
def okB (W H c n : Nat) : Bool := allN n fun s => Nat.ble (c ^ cyc W H s) most
def burnB (W H : Nat) : Bool := allN 4 fun c => okB W H c (cntS W H) && Nat.beq (sumTo W H c (cntS W H) / cntS W H) (wantF W H c)
theorem burn_few : allB (fun w h => Nat.blt 6 (w * h) || burnB w h) = true := by decide +kernel
theorem burn_17 : burnB 1 7 = true := by decide +kernel
theorem burn_71 : burnB 7 1 = true := by decide +kernel
theorem burn_18 : burnB 1 8 = true := by decide +kernel
theorem burn_81 : burnB 8 1 = true := by decide +kernel
theorem burn_24 : burnB 2 4 = true := by decide +kernel
theorem burn_42 : burnB 4 2 = true := by decide +kernel
theorem many_facts : allB (fun w h => Nat.ble (w * h) 6 || Nat.blt 8 (w * h) || (Nat.beq w 1 && Nat.beq h 7) || (Nat.beq w 7 && Nat.beq h 1) || (Nat.beq w 1 && Nat.beq h 8) || (Nat.beq w 8 && Nat.beq h 1) || (Nat.beq w 2 && Nat.beq h 4) || (Nat.beq w 4 && Nat.beq h 2)) = true := by decide +kernel
theorem burn_all {W H : Nat} (B : Board W H) (hA : W * H ≤ 8) : burnB W H = true := by
  have h := allB_at many_facts W H B.w1 B.w8 B.h1 B.h8
  have h6 := allB_at burn_few W H B.w1 B.w8 B.h1 B.h8
  simp only [Bool.or_eq_true, Bool.and_eq_true, Nat.blt, Nat.ble_eq, Nat.beq_eq] at h h6
  rcases h with ((((((h | h) | h) | h) | h) | h) | h) | h
  · rcases h6 with h6 | h6
    · omega
    · exact h6
  · omega
  · rw [h.1, h.2]; exact burn_17
  · rw [h.1, h.2]; exact burn_71
  · rw [h.1, h.2]; exact burn_18
  · rw [h.1, h.2]; exact burn_81
  · rw [h.1, h.2]; exact burn_24
  · rw [h.1, h.2]; exact burn_42
theorem burn {W H : Nat} (B : Board W H) (c : Nat) (hA : W * H ≤ 8) (hc : c ≤ 3) : colV W H c = (((wantTo W H c (c ^ (W * H)) : Nat) : Int), 0) := by
  have h1 := allN_at (burn_all B hA) c (by omega)
  rw [Bool.and_eq_true] at h1
  have ho : OkTo W H c (cntS W H) := fun s hs => Nat.le_of_ble_eq_true (allN_at h1.1 s hs)
  rw [colV, if_pos ho, Nat.eq_of_beq_eq_true h1.2, want_is B hA]
end Go.Proofs.Ytfmpoebkhkambaa
