/- symm.All and Orbit: what they return; which squares an orbit has. -/
import Derived.Test.YtfmpoebkhkambaaApply
import Derived.Sort.OwnSortedInts
import Derived.Lib.SlicesCompact
namespace Go.Proofs.Ytfmpoebkhkambaa
open Go.RowKit Go.Shelf
attribute [local go_sem] Oper.semAt_some

/-! ### Plain facts: the squares of an orbit -/
def leI (x y : Int) : Bool := decide (x ≤ y)
def ins (x : Int) : List Int → List Int
  | [] => [x]
  | y :: l => if x ≤ y then x :: y :: l else y :: ins x l
def isort : List Int → List Int
  | [] => []
  | x :: l => ins x (isort l)
theorem ins_perm (x : Int) : ∀ l, List.Perm (ins x l) (x :: l) := by
  intro l
  induction l with
  | nil => exact List.Perm.refl _
  | cons y l ih =>
    rw [ins]; split
    · exact List.Perm.refl _
    · exact (List.Perm.cons y ih).trans (List.Perm.swap x y l)
theorem isort_perm : ∀ l, List.Perm (isort l) l := by
  intro l
  induction l with
  | nil => exact List.Perm.refl _
  | cons x l ih => exact (ins_perm x _).trans (List.Perm.cons x ih)
theorem ins_sorted (x : Int) : ∀ l, l.Pairwise (fun a b => leI a b = true) → (ins x l).Pairwise (fun a b => leI a b = true) := by
  intro l
  induction l with
  | nil => intro _; simp [ins]
  | cons y l ih =>
    intro h
    rw [List.pairwise_cons] at h
    rw [ins]; split
    · rename_i hxy
      rw [List.pairwise_cons]
      refine ⟨fun a ha => ?_, List.pairwise_cons.2 h⟩
      rcases List.mem_cons.1 ha with rfl | ha
      · simpa [leI] using hxy
      · have := h.1 a ha; simp only [leI, decide_eq_true_eq] at this ⊢; omega
    · rename_i hxy
      rw [List.pairwise_cons]
      refine ⟨fun a ha => ?_, ih h.2⟩
      rcases List.mem_cons.1 ((ins_perm x l).subset ha) with rfl | ha
      · simp only [leI, decide_eq_true_eq]; omega
      · exact h.1 a ha
theorem isort_sorted : ∀ l, (isort l).Pairwise (fun a b => leI a b = true) := by
  intro l
  induction l with
  | nil => exact List.Pairwise.nil
  | cons x l ih => exact ins_sorted x _ ih
theorem mergeSort_isort (l : List Int) : (l.mergeSort fun x y => decide (x ≤ y)) = isort l := by
  refine List.Perm.eq_of_pairwise (le := fun a b => leI a b = true) (fun a b _ _ h1 h2 => ?_) (List.pairwise_mergeSort (le := leI) ?_ ?_ l) (isort_sorted l) ((List.mergeSort_perm l _).trans (isort_perm l).symm)
  · simp only [leI, decide_eq_true_eq] at h1 h2; omega
  · intro a b c h1 h2; simp only [leI, decide_eq_true_eq] at h1 h2 ⊢; omega
  · intro a b; simp only [leI, Bool.or_eq_true, decide_eq_true_eq]; omega

/-- Where the symmetries below k move a square. -/
def imsTo (W H q k : Nat) : List Int := (List.range k).map fun s => (mv W H s q : Int)
theorem imsTo_succ (W H q k : Nat) : imsTo W H q (k + 1) = imsTo W H q k ++ [(mv W H k q : Int)] := by simp [imsTo, List.range_succ]
theorem imsTo_length (W H q k : Nat) : (imsTo W H q k).length = k := by simp [imsTo]
/-- Does a symmetry move square q to square p? -/
def meets (W H q p : Nat) : Bool := (List.range (cntS W H)).any fun s => Nat.beq (mv W H s q) p
def orbN (W H q : Nat) : List Nat := (List.range (W * H)).filter (meets W H q)
def orb (W H q : Nat) : List Int := (orbN W H q).map fun p : Nat => (p : Int)
theorem meets_iff (W H q p : Nat) : meets W H q p = true ↔ ∃ s, s < cntS W H ∧ mv W H s q = p := by
  rw [meets, List.any_eq_true]
  constructor
  · rintro ⟨s, hs, e⟩; exact ⟨s, by simpa using hs, Nat.eq_of_beq_eq_true e⟩
  · rintro ⟨s, hs, rfl⟩; exact ⟨s, by simpa using hs, Nat.beq_refl _⟩
def listEq : List Int → List Int → Bool
  | [], [] => true
  | x :: a, y :: b => decide (x = y) && listEq a b
  | _, _ => false
theorem listEq_eq : ∀ a b, listEq a b = true → a = b := by
  intro a
  induction a with
  | nil => intro b h; cases b with
           | nil => rfl
           | cons y b => simp [listEq] at h
  | cons x a ih =>
    intro b h
    cases b with
    | nil => simp [listEq] at h
    | cons y b =>
      simp only [listEq, Bool.and_eq_true, decide_eq_true_eq] at h
      rw [h.1, ih b h.2]
theorem orb_facts : allB (fun w h => allN (w * h) fun q => listEq (Lib.compact (isort (imsTo w h q (cntS w h)))) (orb w h q) && Nat.beq (cntS w h % (orbN w h q).length) 0 && Nat.ble 1 (orbN w h q).length && Nat.ble (orbN w h q).length 8) = true := by decide +kernel
theorem orb_compact {W H : Nat} (B : Board W H) (q : Nat) (hq : q < W * H) : Lib.compact ((imsTo W H q (cntS W H)).mergeSort fun x y => decide (x ≤ y)) = orb W H q := by
  have := allN_at (allB_at orb_facts W H B.w1 B.w8 B.h1 B.h8) q hq
  simp only [Bool.and_eq_true] at this
  rw [mergeSort_isort]
  exact listEq_eq _ _ this.1.1.1
theorem orb_div {W H : Nat} (B : Board W H) (q : Nat) (hq : q < W * H) : cntS W H % (orbN W H q).length = 0 := by
  have := allN_at (allB_at orb_facts W H B.w1 B.w8 B.h1 B.h8) q hq
  simp only [Bool.and_eq_true] at this
  exact Nat.eq_of_beq_eq_true this.1.1.2
theorem orb_pos {W H : Nat} (B : Board W H) (q : Nat) (hq : q < W * H) : 1 ≤ (orbN W H q).length := by
  have := allN_at (allB_at orb_facts W H B.w1 B.w8 B.h1 B.h8) q hq
  simp only [Bool.and_eq_true] at this
  exact Nat.le_of_ble_eq_true this.1.2
theorem orb_le {W H : Nat} (B : Board W H) (q : Nat) (hq : q < W * H) : (orbN W H q).length ≤ 8 := by
  have := allN_at (allB_at orb_facts W H B.w1 B.w8 B.h1 B.h8) q hq
  simp only [Bool.and_eq_true] at this
  exact Nat.le_of_ble_eq_true this.2
theorem orb_self {W H : Nat} (B : Board W H) (q : Nat) (hq : q < W * H) : q ∈ orbN W H q := by
  rw [orbN, List.mem_filter]
  exact ⟨by simpa using hq, (meets_iff _ _ _ _).2 ⟨0, by have := @cntS_ge W H; omega, mv_zero_of q B⟩⟩
theorem orb_same {W H : Nat} (B : Board W H) (q x : Nat) (hq : q < W * H) (hx : x ∈ orbN W H q) : orbN W H x = orbN W H q := by
  rw [orbN, List.mem_filter] at hx
  obtain ⟨s, hs, rfl⟩ := (meets_iff _ _ _ _).1 hx.2
  rw [orbN, orbN]
  apply List.filter_congr
  intro p _
  have h8 := @cntS_le W H
  have key : meets W H (mv W H s q) p = true ↔ meets W H q p = true := by
    rw [meets_iff, meets_iff]
    constructor
    · rintro ⟨t, ht, e⟩
      exact ⟨compS t s, comp_lt B t s ht hs, by rw [mv_comp B t s q ht hs hq, e]⟩
    · rintro ⟨t, ht, e⟩
      refine ⟨compS t (invS s), comp_lt B _ _ ht (inv_lt s hs), ?_⟩
      rw [mv_comp B _ _ _ ht (inv_lt s hs) (mv_lt B s q hs hq), mv_inv B s q hs hq, e]
  cases h1 : meets W H (mv W H s q) p <;> cases h2 : meets W H q p
  · rfl
  · rw [key.2 h2] at h1; cases h1
  · rw [key.1 h1] at h2; cases h2
  · rfl
theorem orb_length (W H q : Nat) : (orb W H q).length = (orbN W H q).length := by simp [orb]

/-! ### Sort and Compact at a slice of the call's own -/
theorem vals_append (a b : List Int) : vals (a ++ b) = vals a ++ vals b := by simp [vals]
theorem sort_own {w : World} {base n : Nat} {e : TypeId} {v : Value} {zs : List Int} (h : w.ownsRow base e 1 v n (vals zs)) (hn : 1 ≤ n) (hl : zs.length = n) (h64 : n ≤ 64) :
    Calls Try.prog 35 #[v] w fun en w' => en = .returned (.tuple #[]) ∧ w'.ownsRow base e 1 v n (vals (zs.mergeSort fun x y => decide (x ≤ y))) ∧ ∀ w0, Below base w0 w → base ≤ w.heap.size → Below base w0 w' := by
  subst hl
  rcases h.2 with ⟨_, h0⟩ | ⟨g, cap, cur, rfl, hb, hg, hnc, hcm, hcs, ht⟩
  · omega
  · have hlt : g < w.heap.size := (Array.getElem?_eq_some_iff.1 hg).1
    rw [Nat.mul_one] at ht
    refine (Try.slices_Sort_int g 0 cap zs w (holds_of_blockI hg ht) hlt (by omega)).mono ?_
    rintro en w' ⟨rfl, n, os, rfl⟩
    refine ⟨rfl, ?_, fun w0 hB hle => hB.grown (grownBy_sortedI _) hle (fun k e => by cases e; exact hb)⟩
    exact ownsRow_sortedI (by simp) hb hg hnc hcm hcs
theorem compact_len (zs : List Int) : (Lib.compact zs).length ≤ zs.length := by
  rw [Lib.compact, Lib.compactUpTo, List.length_map]
  have := List.length_filter_le (Lib.keeps zs.toArray) (List.range zs.length)
  simpa using this
theorem compact_own {w : World} {base n : Nat} {e : TypeId} {v : Value} {zs : List Int} (h : w.ownsRow base e 1 v n (vals zs)) (hn : 1 ≤ n) (hl : zs.length = n) (h64 : n ≤ 64) (hc : Lib.compact zs ≠ []) :
    Calls Try.prog 36 #[v] w fun en w' => ∃ v', en = .returned v' ∧ Row w' v' (vals (Lib.compact zs)) ∧ ∀ w0, Below base w0 w → base ≤ w.heap.size → Below base w0 w' := by
  subst hl
  rcases h.2 with ⟨_, h0⟩ | ⟨g, cap, cur, rfl, hb, hg, hnc, hcm, hcs, ht⟩
  · omega
  · rw [Nat.mul_one] at ht
    have hle := compact_len zs
    refine (Try.slices_Compact_int g 0 cap zs w (holds_of_blockI hg ht) (by omega) (by omega)).mono ?_
    rintro en w' ⟨rfl, q, rfl⟩
    have ho := ownsRow_sortedI (n := q) (os := #[]) (ss := zs) (ts := Lib.compact zs ++ List.replicate (zs.length - (Lib.compact zs).length) 0) (by simp; omega) hb hg hnc hcm hcs
    have hg2 := grownBy_sortedI (w := w) (g := g) (n := q) (os := #[]) (Lib.compact zs ++ List.replicate (zs.length - (Lib.compact zs).length) 0).toArray
    rw [Go.Sort.grow_empty] at ho hg2
    refine ⟨_, rfl, .inr ⟨g, 0, cap, by rw [vals_length], by simpa [vals] using hc, by rw [vals_length]; omega, hcm, fun i u hu => ?_⟩, fun w0 hB hle => hB.grown hg2 hle (fun k e => by cases e; exact hb)⟩
    have hi : i < (Lib.compact zs).length := by
      have := (List.getElem?_eq_some_iff.1 hu).1
      rwa [vals_length] at this
    rw [Nat.zero_add]
    have h1 := ho.cellAt i (by omega)
    rw [h1, ← hu]
    change (vals (Lib.compact zs ++ List.replicate (zs.length - (Lib.compact zs).length) 0))[i]? = _
    rw [vals_append, List.getElem?_append_left (by rw [vals_length]; exact hi)]
end Go.Proofs.Ytfmpoebkhkambaa
