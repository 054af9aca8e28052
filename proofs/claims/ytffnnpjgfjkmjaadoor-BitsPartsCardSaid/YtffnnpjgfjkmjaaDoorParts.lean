/- Connected parts of a set of squares: what Fill and Parts promise, as plain facts. -/
import Derived.Test.YtffnnpjgfjkmjaaDoorSquares
namespace Go.Proofs.YtffnnpjgfjkmjaaDoor
open Go Go.RowKit

def sub (a b : BitVec 64) : Prop := ∀ x y, has a x y = true → has b x y = true
theorem sub_antisymm {a b : BitVec 64} (h : sub a b) (k : sub b a) : a = b := by
  apply ext_has; intro x y
  cases e : has a x y
  · cases f : has b x y
    · rfl
    · rw [k x y f] at e; cases e
  · rw [h x y e]
/-- Two squares have an edge in common. -/
def adj (x y u v : Int) : Prop := (u = x - 1 ∧ v = y) ∨ (u = x + 1 ∧ v = y) ∨ (u = x ∧ v = y - 1) ∨ (u = x ∧ v = y + 1)
theorem adj_symm {x y u v : Int} (h : adj x y u v) : adj u v x y := by unfold adj at *; omega
def nbW (r : BitVec 64) : BitVec 64 := shiftV r 1 0 ||| shiftV r (-1) 0 ||| shiftV r 0 1 ||| shiftV r 0 (-1)
theorem has_nb {r : BitVec 64} {x y : Int} : has (nbW r) x y = true ↔ inb x y = true ∧ ∃ u v, adj x y u v ∧ has r u v = true := by
  unfold nbW
  rw [has_or, has_or, has_or, has_shift, has_shift, has_shift, has_shift]
  constructor
  · intro h
    cases hi : inb x y
    · rw [hi] at h; simp at h
    · rw [hi] at h
      simp only [Bool.true_and, Bool.or_eq_true] at h
      refine ⟨rfl, ?_⟩
      rcases h with ((h | h) | h) | h
      · exact ⟨_, _, .inl ⟨rfl, by omega⟩, h⟩
      · exact ⟨_, _, .inr (.inl ⟨by omega, by omega⟩), h⟩
      · exact ⟨_, _, .inr (.inr (.inl ⟨by omega, rfl⟩)), h⟩
      · exact ⟨_, _, .inr (.inr (.inr ⟨by omega, by omega⟩)), h⟩
  · rintro ⟨hi, u, v, ha, h⟩
    rw [hi]
    simp only [Bool.true_and, Bool.or_eq_true]
    rcases ha with ⟨rfl, rfl⟩ | ⟨rfl, rfl⟩ | ⟨rfl, rfl⟩ | ⟨rfl, rfl⟩
    · exact .inl (.inl (.inl (by rw [show v - 0 = v by omega]; exact h)))
    · exact .inl (.inl (.inr (by rw [show x - -1 = x + 1 by omega, show v - 0 = v by omega]; exact h)))
    · exact .inl (.inr (by rw [show u - 0 = u by omega]; exact h))
    · exact .inr (by rw [show u - 0 = u by omega, show y - -1 = y + 1 by omega]; exact h)
/-- From a square of C to its neighbours within w one stays in C. -/
def Closed (w C : BitVec 64) : Prop := ∀ x y u v, has C x y = true → adj x y u v → has w u v = true → has C u v = true
def Starts (a w C : BitVec 64) : Prop := ∀ x y, has a x y = true → has w x y = true → has C x y = true
/-- What Fill promises. -/
def IsFill (a w f : BitVec 64) : Prop := Starts a w f ∧ sub f w ∧ Closed w f ∧ ∀ C, Starts a w C → Closed w C → sub f C
theorem IsFill.unique {a w f g : BitVec 64} (h : IsFill a w f) (k : IsFill a w g) : f = g :=
  sub_antisymm (h.2.2.2 g k.1 k.2.2.1) (k.2.2.2 f h.1 h.2.2.1)
def growW (w r : BitVec 64) : BitVec 64 := w &&& (r ||| nbW r)
theorem has_grow (w r : BitVec 64) (x y : Int) : has (growW w r) x y = (has w x y && (has r x y || has (nbW r) x y)) := by unfold growW; rw [has_and, has_or]
/-- What the loop of Fill keeps. -/
def Filling (a w r : BitVec 64) : Prop := Starts a w r ∧ sub r w ∧ ∀ C, Starts a w C → Closed w C → sub r C
theorem filling_start (a w : BitVec 64) : Filling a w (a &&& w) := by
  refine ⟨fun x y h k => by rw [has_and, h, k]; rfl, fun x y h => ?_, fun C hC _ x y h => ?_⟩
  · rw [has_and, Bool.and_eq_true] at h; exact h.2
  · rw [has_and, Bool.and_eq_true] at h; exact hC x y h.1 h.2
theorem filling_grow {a w r : BitVec 64} (h : Filling a w r) : Filling a w (growW w r) := by
  obtain ⟨h1, h2, h3⟩ := h
  refine ⟨fun x y k l => ?_, fun x y k => ?_, fun C hC hcl x y k => ?_⟩
  · rw [has_grow, l, h1 x y k l]; rfl
  · rw [has_grow, Bool.and_eq_true] at k; exact k.1
  · rw [has_grow, Bool.and_eq_true, Bool.or_eq_true] at k
    rcases k.2 with k2 | k2
    · exact h3 C hC hcl x y k2
    · obtain ⟨_, u, v, ha, hr⟩ := has_nb.1 k2
      exact hcl u v x y (h3 C hC hcl u v hr) (adj_symm ha) k.1
theorem filling_done {a w r : BitVec 64} (h : Filling a w r) (e : growW w r = r) : IsFill a w r := by
  refine ⟨h.1, h.2.1, fun x y u v hr ha hw => ?_, h.2.2⟩
  rw [← e, has_grow, hw, Bool.true_and, Bool.or_eq_true]
  exact .inr (has_nb.2 ⟨inb_iff.2 (has_inb hw), x, y, adj_symm ha, hr⟩)
theorem sub_toNat {a b : BitVec 64} (h : sub a b) : a.toNat ≤ b.toNat := by
  have e : a &&& b = a := by
    apply ext_has; intro x y
    rw [has_and]
    cases f : has a x y
    · rfl
    · rw [h x y f]; rfl
  rw [← e, BitVec.toNat_and]; exact Nat.and_le_right
theorem grow_sub {a w r : BitVec 64} (h : Filling a w r) : sub r (growW w r) := fun x y k => by rw [has_grow, h.2.1 x y k, k]; rfl

/-! ### Parts -/
def orAll : List (BitVec 64) → BitVec 64
  | [] => 0#64
  | p :: r => p ||| orAll r
theorem orAll_snoc (l : List (BitVec 64)) (p : BitVec 64) : orAll (l ++ [p]) = orAll l ||| p := by
  induction l with
  | nil => simp [orAll]
  | cons a l ih => rw [List.cons_append, orAll, ih, orAll, BitVec.or_assoc]
/-- The parts pre have been cut off from b, one after the other, and rest is left. -/
def Cut (b : BitVec 64) (pre : List (BitVec 64)) (rest : BitVec 64) : Prop :=
  rest = b &&& ~~~(orAll pre) ∧ ∀ k, k < pre.length → (b &&& ~~~(orAll (pre.take k))) ≠ 0#64 ∧ IsFill (leastW (b &&& ~~~(orAll (pre.take k)))) (b &&& ~~~(orAll (pre.take k))) (pre[k]?.getD 0#64)
theorem Cut.start {b : BitVec 64} : Cut b [] b := by
  refine ⟨?_, fun k hk => absurd hk (by simp)⟩
  apply ext_has; intro x y
  rw [orAll, has_and, has_not, has_zero]
  cases h : has b x y
  · rfl
  · rw [inb_iff.2 (has_inb h)]; rfl
theorem not_or_and (b o p : BitVec 64) : b &&& ~~~o &&& ~~~p = b &&& ~~~(o ||| p) := by
  rw [BitVec.not_or, BitVec.and_assoc]
theorem Cut.step {b : BitVec 64} (pre : List (BitVec 64)) (rest p : BitVec 64) (h : Cut b pre rest) (hr : rest ≠ 0#64) (hf : IsFill (leastW rest) rest p) : Cut b (pre ++ [p]) (rest &&& ~~~p) := by
  obtain ⟨rfl, h2⟩ := h
  refine ⟨by rw [orAll_snoc, not_or_and], fun k hk => ?_⟩
  by_cases e : k < pre.length
  · have h1 := h2 k e
    rw [List.take_append_of_le_length (by omega), List.getElem?_append_left e]; exact h1
  · have e2 : k = pre.length := by rw [List.length_append] at hk; simp at hk; omega
    subst e2
    rw [List.take_left' rfl]
    refine ⟨hr, ?_⟩
    simpa using hf
theorem Cut.front {b : BitVec 64} {ps : List (BitVec 64)} {r : BitVec 64} (h : Cut b ps r) (k : Nat) (hk : k ≤ ps.length) : Cut b (ps.take k) (b &&& ~~~(orAll (ps.take k))) := by
  refine ⟨rfl, fun j hj => ?_⟩
  rw [List.length_take] at hj
  have h1 := h.2 j (by omega)
  rw [List.take_take, show min j k = j by omega, List.getElem?_take, if_pos (by omega)]
  exact h1
theorem cut_step_facts {b rest p : BitVec 64} {pre : List (BitVec 64)} (hf : IsFill (leastW rest) rest p)
    (h1 : ∀ x y, has rest x y = (has b x y && !has (orAll pre) x y)) (h2 : sub (orAll pre) b) (h3 : Closed b (orAll pre)) : sub (orAll (pre ++ [p])) b ∧ Closed b (orAll (pre ++ [p])) := by
  have hpr : ∀ x y, has p x y = true → has rest x y = true := hf.2.1
  have hpb : ∀ x y, has p x y = true → has b x y = true ∧ has (orAll pre) x y = false := fun x y k => by
    have := hpr x y k
    rw [h1, Bool.and_eq_true] at this
    exact ⟨this.1, by simpa using this.2⟩
  refine ⟨fun x y k => ?_, fun x y u v k ha hb => ?_⟩
  · rw [orAll_snoc, has_or, Bool.or_eq_true] at k
    rcases k with k | k
    · exact h2 x y k
    · exact (hpb x y k).1
  · rw [orAll_snoc, has_or, Bool.or_eq_true] at k ⊢
    rcases k with k | k
    · exact .inl (h3 x y u v k ha hb)
    · cases ho : has (orAll pre) u v
      · right
        exact hf.2.2.1 x y u v k ha (by rw [h1, hb, ho]; rfl)
      · left; rfl
theorem rest_has (b o : BitVec 64) (x y : Int) : has (b &&& ~~~o) x y = (has b x y && !has o x y) := by
  rw [has_and, has_not]
  cases hb : has b x y
  · rfl
  · rw [inb_iff.2 (has_inb hb)]; simp
theorem cut_facts {b : BitVec 64} {pre : List (BitVec 64)} {rest : BitVec 64} (h : Cut b pre rest) :
    (∀ x y, has rest x y = (has b x y && !has (orAll pre) x y)) ∧ sub (orAll pre) b ∧ Closed b (orAll pre) := by
  have key : ∀ k, k ≤ pre.length → sub (orAll (pre.take k)) b ∧ Closed b (orAll (pre.take k)) := by
    intro k
    induction k with
    | zero =>
      intro _
      rw [List.take_zero, orAll]
      exact ⟨(fun x y h => by rw [has_zero] at h; cases h), (fun x y u v h => by rw [has_zero] at h; cases h)⟩
    | succ k ih =>
      intro hk
      obtain ⟨i1, i2⟩ := ih (by omega)
      have hf := (h.2 k (by omega)).2
      have e : pre[k]?.getD 0#64 = pre[k] := by
        have hk' : k < pre.length := by omega
        simp [hk']
      rw [e] at hf
      rw [List.take_succ_eq_append_getElem (by omega)]
      exact cut_step_facts hf (rest_has b _) i1 i2
  obtain ⟨k1, k2⟩ := key pre.length (Nat.le_refl _)
  rw [List.take_length] at k1 k2
  exact ⟨fun x y => by rw [h.1]; exact rest_has _ _ _ _, k1, k2⟩
theorem cut_at {b : BitVec 64} {ps : List (BitVec 64)} {r : BitVec 64} (h : Cut b ps r) : ∀ k (hk : k < ps.length), ∃ rest, Cut b (ps.take k) rest ∧ rest ≠ 0#64 ∧ IsFill (leastW rest) rest (ps[k]'hk) := by
  intro k hk
  have h1 := h.2 k hk
  have e : ps[k]?.getD 0#64 = ps[k] := by simp [hk]
  rw [e] at h1
  exact ⟨_, h.front k (by omega), h1.1, h1.2⟩
theorem cut_all {b : BitVec 64} {ps : List (BitVec 64)} (h : Cut b ps 0#64) : orAll ps = b := by
  obtain ⟨h1, h2, _⟩ := cut_facts h
  refine sub_antisymm h2 fun x y hb => ?_
  have := h1 x y
  rw [has_zero, hb] at this
  cases e : has (orAll ps) x y
  · rw [e] at this; cases this
  · rfl
theorem cut_take {ps : List (BitVec 64)} (k : Nat) (hk : k < ps.length) : orAll (ps.take (k + 1)) = orAll (ps.take k) ||| ps[k] := by
  rw [List.take_succ_eq_append_getElem hk, orAll_snoc]
theorem least_has {r : BitVec 64} (h : r ≠ 0#64) : has (leastW r) ((tzW r % 8 : Nat) : Int) ((tzW r / 8 : Nat) : Int) = true ∧ has r ((tzW r % 8 : Nat) : Int) ((tzW r / 8 : Nat) : Int) = true := by
  obtain ⟨h1, h2⟩ := leastW_bit r h
  rw [has_self _ _ h2, has_self _ _ h2, h1, bitW_at _ _ h2]
  exact ⟨by simp, tz_in r h⟩
theorem has_bitW (s : Nat) (hs : s < 64) (x y : Int) : has (bitW s) x y = true ↔ x = ((s % 8 : Nat) : Int) ∧ y = ((s / 8 : Nat) : Int) := by
  rw [show bitW s = sq ((s % 8 : Nat) : Int) ((s / 8 : Nat) : Int) by rw [sq_nat s hs]; rfl, has_sq]
  constructor
  · intro h; rw [Bool.and_eq_true] at h; simpa using h.2
  · rintro ⟨rfl, rfl⟩; rw [inb_iff.2 (by omega)]; simp
theorem has_leastW {r : BitVec 64} (h : r ≠ 0#64) (x y : Int) : has (leastW r) x y = true ↔ x = ((tzW r % 8 : Nat) : Int) ∧ y = ((tzW r / 8 : Nat) : Int) := by
  obtain ⟨h1, h2⟩ := leastW_bit r h
  rw [h1]; exact has_bitW _ h2 x y
/-- All that the law asks of one part. -/
theorem part_facts {b : BitVec 64} {pre : List (BitVec 64)} {rest p : BitVec 64} (hc : Cut b pre rest) (hr : rest ≠ 0#64) (hf : IsFill (leastW rest) rest p) :
    p ≠ 0#64 ∧ orAll pre &&& p = 0#64 ∧ (∀ dx dy, adj 0 0 dx dy → shiftV p dx dy &&& orAll pre = 0#64) ∧ ∀ s, s < 64 → p.getLsbD s = true → IsFill (bitW s) b p := by
  obtain ⟨h1, h2, h3⟩ := cut_facts hc
  obtain ⟨l1, l2⟩ := least_has hr
  have hpr : ∀ x y, has p x y = true → has rest x y = true := hf.2.1
  have hpb : ∀ x y, has p x y = true → has b x y = true ∧ has (orAll pre) x y = false := fun x y k => by
    have := hpr x y k
    rw [h1, Bool.and_eq_true] at this
    exact ⟨this.1, by simpa using this.2⟩
  have hl : has p ((tzW rest % 8 : Nat) : Int) ((tzW rest / 8 : Nat) : Int) = true := hf.1 _ _ l1 l2
  have hclosed : Closed b p := fun x y u v k ha hb => by
    cases ho : has (orAll pre) u v
    · exact hf.2.2.1 x y u v k ha (by rw [h1, hb, ho]; rfl)
    · have := h3 u v x y ho (adj_symm ha) (hpb x y k).1
      rw [(hpb x y k).2] at this; cases this
  refine ⟨?_, ?_, ?_, ?_⟩
  · intro e; rw [e, has_zero] at hl; cases hl
  · apply ext_has; intro x y
    rw [has_and, has_zero]
    cases k : has p x y
    · simp
    · rw [(hpb x y k).2]; rfl
  · intro dx dy hd
    apply ext_has; intro x y
    rw [has_and, has_shift, has_zero]
    cases k : has p (x - dx) (y - dy)
    · simp
    · cases ho : has (orAll pre) x y
      · simp
      · exfalso
        have ha : adj x y (x - dx) (y - dy) := by unfold adj at *; omega
        have := h3 x y _ _ ho ha (hpb _ _ k).1
        rw [(hpb _ _ k).2] at this; cases this
  · intro s hs hps
    have hsp : has p ((s % 8 : Nat) : Int) ((s / 8 : Nat) : Int) = true := by rw [has_self _ _ hs]; exact hps
    refine ⟨fun x y k _ => ?_, fun x y k => (hpb x y k).1, hclosed, fun C hC hcl => ?_⟩
    · obtain ⟨rfl, rfl⟩ := (has_bitW s hs x y).1 k; exact hsp
    · have hsC : has C ((s % 8 : Nat) : Int) ((s / 8 : Nat) : Int) = true := hC _ _ ((has_bitW s hs _ _).2 ⟨rfl, rfl⟩) (hpb _ _ hsp).1
      have hrb : ∀ x y, has rest x y = true → has b x y = true := fun x y k => by rw [h1, Bool.and_eq_true] at k; exact k.1
      have hlC : has C ((tzW rest % 8 : Nat) : Int) ((tzW rest / 8 : Nat) : Int) = true := by
        cases e : has C ((tzW rest % 8 : Nat) : Int) ((tzW rest / 8 : Nat) : Int)
        · exfalso
          have hD : sub p (p &&& ~~~C) := by
            refine hf.2.2.2 _ (fun x y k _ => ?_) (fun x y u v k ha hw => ?_)
            · obtain ⟨rfl, rfl⟩ := (has_leastW hr x y).1 k
              rw [has_and, has_not, hl, e, inb_iff.2 (has_inb hl)]; rfl
            · rw [has_and, has_not, Bool.and_eq_true, Bool.and_eq_true] at k
              have kp := hf.2.2.1 x y u v k.1 ha hw
              rw [has_and, has_not, kp, inb_iff.2 (has_inb kp)]
              cases ec : has C u v
              · rfl
              · have := hcl u v x y ec (adj_symm ha) (hpb x y k.1).1
                rw [this] at k; simp at k
          have := hD _ _ hsp
          rw [has_and, has_not, hsC] at this; simp at this
        · rfl
      refine hf.2.2.2 C (fun x y k _ => ?_) (fun x y u v k ha hw => hcl x y u v k ha (hrb u v hw))
      obtain ⟨rfl, rfl⟩ := (has_leastW hr x y).1 k
      exact hlC
end Go.Proofs.YtffnnpjgfjkmjaaDoor
