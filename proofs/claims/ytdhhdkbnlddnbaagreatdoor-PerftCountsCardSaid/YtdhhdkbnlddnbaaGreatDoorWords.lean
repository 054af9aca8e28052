/- Plain facts on words of 64 bits, as sets of squares of a board of 8 by 8: how the model's operations on uint64 read as operations on BitVec 64, what a moved set holds, and how many bits a word has. Nothing of the program is named here. -/
import Derived.WalkKit
namespace Go.Proofs.YtdhhdkbnlddnbaaGreatDoor
open Go Go.RowKit

/-! ### The model's operations on uint64 -/
theorem ofInt_toNat (a : BitVec 64) : BitVec.ofInt 64 (a.toNat : Int) = a := by
  apply BitVec.eq_of_toNat_eq
  simp
theorem wrap_u64_mod (n : Int) : IntKind.u64.wrap n = n % 18446744073709551616 := by simp [IntKind.wrap, IntKind.bits, IntKind.signed]
theorem wrap_toNat (a : BitVec 64) : IntKind.u64.wrap (a.toNat : Int) = (a.toNat : Int) := by
  rw [wrap_u64_mod]; have := a.isLt; omega
theorem b_and (a b : BitVec 64) : bits .and .u64 (a.toNat : Int) (b.toNat : Int) = ((a &&& b).toNat : Int) :=
  (u64_and_nat _ _ (by simpa using a.isLt) (by simpa using b.isLt)).trans (by rw [BitVec.toNat_and])
theorem b_or (a b : BitVec 64) : bits .or .u64 (a.toNat : Int) (b.toNat : Int) = ((a ||| b).toNat : Int) :=
  (u64_or_nat _ _ (by simpa using a.isLt) (by simpa using b.isLt)).trans (by rw [BitVec.toNat_or])
theorem b_andNot (a b : BitVec 64) : bits .andNot .u64 (a.toNat : Int) (b.toNat : Int) = ((a &&& ~~~b).toNat : Int) := by
  refine (u64_andNot_nat _ _ (by simpa using a.isLt) (by simpa using b.isLt)).trans ?_
  rw [BitVec.toNat_and, BitVec.toNat_not]
theorem b_shr (a : BitVec 64) (k : Nat) : (a.toNat : Int) / 2 ^ k = ((a >>> k).toNat : Int) := by
  rw [BitVec.toNat_ushiftRight, Nat.shiftRight_eq_div_pow]; norm_cast
theorem b_shl (a : BitVec 64) (k : Nat) : IntKind.u64.wrap ((a.toNat : Int) * 2 ^ k) = ((a <<< k).toNat : Int) := by
  have e : (a.toNat : Int) * 2 ^ k = ((a.toNat * 2 ^ k : Nat) : Int) := by norm_cast
  rw [wrap_u64_mod, BitVec.toNat_shiftLeft, Nat.shiftLeft_eq, e]; omega
theorem b_add (a b : BitVec 64) : IntKind.u64.wrap ((a.toNat : Int) + (b.toNat : Int)) = ((a + b).toNat : Int) := by
  rw [wrap_u64_mod, BitVec.toNat_add]; omega
theorem b_sub (a b : BitVec 64) : IntKind.u64.wrap ((a.toNat : Int) - (b.toNat : Int)) = ((a - b).toNat : Int) := by
  rw [wrap_u64_mod, BitVec.toNat_sub]; have := a.isLt; have := b.isLt; omega
/-- Every number of the kind uint64 is a word's. -/
theorem word_of {x : Int} (h : (Lit.int .u64 x).wf = true) : ∃ b : BitVec 64, x = (b.toNat : Int) := by
  simp [Lit.wf, IntKind.min, IntKind.max, IntKind.signed, IntKind.bits] at h
  exact ⟨BitVec.ofNat 64 x.toNat, by simp; omega⟩
theorem toNat_inj_int {a b : BitVec 64} : ((a.toNat : Int) = (b.toNat : Int)) ↔ a = b :=
  ⟨fun h => BitVec.eq_of_toNat_eq (by omega), fun h => by rw [h]⟩

/-! ### Moved sets -/
def maskN (m : Nat) : BitVec 64 := 72340172838076673#64 * ((255#64 <<< m) &&& 255#64)
def maskP (m : Nat) : BitVec 64 := 72340172838076673#64 * (255#64 >>> m)
theorem maskN_bit : ∀ m : Fin 8, ∀ u : Fin 64, (maskN m.val).getLsbD u.val = decide (m.val ≤ u.val % 8) := by decide +kernel
theorem maskP_bit : ∀ m : Fin 8, ∀ u : Fin 64, (maskP m.val).getLsbD u.val = decide (u.val % 8 < 8 - m.val) := by decide +kernel
theorem maskN_int : ∀ m : Fin 8, IntKind.u64.wrap (72340172838076673 * bits BinOp.and IntKind.u64 (IntKind.u64.wrap (255 * 2 ^ m.val)) 255) = ((maskN m.val).toNat : Int) := by decide +kernel
theorem maskP_int : ∀ m : Fin 8, IntKind.u64.wrap (72340172838076673 * (255 / 2 ^ m.val)) = ((maskP m.val).toNat : Int) := by decide +kernel
def colsV (b : BitVec 64) (dx : Int) : BitVec 64 :=
  if dx < 0 then (b &&& maskN (-dx).toNat) >>> (-dx).toNat else (b &&& maskP dx.toNat) <<< dx.toNat
def rowsV (b : BitVec 64) (dy : Int) : BitVec 64 :=
  if dy < 0 then b >>> (8 * -dy).toNat else b <<< (8 * dy).toNat
def shiftV (b : BitVec 64) (dx dy : Int) : BitVec 64 :=
  if dx ≤ -8 ∨ 8 ≤ dx ∨ dy ≤ -8 ∨ 8 ≤ dy then 0#64 else rowsV (colsV b dx) dy

/-- Is the square in column x and row y on the board? -/
def inb (x y : Int) : Bool := decide (0 ≤ x ∧ x < 8 ∧ 0 ≤ y ∧ y < 8)
/-- Is that square on the board, and in the set? -/
def has (b : BitVec 64) (x y : Int) : Bool := inb x y && b.getLsbD (x + 8 * y).toNat

theorem inb_iff {x y : Int} : inb x y = true ↔ 0 ≤ x ∧ x < 8 ∧ 0 ≤ y ∧ y < 8 := by simp [inb]
theorem inb_no {x y : Int} (h : ¬ (0 ≤ x ∧ x < 8 ∧ 0 ≤ y ∧ y < 8)) : inb x y = false := by
  cases e : inb x y
  · rfl
  · exact absurd (inb_iff.1 e) h
theorem has_of {b : BitVec 64} {x y : Int} (h : 0 ≤ x ∧ x < 8 ∧ 0 ≤ y ∧ y < 8) : has b x y = b.getLsbD (x + 8 * y).toNat := by
  rw [has, inb_iff.2 h, Bool.true_and]
theorem has_no {b : BitVec 64} {x y : Int} (h : ¬ (0 ≤ x ∧ x < 8 ∧ 0 ≤ y ∧ y < 8)) : has b x y = false := by
  rw [has, inb_no h, Bool.false_and]
theorem has_self (b : BitVec 64) (t : Nat) (h : t < 64) : has b ((t % 8 : Nat) : Int) ((t / 8 : Nat) : Int) = b.getLsbD t := by
  rw [has_of (by omega)]; congr 1; omega

theorem colsV_bit (b : BitVec 64) (dx : Int) (h0 : -8 < dx) (h1 : dx < 8) (t : Nat) (ht : t < 64) :
    (colsV b dx).getLsbD t = has b ((t % 8 : Nat) - dx) ((t / 8 : Nat) : Int) := by
  unfold colsV
  by_cases hn : dx < 0
  · obtain ⟨m, rfl⟩ : ∃ m : Nat, dx = -(m : Int) := ⟨(-dx).toNat, by omega⟩
    have e : (- -(m : Int)).toNat = m := by omega
    rw [if_pos hn, e, BitVec.getLsbD_ushiftRight, BitVec.getLsbD_and]
    by_cases hin : t % 8 + m < 8
    · have hm := maskN_bit ⟨m, by omega⟩ ⟨m + t, by omega⟩
      simp only at hm
      rw [hm, has_of (by omega), decide_eq_true (by omega), Bool.and_true]; congr 1; omega
    · rw [has_no (by omega)]
      by_cases h64 : m + t < 64
      · have hm := maskN_bit ⟨m, by omega⟩ ⟨m + t, h64⟩
        simp only at hm
        rw [hm, decide_eq_false (by omega), Bool.and_false]
      · rw [BitVec.getLsbD_of_ge _ _ (by omega), Bool.false_and]
  · obtain ⟨m, rfl⟩ : ∃ m : Nat, dx = (m : Int) := ⟨dx.toNat, by omega⟩
    have e : (m : Int).toNat = m := by omega
    rw [if_neg hn, e, BitVec.getLsbD_shiftLeft]
    by_cases hin : m ≤ t % 8
    · have hm := maskP_bit ⟨m, by omega⟩ ⟨t - m, by omega⟩
      simp only at hm
      rw [BitVec.getLsbD_and, hm, has_of (by omega), decide_eq_true ht, decide_eq_false (by omega : ¬ t < m), decide_eq_true (by omega)]
      simp only [Bool.not_false, Bool.true_and, Bool.and_true]; congr 1; omega
    · rw [has_no (by omega)]
      by_cases hlt : t < m
      · rw [decide_eq_true hlt]; simp
      · have hm := maskP_bit ⟨m, by omega⟩ ⟨t - m, by omega⟩
        simp only at hm
        rw [BitVec.getLsbD_and, hm, decide_eq_false (by omega : ¬ (t - m) % 8 < 8 - m)]; simp
theorem rowsV_bit (b : BitVec 64) (dy : Int) (h0 : -8 < dy) (h1 : dy < 8) (t : Nat) (ht : t < 64) :
    (rowsV b dy).getLsbD t = has b ((t % 8 : Nat) : Int) ((t / 8 : Nat) - dy) := by
  unfold rowsV
  by_cases hn : dy < 0
  · rw [if_pos hn, BitVec.getLsbD_ushiftRight]
    by_cases hin : ((t / 8 : Nat) : Int) - dy < 8
    · rw [has_of (by omega)]; congr 1; omega
    · rw [has_no (by omega), BitVec.getLsbD_of_ge _ _ (by omega)]
  · rw [if_neg hn, BitVec.getLsbD_shiftLeft]
    by_cases hin : 0 ≤ ((t / 8 : Nat) : Int) - dy
    · rw [has_of (by omega), decide_eq_true ht, decide_eq_false (by omega : ¬ t < (8 * dy).toNat)]
      simp only [Bool.not_false, Bool.true_and]; congr 1; omega
    · rw [has_no (by omega), decide_eq_true (by omega : t < (8 * dy).toNat)]; simp
theorem shiftV_bit (b : BitVec 64) (dx dy : Int) (t : Nat) (ht : t < 64) :
    (shiftV b dx dy).getLsbD t = has b ((t % 8 : Nat) - dx) ((t / 8 : Nat) - dy) := by
  unfold shiftV
  by_cases hf : dx ≤ -8 ∨ 8 ≤ dx ∨ dy ≤ -8 ∨ 8 ≤ dy
  · rw [if_pos hf, has_no (by omega)]; simp
  · rw [if_neg hf, rowsV_bit _ _ (by omega) (by omega) t ht]
    by_cases hin : 0 ≤ ((t / 8 : Nat) : Int) - dy ∧ ((t / 8 : Nat) : Int) - dy < 8
    · rw [has_of (by omega), colsV_bit _ _ (by omega) (by omega) _ (by omega)]
      congr 1 <;> omega
    · rw [has_no (by omega), has_no (by omega)]
theorem has_shift (b : BitVec 64) (dx dy x y : Int) : has (shiftV b dx dy) x y = (inb x y && has b (x - dx) (y - dy)) := by
  by_cases h : 0 ≤ x ∧ x < 8 ∧ 0 ≤ y ∧ y < 8
  · rw [has_of h, inb_iff.2 h, Bool.true_and, shiftV_bit _ _ _ _ (by omega)]; congr 1 <;> omega
  · rw [has_no h, inb_no h, Bool.false_and]
theorem ext_has {a b : BitVec 64} (h : ∀ x y, has a x y = has b x y) : a = b := by
  apply BitVec.eq_of_getLsbD_eq
  intro t ht
  rw [← has_self a t ht, ← has_self b t ht, h]
theorem has_and (a b : BitVec 64) (x y : Int) : has (a &&& b) x y = (has a x y && has b x y) := by
  unfold has; rw [BitVec.getLsbD_and]; cases inb x y <;> simp
theorem has_or (a b : BitVec 64) (x y : Int) : has (a ||| b) x y = (has a x y || has b x y) := by
  unfold has; rw [BitVec.getLsbD_or]; cases inb x y <;> simp
theorem has_not (a : BitVec 64) (x y : Int) : has (~~~a) x y = (inb x y && !has a x y) := by
  by_cases h : 0 ≤ x ∧ x < 8 ∧ 0 ≤ y ∧ y < 8
  · rw [has_of h, has_of h, inb_iff.2 h, BitVec.getLsbD_not, decide_eq_true (by omega)]
  · rw [has_no h, inb_no h]; rfl
theorem has_zero (x y : Int) : has 0#64 x y = false := by unfold has; simp
theorem has_inb {b : BitVec 64} {x y : Int} (h : has b x y = true) : 0 ≤ x ∧ x < 8 ∧ 0 ≤ y ∧ y < 8 := by
  cases e : inb x y
  · rw [has, e] at h; simp at h
  · exact inb_iff.1 e
end Go.Proofs.YtdhhdkbnlddnbaaGreatDoor
