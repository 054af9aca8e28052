/- The subsets of a word, one after the other: (s - b) & b leads from each to the next one. Plain facts. -/
import Derived.Test.YtffnnpjgfjkmjaaDoorPop
namespace Go.Proofs.YtffnnpjgfjkmjaaDoor
open Go Go.RowKit

theorem and_bit (a b c d : Nat) (ha : a < 2) (hc : c < 2) : (a + 2 * b) &&& (c + 2 * d) = (a &&& c) + 2 * (b &&& d) := by
  have h1 := @Nat.and_mod_two_pow (a + 2 * b) (c + 2 * d) 1
  have h2 := @Nat.and_div_two_pow (a + 2 * b) (c + 2 * d) 1
  rw [show (a + 2 * b) % 2 ^ 1 = a by omega, show (c + 2 * d) % 2 ^ 1 = c by omega] at h1
  rw [show (a + 2 * b) / 2 ^ 1 = b by omega, show (c + 2 * d) / 2 ^ 1 = d by omega] at h2
  omega
/-- The k-th subset of b, of numbers of n bits. -/
def dep : Nat → Nat → Nat → Nat
  | 0, _, _ => 0
  | n + 1, b, k => if b % 2 = 1 then k % 2 + 2 * dep n (b / 2) (k / 2) else 2 * dep n (b / 2) k
theorem dep_le (n b k : Nat) : dep n b k ≤ b := by
  induction n generalizing b k with
  | zero => exact Nat.zero_le _
  | succ n ih =>
    rw [dep]
    split
    · have := ih (b / 2) (k / 2); omega
    · have := ih (b / 2) k; omega
theorem dep_and (n b k : Nat) : dep n b k &&& b = dep n b k := by
  induction n generalizing b k with
  | zero => simp [dep]
  | succ n ih =>
    rw [dep]
    split
    · rename_i h
      have e : b = 1 + 2 * (b / 2) := by omega
      have : (k % 2 + 2 * dep n (b / 2) (k / 2)) &&& (1 + 2 * (b / 2)) = (k % 2 &&& 1) + 2 * (dep n (b / 2) (k / 2) &&& b / 2) := and_bit _ _ _ _ (by omega) (by omega)
      rw [ih, ← e, Nat.and_one_is_mod] at this
      rw [this]; omega
    · have e : b = 0 + 2 * (b / 2) := by omega
      have : (0 + 2 * dep n (b / 2) k) &&& (0 + 2 * (b / 2)) = (0 &&& 0) + 2 * (dep n (b / 2) k &&& b / 2) := and_bit _ _ _ _ (by omega) (by omega)
      rw [ih, ← e] at this
      simpa using this
theorem compl_and (n b d : Nat) (hb : b < 2 ^ n) (hd : d &&& b = d) : (2 ^ n - 1 - (b - d)) &&& b = d := by
  induction n generalizing b d with
  | zero =>
    obtain rfl : b = 0 := by simpa using hb
    simpa using hd
  | succ n ih =>
    have e := and_bit (d % 2) (d / 2) (b % 2) (b / 2) (by omega) (by omega)
    rw [show d % 2 + 2 * (d / 2) = d by omega, show b % 2 + 2 * (b / 2) = b by omega, hd] at e
    have hle : d % 2 &&& b % 2 ≤ 1 := Nat.le_trans Nat.and_le_left (by omega)
    have h1 : d % 2 = d % 2 &&& b % 2 := by omega
    have h2 : d / 2 &&& b / 2 = d / 2 := by omega
    have hdb : d / 2 ≤ b / 2 := by rw [← h2]; exact Nat.and_le_right
    have hdb1 : d % 2 ≤ b % 2 := by rw [h1]; exact Nat.and_le_right
    rw [Nat.pow_succ] at hb
    have ih := ih (b / 2) (d / 2) (by omega) h2
    have e2 := and_bit (1 - (b % 2 - d % 2)) (2 ^ n - 1 - (b / 2 - d / 2)) (b % 2) (b / 2) (by omega) (by omega)
    rw [ih, show b % 2 + 2 * (b / 2) = b by omega] at e2
    rw [Nat.pow_succ, show 2 ^ n * 2 - 1 - (b - d) = 1 - (b % 2 - d % 2) + 2 * (2 ^ n - 1 - (b / 2 - d / 2)) by omega, e2]
    have h3 : (1 - (b % 2 - d % 2)) &&& (b % 2) = d % 2 := by
      have hb2 : b % 2 = 0 ∨ b % 2 = 1 := by omega
      have hd2 : d % 2 = 0 ∨ d % 2 = 1 := by omega
      rcases hb2 with hb2 | hb2
      · rw [show d % 2 = 0 by omega, hb2]; rfl
      · rcases hd2 with hd2 | hd2
        · rw [hb2, hd2]; rfl
        · rw [hb2, hd2]; rfl
    rw [h3]; omega
theorem dep_next (n b k : Nat) (hb : b < 2 ^ n) (hk : k + 1 < 2 ^ pop n b) : ((dep n b k + 2 ^ n - b) % 2 ^ n) &&& b = dep n b (k + 1) := by
  induction n generalizing b k with
  | zero => simp [pop] at hk
  | succ n ih =>
    rw [Nat.pow_succ] at hb
    have hle := dep_le n (b / 2) (k / 2)
    have hle0 := dep_le n (b / 2) k
    rw [pop] at hk
    by_cases h : b % 2 = 1
    · rw [h, Nat.pow_add] at hk
      by_cases hk2 : k % 2 = 0
      · have hc := compl_and n (b / 2) (dep n (b / 2) (k / 2)) (by omega) (dep_and _ _ _)
        have e := and_bit 1 (2 ^ n - 1 - (b / 2 - dep n (b / 2) (k / 2))) 1 (b / 2) (by omega) (by omega)
        rw [hc, show 1 + 2 * (b / 2) = b by omega] at e
        rw [dep, if_pos h, dep, if_pos h, hk2, show (k + 1) / 2 = k / 2 by omega, show (k + 1) % 2 = 1 by omega, Nat.pow_succ,
          show 0 + 2 * dep n (b / 2) (k / 2) + 2 ^ n * 2 - b = 1 + 2 * (2 ^ n - 1 - (b / 2 - dep n (b / 2) (k / 2))) by omega, Nat.mod_eq_of_lt (by omega), e]
        rfl
      · have ih := ih (b / 2) (k / 2) (by omega) (by omega)
        have e := and_bit 0 ((dep n (b / 2) (k / 2) + 2 ^ n - b / 2) % 2 ^ n) 1 (b / 2) (by omega) (by omega)
        rw [ih, show 1 + 2 * (b / 2) = b by omega] at e
        rw [dep, if_pos h, dep, if_pos h, show (k + 1) / 2 = k / 2 + 1 by omega, show (k + 1) % 2 = 0 by omega, show k % 2 = 1 by omega, Nat.pow_succ,
          show 1 + 2 * dep n (b / 2) (k / 2) + 2 ^ n * 2 - b = 2 * (dep n (b / 2) (k / 2) + 2 ^ n - b / 2) by omega, Nat.mul_comm (2 ^ n) 2, Nat.mul_mod_mul_left]
        rw [show 2 * ((dep n (b / 2) (k / 2) + 2 ^ n - b / 2) % 2 ^ n) = 0 + 2 * ((dep n (b / 2) (k / 2) + 2 ^ n - b / 2) % 2 ^ n) by omega, e]
        rfl
    · rw [show b % 2 = 0 by omega, Nat.zero_add] at hk
      have ih := ih (b / 2) k (by omega) hk
      have e := and_bit 0 ((dep n (b / 2) k + 2 ^ n - b / 2) % 2 ^ n) 0 (b / 2) (by omega) (by omega)
      rw [ih, show 0 + 2 * (b / 2) = b by omega] at e
      rw [dep, if_neg h, dep, if_neg h, Nat.pow_succ, show 2 * dep n (b / 2) k + 2 ^ n * 2 - b = 2 * (dep n (b / 2) k + 2 ^ n - b / 2) by omega, Nat.mul_comm (2 ^ n) 2, Nat.mul_mod_mul_left]
      rw [show 2 * ((dep n (b / 2) k + 2 ^ n - b / 2) % 2 ^ n) = 0 + 2 * ((dep n (b / 2) k + 2 ^ n - b / 2) % 2 ^ n) by omega, e]
      rw [Nat.and_zero, Nat.zero_add]
theorem dep_lt (n b j k : Nat) (hb : b < 2 ^ n) (hj : j < k) (hk : k < 2 ^ pop n b) : dep n b j < dep n b k := by
  induction n generalizing b j k with
  | zero => simp [pop] at hk; omega
  | succ n ih =>
    rw [Nat.pow_succ] at hb
    rw [pop] at hk
    by_cases h : b % 2 = 1
    · rw [h, Nat.pow_add] at hk
      rw [dep, if_pos h, dep, if_pos h]
      by_cases e : j / 2 = k / 2
      · rw [e]; omega
      · have := ih (b / 2) (j / 2) (k / 2) (by omega) (by omega) (by omega); omega
    · rw [show b % 2 = 0 by omega, Nat.zero_add] at hk
      rw [dep, if_neg h, dep, if_neg h]
      have := ih (b / 2) j k (by omega) hj hk; omega
theorem dep_zero (n b : Nat) : dep n b 0 = 0 := by
  induction n generalizing b with
  | zero => rfl
  | succ n ih => rw [dep]; split <;> simp [ih]
theorem dep_last (n b : Nat) (hb : b < 2 ^ n) : dep n b (2 ^ pop n b - 1) = b := by
  induction n generalizing b with
  | zero =>
    obtain rfl : b = 0 := by simpa using hb
    rfl
  | succ n ih =>
    rw [Nat.pow_succ] at hb
    have ih := ih (b / 2) (by omega)
    have hp : 0 < 2 ^ pop n (b / 2) := Nat.two_pow_pos _
    rw [pop]
    by_cases h : b % 2 = 1
    · rw [h, Nat.pow_add, dep, if_pos h, show (2 ^ 1 * 2 ^ pop n (b / 2) - 1) / 2 = 2 ^ pop n (b / 2) - 1 by omega, ih]; omega
    · rw [show b % 2 = 0 by omega, Nat.zero_add, dep, if_neg h, ih]; omega

/-! ### The same on words -/
def subW (b : BitVec 64) (k : Nat) : BitVec 64 := BitVec.ofNat 64 (dep 64 b.toNat k)
def many (b : BitVec 64) : Nat := 2 ^ cnt b
theorem subW_nat (b : BitVec 64) (k : Nat) : (subW b k).toNat = dep 64 b.toNat k := by
  rw [subW, BitVec.toNat_ofNat]
  exact Nat.mod_eq_of_lt (Nat.lt_of_le_of_lt (dep_le _ _ _) b.isLt)
theorem subW_zero (b : BitVec 64) : subW b 0 = 0#64 := by rw [subW, dep_zero]
theorem subW_next (b : BitVec 64) (k : Nat) (hk : k + 1 < many b) : (subW b k - b) &&& b = subW b (k + 1) := by
  apply BitVec.eq_of_toNat_eq
  have h := dep_next 64 b.toNat k b.isLt hk
  rw [BitVec.toNat_and, BitVec.toNat_sub, subW_nat, subW_nat, ← h]
  congr 2
  have := b.isLt
  omega
theorem subW_last (b : BitVec 64) : subW b (many b - 1) = b := by
  apply BitVec.eq_of_toNat_eq
  rw [subW_nat]; exact dep_last 64 b.toNat b.isLt
theorem subW_lt (b : BitVec 64) (j k : Nat) (hj : j < k) (hk : k < many b) : (subW b j).toNat < (subW b k).toNat := by
  rw [subW_nat, subW_nat]; exact dep_lt 64 _ _ _ b.isLt hj hk
theorem subW_ne (b : BitVec 64) (k : Nat) (hk : k + 1 < many b) : subW b k ≠ b := by
  intro e
  have h := subW_lt b k (many b - 1) (by omega) (by omega)
  rw [subW_last, e] at h; omega
theorem subW_sub (b : BitVec 64) (k : Nat) : subW b k &&& ~~~b = 0#64 := by
  have h : subW b k &&& b = subW b k := by
    apply BitVec.eq_of_toNat_eq
    rw [BitVec.toNat_and, subW_nat]; exact dep_and _ _ _
  rw [← h, BitVec.and_assoc, BitVec.and_not_self]; exact BitVec.and_zero
theorem many_pos (b : BitVec 64) : 0 < many b := Nat.two_pow_pos _

/-! ### Taking away the least square -/
theorem pop_drop (n x : Nat) (h0 : 0 < x) (hx : x < 2 ^ n) : pop n (x &&& (x - 1)) + 1 = pop n x := by
  induction n generalizing x with
  | zero => omega
  | succ n ih =>
    rw [Nat.pow_succ] at hx
    rw [pop, pop]
    by_cases h : x % 2 = 1
    · have e := and_bit 1 (x / 2) 0 (x / 2) (by omega) (by omega)
      rw [show 1 + 2 * (x / 2) = x by omega, show 0 + 2 * (x / 2) = x - 1 by omega, Nat.and_self] at e
      rw [e, show (1 &&& 0 : Nat) = 0 from rfl, show (0 + 2 * (x / 2)) % 2 = 0 by omega, show (0 + 2 * (x / 2)) / 2 = x / 2 by omega, h]; omega
    · have e := and_bit 0 (x / 2) 1 (x / 2 - 1) (by omega) (by omega)
      rw [show 0 + 2 * (x / 2) = x by omega, show 1 + 2 * (x / 2 - 1) = x - 1 by omega] at e
      have ih := ih (x / 2) (by omega) (by omega)
      rw [e, show (0 &&& 1 : Nat) = 0 from rfl, show (0 + 2 * (x / 2 &&& (x / 2 - 1))) % 2 = 0 by omega, show (0 + 2 * (x / 2 &&& (x / 2 - 1))) / 2 = (x / 2 &&& (x / 2 - 1)) by omega, ← ih]; omega
theorem cnt_drop (b : BitVec 64) (h : b ≠ 0#64) : cnt (b &&& (b - 1#64)) + 1 = cnt b := by
  have h0 : 0 < b.toNat := by
    cases e : b.toNat
    · exact absurd (BitVec.eq_of_toNat_eq (by simpa using e)) h
    · omega
  have := b.isLt
  have e : (b &&& (b - 1#64)).toNat = b.toNat &&& (b.toNat - 1) := by
    rw [BitVec.toNat_and, BitVec.toNat_sub, show (1#64).toNat = 1 from rfl]; congr 1; omega
  rw [cnt, e, pop_drop _ _ h0 b.isLt, cnt]
end Go.Proofs.YtffnnpjgfjkmjaaDoor
