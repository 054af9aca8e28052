/- The squares of a word in increasing order; its least square, and what is left behind it. Plain facts. -/
import Derived.Test.YtffnnpjgfjkmjaaDoorRay
import Derived.Test.YtffnnpjgfjkmjaaDoorSubs
import Derived.Lib.TrailingZeros
namespace Go.Proofs.YtffnnpjgfjkmjaaDoor
open Go Go.RowKit

/-- The squares of a set, in increasing order. -/
def squares (b : BitVec 64) : List Nat := (List.range 64).filter fun t => b.getLsbD t
def leastW (b : BitVec 64) : BitVec 64 := b &&& -b
def tzW (b : BitVec 64) : Nat := Lib.ctz 64 b.toNat
def dropW (b : BitVec 64) : BitVec 64 := b &&& ~~~(leastW b)

theorem b_neg (a : BitVec 64) : IntKind.u64.wrap (-(a.toNat : Int)) = ((-a).toNat : Int) := by
  rw [wrap_u64_mod, BitVec.toNat_neg]; have := a.isLt; omega
theorem toNat_pos {b : BitVec 64} (h : b ≠ 0#64) : b.toNat ≠ 0 := fun e => h (BitVec.eq_of_toNat_eq (by simpa using e))
theorem leastW_bit (b : BitVec 64) (h : b ≠ 0#64) : leastW b = bitW (tzW b) ∧ tzW b < 64 := by
  obtain ⟨h1, h2⟩ := Lib.lowest_bit 64 b.toNat (toNat_pos h) b.isLt
  refine ⟨?_, h2⟩
  apply BitVec.eq_of_toNat_eq
  have e3 : (2 ^ 64 - b.toNat) % 2 ^ 64 = 2 ^ 64 - b.toNat := Nat.mod_eq_of_lt (by have := toNat_pos h; have := b.isLt; omega)
  have e4 : 2 ^ tzW b % 2 ^ 64 = 2 ^ tzW b := Nat.mod_eq_of_lt (Nat.pow_lt_pow_right (by omega) h2)
  rw [leastW, bitW, BitVec.toNat_and, BitVec.toNat_neg, BitVec.toNat_shiftLeft, show (1#64).toNat = 1 from rfl, Nat.shiftLeft_eq, Nat.one_mul, e3, e4, h1]; rfl
theorem bitW_at (s t : Nat) (hs : s < 64) : (bitW s).getLsbD t = decide (t = s) := by
  rw [bitW, BitVec.getLsbD_shiftLeft, BitVec.getLsbD_one]
  by_cases e : t = s
  · subst e; simp [hs]
  · by_cases h : t < s
    · simp [e, h]
    · have : t - s ≠ 0 := by omega
      simp [e, this]
theorem tz_in (b : BitVec 64) (h : b ≠ 0#64) : b.getLsbD (tzW b) = true := by
  obtain ⟨h1, h2⟩ := leastW_bit b h
  have h3 : (leastW b).getLsbD (tzW b) = true := by rw [h1, bitW_at _ _ h2]; simp
  rw [leastW, BitVec.getLsbD_and, Bool.and_eq_true] at h3
  exact h3.1
/-- No square lies below the least one. -/
theorem tz_below (b : BitVec 64) (h : b ≠ 0#64) (s : Nat) (hs : s < tzW b) : b.getLsbD s = false := by
  obtain ⟨h1, h2⟩ := leastW_bit b h
  obtain ⟨m, e, _⟩ := Lib.ctzFrom_spec 64 b.toNat (by have := toNat_pos h; omega) b.isLt
  have e2 : Lib.ctzFrom 64 b.toNat = tzW b := by rw [tzW, Lib.ctz, if_neg (toNat_pos h)]
  rw [e2] at e
  rw [← BitVec.testBit_toNat, e, Nat.mul_comm, Nat.testBit_mul_two_pow]
  simp; omega
theorem dropW_at (b : BitVec 64) (h : b ≠ 0#64) (t : Nat) (ht : t < 64) : (dropW b).getLsbD t = (b.getLsbD t && !decide (t = tzW b)) := by
  obtain ⟨h1, h2⟩ := leastW_bit b h
  rw [dropW, h1, BitVec.getLsbD_and, BitVec.getLsbD_not, bitW_at _ _ h2]; simp [ht]
theorem squares_upto (b : BitVec 64) (h : b ≠ 0#64) (n : Nat) (hn : n ≤ 64) :
    (List.range n).filter (fun t => b.getLsbD t) = (if tzW b < n then [tzW b] else []) ++ (List.range n).filter (fun t => (dropW b).getLsbD t) := by
  induction n with
  | zero => simp
  | succ n ih =>
    have ih := ih (by omega)
    have hd := dropW_at b h n (by omega)
    rw [List.range_succ, List.filter_append, List.filter_append, ih]
    by_cases e : n = tzW b
    · have hb : b.getLsbD n = true := by rw [e]; exact tz_in b h
      have hd' : (dropW b).getLsbD n = false := by rw [hd, e]; simp
      have hnil : (List.range n).filter (fun t => (dropW b).getLsbD t) = [] := by
        apply List.filter_eq_nil_iff.2
        intro t ht
        have ht := List.mem_range.1 ht
        rw [dropW_at b h t (by omega), tz_below b h t (by omega)]; simp
      rw [if_neg (by omega), if_pos (by omega), hnil]
      simp only [List.filter_cons, List.filter_nil, hb, hd', if_true, Bool.false_eq_true, if_false, List.nil_append, List.append_nil, ← e]
    · by_cases hlt : tzW b < n
      · have e2 : (dropW b).getLsbD n = b.getLsbD n := by rw [hd]; simp [e]
        rw [if_pos hlt, if_pos (by omega)]
        simp only [List.filter_cons, List.filter_nil, e2, List.append_assoc]
      · have hb : b.getLsbD n = false := tz_below b h n (by omega)
        have hd' : (dropW b).getLsbD n = false := by rw [hd, hb]; rfl
        rw [if_neg hlt, if_neg (by omega)]
        simp [hb, hd']
theorem squares_cons (b : BitVec 64) (h : b ≠ 0#64) : squares b = tzW b :: squares (dropW b) := by
  have := squares_upto b h 64 (by omega)
  rw [if_pos (leastW_bit b h).2] at this
  exact this
theorem squares_zero : squares 0#64 = [] := by
  rw [squares]; apply List.filter_eq_nil_iff.2; intro t _; simp
theorem squares_lt (b : BitVec 64) (t : Nat) (h : t ∈ squares b) : t < 64 ∧ b.getLsbD t = true := by
  rw [squares, List.mem_filter, List.mem_range] at h; exact h
theorem mem_squares (b : BitVec 64) (t : Nat) (ht : t < 64) (h : b.getLsbD t = true) : t ∈ squares b := by
  rw [squares, List.mem_filter, List.mem_range]; exact ⟨ht, h⟩
theorem dropW_toNat (b : BitVec 64) (h : b ≠ 0#64) : (dropW b).toNat < b.toNat := by
  have hle : (dropW b).toNat ≤ b.toNat := by rw [dropW, BitVec.toNat_and]; exact Nat.and_le_left
  have hne : dropW b ≠ b := by
    intro e
    have h1 := dropW_at b h (tzW b) (leastW_bit b h).2
    rw [e, tz_in b h] at h1; simp at h1
  have : (dropW b).toNat ≠ b.toNat := fun e => hne (BitVec.eq_of_toNat_eq e)
  omega
/-- As many as there are ones. -/
theorem squares_length (b : BitVec 64) : (squares b).length = cnt b := by
  have key : ∀ (n : Nat) (x : Nat), ((List.range n).filter fun t => x.testBit t).length = pop n x := by
    intro n
    induction n with
    | zero => intro x; rfl
    | succ n ih =>
      intro x
      rw [List.range_succ_eq_map, List.filter_cons, List.filter_map, pop]
      have e : ((fun t => x.testBit t) ∘ Nat.succ) = fun t => (x / 2).testBit t := by
        funext t; simp only [Function.comp, Nat.testBit_succ]
      have h0 : x.testBit 0 = decide (x % 2 = 1) := Nat.testBit_zero x
      rw [e, h0]
      by_cases h : x % 2 = 1
      · simp [h, ih]; omega
      · simp [h, ih]; omega
  rw [cnt, ← key 64 b.toNat, squares]
  congr 1
theorem squares_le (b : BitVec 64) : (squares b).length ≤ 64 := by rw [squares_length]; exact cnt_le b
/-- The table that gives the place of the one bit that is left. -/
theorem table_at (b : BitVec 64) (h : b ≠ 0#64) :
    (IntKind.u64.wrap (bits BinOp.and IntKind.u64 (b.toNat : Int) (IntKind.u64.wrap (-(b.toNat : Int))) * 285870213051353865) / 288230376151711744) = ((2 ^ tzW b * 285870213051353865 % 18446744073709551616 / 288230376151711744 : Nat) : Int) := by
  obtain ⟨h1, h2⟩ := leastW_bit b h
  have e : bits BinOp.and IntKind.u64 (b.toNat : Int) (IntKind.u64.wrap (-(b.toNat : Int))) = ((leastW b).toNat : Int) := by rw [b_neg, b_and, leastW]
  have e2 : (leastW b).toNat = 2 ^ tzW b := by
    rw [h1, bitW, BitVec.toNat_shiftLeft, show (1#64).toNat = 1 from rfl, Nat.shiftLeft_eq, Nat.one_mul, Nat.mod_eq_of_lt (Nat.pow_lt_pow_right (by omega) h2)]
  rw [e, e2, wrap_u64_mod]
  generalize 2 ^ tzW b = m
  omega
end Go.Proofs.YtffnnpjgfjkmjaaDoor
