/- How many bits a word of 64 bits has: the sum that math/bits.OnesCount64 forms, step by step, is that number; and shifting a word without loss keeps it. Nothing of the program is named here. -/
import Derived.Test.YtffnnpjgfjkmjaaDoorWords
namespace Go.Proofs.YtffnnpjgfjkmjaaDoor
open Go Go.RowKit

/-- The number of ones among the lowest n bits. -/
def pop : Nat → Nat → Nat
  | 0, _ => 0
  | n + 1, x => x % 2 + pop n (x / 2)

theorem pop_zero (n : Nat) : pop n 0 = 0 := by induction n with
  | zero => rfl
  | succ n ih => simpa [pop] using ih
theorem pop_le (n x : Nat) : pop n x ≤ n := by
  induction n generalizing x with
  | zero => simp [pop]
  | succ n ih => have := ih (x / 2); simp only [pop]; omega
theorem pop_more (n m x : Nat) (h : x < 2 ^ n) : pop (n + m) x = pop n x := by
  induction n generalizing x with
  | zero => obtain rfl : x = 0 := by simpa using h
            rw [pop_zero]; rfl
  | succ n ih => rw [show n + 1 + m = (n + m) + 1 by omega]; simp only [pop]; rw [ih (x / 2) (by rw [Nat.pow_succ] at h; omega)]
theorem pop_split (n m x : Nat) : pop (n + m) x = pop n (x % 2 ^ n) + pop m (x / 2 ^ n) := by
  induction n generalizing x with
  | zero => simp [pop]
  | succ n ih =>
    rw [show n + 1 + m = (n + m) + 1 by omega]; simp only [pop]; rw [ih]
    have e1 : x % 2 ^ (n + 1) % 2 = x % 2 := by rw [Nat.pow_succ, Nat.mod_mul_left_mod]
    have e2 : x % 2 ^ (n + 1) / 2 = x / 2 % 2 ^ n := by rw [Nat.pow_succ, Nat.mul_comm, Nat.mod_mul_right_div_self]
    have e3 : x / 2 ^ (n + 1) = x / 2 / 2 ^ n := by rw [Nat.pow_succ, Nat.mul_comm, Nat.div_div_eq_div_mul]
    rw [e1, e2, e3]; omega
theorem pop_shift (k n x : Nat) : pop (k + n) (x * 2 ^ k) = pop n x := by
  rw [pop_split, Nat.mul_mod_left, pop_zero, Nat.mul_div_cancel _ (Nat.two_pow_pos k)]; omega
theorem pop_shift64 (k x : Nat) (h : x * 2 ^ k < 2 ^ 64) : pop 64 (x * 2 ^ k) = pop 64 x := by
  have hx : x < 2 ^ 64 := Nat.lt_of_le_of_lt (Nat.le_mul_of_pos_right x (Nat.two_pow_pos k)) h
  rw [← pop_more 64 k _ h, show 64 + k = k + 64 by omega, pop_shift]

/-! ### The steps of OnesCount64, a byte at a time -/
/-- f at each of the n lowest bytes. -/
def bytes (f : Nat → Nat) : Nat → Nat → Nat
  | 0, _ => 0
  | n + 1, x => f (x % 256) + 256 * bytes f n (x / 256)
/-- The byte v in each of the n lowest places. -/
def rep (v : Nat) : Nat → Nat
  | 0 => 0
  | n + 1 => v + 256 * rep v n
theorem and_byte (a b c d : Nat) (ha : a < 256) (hc : c < 256) : (a + 256 * b) &&& (c + 256 * d) = (a &&& c) + 256 * (b &&& d) := by
  have h1 := @Nat.and_mod_two_pow (a + 256 * b) (c + 256 * d) 8
  have h2 := @Nat.and_div_two_pow (a + 256 * b) (c + 256 * d) 8
  rw [show (a + 256 * b) % 2 ^ 8 = a by omega, show (c + 256 * d) % 2 ^ 8 = c by omega] at h1
  rw [show (a + 256 * b) / 2 ^ 8 = b by omega, show (c + 256 * d) / 2 ^ 8 = d by omega] at h2
  omega
def f1 (v : Nat) : Nat := (v / 2 &&& 85) + (v &&& 85)
def f2 (v : Nat) : Nat := (v / 4 &&& 51) + (v &&& 51)
def f3 (v : Nat) : Nat := v % 16 + v / 16
theorem half_and : ∀ a : Fin 128, ∀ b : Fin 2, (a.val + 128 * b.val) &&& 85 = a.val &&& 85 := by decide +kernel
theorem quart_and : ∀ a : Fin 64, ∀ b : Fin 4, (a.val + 64 * b.val) &&& 51 = a.val &&& 51 := by decide +kernel
theorem step1 (n x : Nat) : (x / 2 &&& rep 85 n) + (x &&& rep 85 n) = bytes f1 n x := by
  induction n generalizing x with
  | zero => simp [rep, bytes]
  | succ n ih =>
    have h := half_and ⟨x % 256 / 2, by omega⟩ ⟨x / 256 % 2, by omega⟩
    simp only at h
    have e1 : x / 2 = (x % 256 / 2 + 128 * (x / 256 % 2)) + 256 * (x / 256 / 2) := by omega
    have e2 : x &&& rep 85 (n + 1) = (x % 256 &&& 85) + 256 * (x / 256 &&& rep 85 n) := by
      rw [show x = x % 256 + 256 * (x / 256) by omega, rep, and_byte _ _ _ _ (by omega) (by omega)]; congr 1 <;> congr 2 <;> omega
    have e3 : x / 2 &&& rep 85 (n + 1) = (x % 256 / 2 &&& 85) + 256 * (x / 256 / 2 &&& rep 85 n) := by
      rw [e1, rep, and_byte _ _ _ _ (by omega) (by omega), h]
    rw [e2, e3, bytes, ← ih, f1]; omega
theorem step2 (n x : Nat) : (x / 4 &&& rep 51 n) + (x &&& rep 51 n) = bytes f2 n x := by
  induction n generalizing x with
  | zero => simp [rep, bytes]
  | succ n ih =>
    have h := quart_and ⟨x % 256 / 4, by omega⟩ ⟨x / 256 % 4, by omega⟩
    simp only at h
    have e1 : x / 4 = (x % 256 / 4 + 64 * (x / 256 % 4)) + 256 * (x / 256 / 4) := by omega
    have e2 : x &&& rep 51 (n + 1) = (x % 256 &&& 51) + 256 * (x / 256 &&& rep 51 n) := by
      rw [show x = x % 256 + 256 * (x / 256) by omega, rep, and_byte _ _ _ _ (by omega) (by omega)]; congr 1 <;> congr 2 <;> omega
    have e3 : x / 4 &&& rep 51 (n + 1) = (x % 256 / 4 &&& 51) + 256 * (x / 256 / 4 &&& rep 51 n) := by
      rw [e1, rep, and_byte _ _ _ _ (by omega) (by omega), h]
    rw [e2, e3, bytes, ← ih, f2]; omega
/-- Both halves of each byte are at most 4. -/
def small : Nat → Nat → Prop
  | 0, x => x = 0
  | n + 1, x => x % 256 % 16 ≤ 4 ∧ x % 256 / 16 ≤ 4 ∧ small n (x / 256)
theorem small_low (n x : Nat) (h : small n x) : x % 16 ≤ 4 := by
  cases n with
  | zero => have : x = 0 := h; omega
  | succ n => have := h.1; omega
theorem step3 (n x : Nat) (h : small n x) : (x / 16 + x) &&& rep 15 n = bytes f3 n x := by
  induction n generalizing x with
  | zero => simp [rep, bytes]
  | succ n ih =>
    obtain ⟨h1, h2, h3⟩ := h
    have hl := small_low n _ h3
    have e : x / 16 + x = (x % 256 + x % 256 / 16 + 16 * (x / 256 % 16)) + 256 * (x / 256 / 16 + x / 256) := by omega
    rw [e, rep, and_byte _ _ _ _ (by omega) (by omega), ih _ h3, bytes, f3, show (15 : Nat) = 2 ^ 4 - 1 from rfl, Nat.and_two_pow_sub_one_eq_mod]
    omega
theorem f_byte : ∀ v : Fin 256, f1 v.val < 256 ∧ f2 (f1 v.val) < 256 ∧ f2 (f1 v.val) % 16 ≤ 4 ∧ f2 (f1 v.val) / 16 ≤ 4 ∧ f3 (f2 (f1 v.val)) = pop 8 v.val := by decide +kernel
theorem bytes_f21 (n x : Nat) : bytes f2 n (bytes f1 n x) = bytes (fun v => f2 (f1 v)) n x := by
  induction n generalizing x with
  | zero => rfl
  | succ n ih =>
    have h := f_byte ⟨x % 256, by omega⟩
    simp only at h
    simp only [bytes]
    rw [show (f1 (x % 256) + 256 * bytes f1 n (x / 256)) % 256 = f1 (x % 256) by omega, show (f1 (x % 256) + 256 * bytes f1 n (x / 256)) / 256 = bytes f1 n (x / 256) by omega, ih]
theorem bytes_small (n x : Nat) : small n (bytes (fun v => f2 (f1 v)) n x) := by
  induction n generalizing x with
  | zero => rfl
  | succ n ih =>
    have h := f_byte ⟨x % 256, by omega⟩
    simp only at h
    simp only [bytes, small]
    refine ⟨by omega, by omega, ?_⟩
    rw [show (f2 (f1 (x % 256)) + 256 * bytes (fun v => f2 (f1 v)) n (x / 256)) / 256 = bytes (fun v => f2 (f1 v)) n (x / 256) by omega]
    exact ih _
theorem bytes_f321 (n x : Nat) : bytes f3 n (bytes (fun v => f2 (f1 v)) n x) = bytes (pop 8) n x := by
  induction n generalizing x with
  | zero => rfl
  | succ n ih =>
    have h := f_byte ⟨x % 256, by omega⟩
    simp only at h
    simp only [bytes]
    rw [show (f2 (f1 (x % 256)) + 256 * bytes (fun v => f2 (f1 v)) n (x / 256)) % 256 = f2 (f1 (x % 256)) by omega,
      show (f2 (f1 (x % 256)) + 256 * bytes (fun v => f2 (f1 v)) n (x / 256)) / 256 = bytes (fun v => f2 (f1 v)) n (x / 256) by omega, ih, h.2.2.2.2]
theorem bytes_lt (f : Nat → Nat) (hf : ∀ v : Fin 256, f v.val < 256) (n x : Nat) : bytes f n x < 256 ^ n := by
  induction n generalizing x with
  | zero => simp [bytes]
  | succ n ih =>
    have h := hf ⟨x % 256, by omega⟩
    simp only at h
    have := ih (x / 256)
    simp only [bytes]; rw [Nat.pow_succ]; omega
def pop3 (x : Nat) : Nat :=
  let a := (x / 2 &&& 6148914691236517205) + (x &&& 6148914691236517205)
  let b := (a / 4 &&& 3689348814741910323) + (a &&& 3689348814741910323)
  (b / 16 + b) &&& 1085102592571150095
theorem pop3_eq (x : Nat) : pop3 x = bytes (pop 8) 8 x := by
  unfold pop3
  have e1 : 6148914691236517205 = rep 85 8 := by decide
  have e2 : 3689348814741910323 = rep 51 8 := by decide
  have e3 : 1085102592571150095 = rep 15 8 := by decide
  simp only [e1, e2, e3, step1, step2, bytes_f21]
  rw [step3 _ _ (bytes_small _ _), bytes_f321]
/-- What the last four lines make of the eight counts. -/
def fold8 (c : Nat) : Nat :=
  let a := c + c / 256
  let b := a + a / 65536
  (b + b / 4294967296) % 128
theorem low_off (r q : Nat) (h : r < 256) : (r + 256 * q) / 256 = q := by omega
theorem div_4 (b : Nat) : b / 4294967296 = b / 256 / 256 / 256 / 256 := by omega
theorem div_2 (b : Nat) : b / 65536 = b / 256 / 256 := by omega
/-- Eight counts, one in each byte. -/
def eight (c0 c1 c2 c3 c4 c5 c6 c7 : Nat) : Nat := c0 + 256 * (c1 + 256 * (c2 + 256 * (c3 + 256 * (c4 + 256 * (c5 + 256 * (c6 + 256 * (c7 + 256 * 0)))))))
theorem eight_div (c0 c1 c2 c3 c4 c5 c6 c7 : Nat) (h0 : c0 < 256) : eight c0 c1 c2 c3 c4 c5 c6 c7 / 256 = eight c1 c2 c3 c4 c5 c6 c7 0 := by
  unfold eight; rw [low_off _ _ h0]
theorem eight_add (c0 c1 c2 c3 c4 c5 c6 c7 d0 d1 d2 d3 d4 d5 d6 d7 : Nat) :
    eight c0 c1 c2 c3 c4 c5 c6 c7 + eight d0 d1 d2 d3 d4 d5 d6 d7 = eight (c0 + d0) (c1 + d1) (c2 + d2) (c3 + d3) (c4 + d4) (c5 + d5) (c6 + d6) (c7 + d7) := by
  unfold eight; omega
theorem eight_mod (c0 c1 c2 c3 c4 c5 c6 c7 : Nat) (h0 : c0 < 128) : eight c0 c1 c2 c3 c4 c5 c6 c7 % 128 = c0 := by
  unfold eight; omega
theorem eight_lt (c0 c1 c2 c3 c4 c5 c6 c7 : Nat) (h0 : c0 ≤ 64) (h1 : c1 ≤ 64) (h2 : c2 ≤ 64) (h3 : c3 ≤ 64) (h4 : c4 ≤ 64) (h5 : c5 ≤ 64) (h6 : c6 ≤ 64) (h7 : c7 ≤ 64) :
    eight c0 c1 c2 c3 c4 c5 c6 c7 < 2 ^ 64 := by
  unfold eight; omega
theorem fold8_sum (c0 c1 c2 c3 c4 c5 c6 c7 : Nat) (h0 : c0 ≤ 8) (h1 : c1 ≤ 8) (h2 : c2 ≤ 8) (h3 : c3 ≤ 8) (h4 : c4 ≤ 8) (h5 : c5 ≤ 8) (h6 : c6 ≤ 8) (h7 : c7 ≤ 8) (c : Nat) (hc : c = eight c0 c1 c2 c3 c4 c5 c6 c7) :
    fold8 c = c0 + (c1 + (c2 + (c3 + (c4 + (c5 + (c6 + c7)))))) ∧
    c + c / 256 < 2 ^ 64 ∧ c + c / 256 + (c + c / 256) / 65536 < 2 ^ 64 ∧ c + c / 256 + (c + c / 256) / 65536 + (c + c / 256 + (c + c / 256) / 65536) / 4294967296 < 2 ^ 64 := by
  have ha : c + c / 256 = eight (c0 + c1) (c1 + c2) (c2 + c3) (c3 + c4) (c4 + c5) (c5 + c6) (c6 + c7) (c7 + 0) := by
    rw [hc, eight_div _ _ _ _ _ _ _ _ (by omega), eight_add]
  have hb : c + c / 256 + (c + c / 256) / 65536 = eight (c0 + c1 + (c2 + c3)) (c1 + c2 + (c3 + c4)) (c2 + c3 + (c4 + c5)) (c3 + c4 + (c5 + c6)) (c4 + c5 + (c6 + c7)) (c5 + c6 + (c7 + 0)) (c6 + c7 + 0) (c7 + 0 + 0) := by
    rw [ha, div_2, eight_div _ _ _ _ _ _ _ _ (by omega), eight_div _ _ _ _ _ _ _ _ (by omega), eight_add]
  have hd : c + c / 256 + (c + c / 256) / 65536 + (c + c / 256 + (c + c / 256) / 65536) / 4294967296 = eight (c0 + c1 + (c2 + c3) + (c4 + c5 + (c6 + c7))) (c1 + c2 + (c3 + c4) + (c5 + c6 + (c7 + 0))) (c2 + c3 + (c4 + c5) + (c6 + c7 + 0)) (c3 + c4 + (c5 + c6) + (c7 + 0 + 0)) (c4 + c5 + (c6 + c7) + 0) (c5 + c6 + (c7 + 0) + 0) (c6 + c7 + 0 + 0) (c7 + 0 + 0 + 0) := by
    rw [hb, div_4, eight_div _ _ _ _ _ _ _ _ (by omega), eight_div _ _ _ _ _ _ _ _ (by omega), eight_div _ _ _ _ _ _ _ _ (by omega), eight_div _ _ _ _ _ _ _ _ (by omega), eight_add]
  refine ⟨?_, ?_, ?_, ?_⟩
  · unfold fold8
    simp only
    rw [hd, eight_mod _ _ _ _ _ _ _ _ (by omega)]; omega
  · rw [ha]; apply eight_lt <;> omega
  · rw [hb]; apply eight_lt <;> omega
  · rw [hd]; apply eight_lt <;> omega
theorem pop_none (x : Nat) : pop 0 x = 0 := rfl
theorem bytes_eight (x : Nat) : bytes (pop 8) 8 x = eight (pop 8 (x % 256)) (pop 8 (x / 256 % 256)) (pop 8 (x / 256 / 256 % 256)) (pop 8 (x / 256 / 256 / 256 % 256)) (pop 8 (x / 256 / 256 / 256 / 256 % 256)) (pop 8 (x / 256 / 256 / 256 / 256 / 256 % 256)) (pop 8 (x / 256 / 256 / 256 / 256 / 256 / 256 % 256)) (pop 8 (x / 256 / 256 / 256 / 256 / 256 / 256 / 256 % 256)) := rfl
theorem pop_last (x : Nat) : pop 8 x = pop 8 (x % 256) := by
  have := pop_split 8 0 x; simpa [pop_none] using this
theorem pop_eight (x : Nat) : pop 64 x = pop 8 (x % 256) + (pop 8 (x / 256 % 256) + (pop 8 (x / 256 / 256 % 256) + (pop 8 (x / 256 / 256 / 256 % 256) + (pop 8 (x / 256 / 256 / 256 / 256 % 256) + (pop 8 (x / 256 / 256 / 256 / 256 / 256 % 256) + (pop 8 (x / 256 / 256 / 256 / 256 / 256 / 256 % 256) + (pop 8 (x / 256 / 256 / 256 / 256 / 256 / 256 / 256 % 256)))))))) := by
  rw [show (64 : Nat) = 8 + (8 + (8 + (8 + (8 + (8 + (8 + (8 + 0))))))) by rfl]
  simp only [pop_split 8, show (2 : Nat) ^ 8 = 256 by rfl, Nat.add_zero]
  have := pop_last (x / 256 / 256 / 256 / 256 / 256 / 256 / 256)
  omega
theorem fold8_eq (x : Nat) : fold8 (bytes (pop 8) 8 x) = pop 64 x :=
  (fold8_sum _ _ _ _ _ _ _ _ (pop_le 8 (x % 256)) (pop_le 8 (x / 256 % 256)) (pop_le 8 (x / 256 / 256 % 256)) (pop_le 8 (x / 256 / 256 / 256 % 256)) (pop_le 8 (x / 256 / 256 / 256 / 256 % 256)) (pop_le 8 (x / 256 / 256 / 256 / 256 / 256 % 256)) (pop_le 8 (x / 256 / 256 / 256 / 256 / 256 / 256 % 256)) (pop_le 8 (x / 256 / 256 / 256 / 256 / 256 / 256 / 256 % 256)) _ (bytes_eight x)).1.trans (pop_eight x).symm
theorem fold8_bounds (x : Nat) : let c := bytes (pop 8) 8 x; c + c / 256 < 2 ^ 64 ∧ c + c / 256 + (c + c / 256) / 65536 < 2 ^ 64 ∧ c + c / 256 + (c + c / 256) / 65536 + (c + c / 256 + (c + c / 256) / 65536) / 4294967296 < 2 ^ 64 :=
  (fold8_sum _ _ _ _ _ _ _ _ (pop_le 8 (x % 256)) (pop_le 8 (x / 256 % 256)) (pop_le 8 (x / 256 / 256 % 256)) (pop_le 8 (x / 256 / 256 / 256 % 256)) (pop_le 8 (x / 256 / 256 / 256 / 256 % 256)) (pop_le 8 (x / 256 / 256 / 256 / 256 / 256 % 256)) (pop_le 8 (x / 256 / 256 / 256 / 256 / 256 / 256 % 256)) (pop_le 8 (x / 256 / 256 / 256 / 256 / 256 / 256 / 256 % 256)) _ (bytes_eight x)).2

/-! ### The word's own form of the sum -/
def m1 : BitVec 64 := 6148914691236517205#64
def m2 : BitVec 64 := 3689348814741910323#64
def m4 : BitVec 64 := 1085102592571150095#64
def popA (b : BitVec 64) : BitVec 64 := (b >>> 1 &&& m1) + (b &&& m1)
def popB (b : BitVec 64) : BitVec 64 := (b >>> 2 &&& m2) + (b &&& m2)
def popC (b : BitVec 64) : BitVec 64 := (b >>> 4 + b) &&& m4
def popD (b : BitVec 64) : BitVec 64 := b + b >>> 8
def popE (b : BitVec 64) : BitVec 64 := b + b >>> 16
def popF (b : BitVec 64) : BitVec 64 := b + b >>> 32
/-- How many squares a set has. -/
def cnt (b : BitVec 64) : Nat := pop 64 b.toNat
theorem cnt_le (b : BitVec 64) : cnt b ≤ 64 := pop_le _ _
theorem bytes_lt8 (f : Nat → Nat) (hf : ∀ v : Fin 256, f v.val < 256) (x : Nat) : bytes f 8 x < 2 ^ 64 := by
  have := bytes_lt f hf 8 x; rwa [show (256 : Nat) ^ 8 = 2 ^ 64 by rfl] at this
theorem popA_nat (b : BitVec 64) : (popA b).toNat = bytes f1 8 b.toNat := by
  have h := step1 8 b.toNat
  have hl := bytes_lt8 f1 (fun v => (f_byte v).1) b.toNat
  rw [← h] at hl ⊢
  rw [show rep 85 8 = 6148914691236517205 by decide] at hl ⊢
  unfold popA m1
  rw [BitVec.toNat_add, BitVec.toNat_and, BitVec.toNat_and, BitVec.toNat_ushiftRight, Nat.shiftRight_eq_div_pow]
  exact Nat.mod_eq_of_lt hl
theorem popB_nat (b : BitVec 64) (x : Nat) (hb : b.toNat = bytes f1 8 x) : (popB b).toNat = bytes (fun v => f2 (f1 v)) 8 x := by
  have h := step2 8 b.toNat
  rw [hb, bytes_f21, ← hb] at h
  have hl := bytes_lt8 (fun v => f2 (f1 v)) (fun v => (f_byte v).2.1) x
  rw [← h] at hl ⊢
  rw [show rep 51 8 = 3689348814741910323 by decide] at hl ⊢
  unfold popB m2
  rw [BitVec.toNat_add, BitVec.toNat_and, BitVec.toNat_and, BitVec.toNat_ushiftRight, Nat.shiftRight_eq_div_pow]
  exact Nat.mod_eq_of_lt hl
theorem small_lt (n x : Nat) (h : small n x) (hn : 0 < n) : x < 69 * 256 ^ (n - 1) := by
  induction n generalizing x with
  | zero => omega
  | succ n ih =>
    obtain ⟨h1, h2, h3⟩ := h
    cases n with
    | zero => have : x / 256 = 0 := h3; simp; omega
    | succ n =>
      have := ih _ h3 (by omega)
      simp only [Nat.add_sub_cancel] at this ⊢
      rw [Nat.pow_succ]; omega
theorem popC_nat (b : BitVec 64) (x : Nat) (hb : b.toNat = bytes (fun v => f2 (f1 v)) 8 x) : (popC b).toNat = bytes (pop 8) 8 x := by
  have hs := bytes_small 8 x
  have h := step3 8 b.toNat (by rw [hb]; exact hs)
  rw [hb, bytes_f321, ← hb] at h
  have hl := small_lt 8 _ hs (by omega)
  rw [← hb] at hl
  rw [← h, show rep 15 8 = 1085102592571150095 by decide]
  unfold popC m4
  rw [BitVec.toNat_and, BitVec.toNat_add, BitVec.toNat_ushiftRight, Nat.shiftRight_eq_div_pow, Nat.mod_eq_of_lt (by omega)]
  rfl
theorem popF_nat (b : BitVec 64) : ((popF (popE (popD (popC (popB (popA b)))))).toNat % 128) = cnt b := by
  have hc := popC_nat (popB (popA b)) b.toNat (popB_nat _ _ (popA_nat b))
  obtain ⟨h1, h2, h3⟩ := fold8_bounds b.toNat
  rw [cnt, ← fold8_eq, ← hc]
  rw [← hc] at h1 h2 h3
  generalize popC (popB (popA b)) = c at *
  unfold popF popE popD fold8
  simp only [BitVec.toNat_add, BitVec.toNat_ushiftRight, Nat.shiftRight_eq_div_pow]
  omega

/-! ### Sets and their numbers of squares -/
theorem cnt_zero : cnt 0#64 = 0 := pop_zero 64
/-- A word that is another one, shifted without loss, has as many ones. -/
theorem cnt_shift (a b : BitVec 64) (d : Nat) (h : ∀ t, t < 64 → a.getLsbD t = (decide (d ≤ t) && b.getLsbD (t - d))) (hl : ∀ s, s < 64 → 64 ≤ s + d → b.getLsbD s = false) :
    cnt a = cnt b := by
  have e : a.toNat = b.toNat * 2 ^ d := by
    rw [← Nat.shiftLeft_eq]
    apply Nat.eq_of_testBit_eq
    intro i
    rw [Nat.testBit_shiftLeft, BitVec.testBit_toNat, BitVec.testBit_toNat]
    by_cases hi : i < 64
    · exact h i hi
    · rw [BitVec.getLsbD_of_ge a i (by omega)]
      by_cases hd : d ≤ i
      · by_cases hs : i - d < 64
        · rw [hl (i - d) hs (by omega)]; simp
        · rw [BitVec.getLsbD_of_ge b _ (by omega)]; simp
      · simp [hd]
  have hlt := a.isLt
  rw [e] at hlt
  rw [cnt, e, pop_shift64 _ _ hlt, cnt]
/-- What is moved there and back has as many squares as what was moved there. -/
theorem cnt_back (b : BitVec 64) (dx dy : Int) : cnt (shiftV (shiftV b dx dy) (-dx) (-dy)) = cnt (shiftV b dx dy) := by
  have hto : ∀ t, t < 64 → (shiftV b dx dy).getLsbD t = has b ((t % 8 : Nat) - dx) ((t / 8 : Nat) - dy) := shiftV_bit b dx dy
  have hback : ∀ t, t < 64 → (shiftV (shiftV b dx dy) (-dx) (-dy)).getLsbD t = (inb ((t % 8 : Nat) + dx) ((t / 8 : Nat) + dy) && b.getLsbD t) := by
    intro t ht
    rw [shiftV_bit _ _ _ _ ht, has_shift, ← has_self b t ht]
    congr 2 <;> omega
  by_cases hd : 0 ≤ dx + 8 * dy
  · symm
    apply cnt_shift _ _ (dx + 8 * dy).toNat
    · intro t ht
      rw [hto t ht]
      by_cases hin : 0 ≤ ((t % 8 : Nat) : Int) - dx ∧ ((t % 8 : Nat) : Int) - dx < 8 ∧ 0 ≤ ((t / 8 : Nat) : Int) - dy ∧ ((t / 8 : Nat) : Int) - dy < 8
      · rw [has_of hin, decide_eq_true (by omega), Bool.true_and, hback _ (by omega), inb_iff.2 (by omega), Bool.true_and]; congr 1; omega
      · rw [has_no hin]
        by_cases hle : (dx + 8 * dy).toNat ≤ t
        · rw [hback _ (by omega), inb_no (by omega)]; simp
        · simp [hle]
    · intro s hs h64
      rw [hback s hs, inb_no (by omega), Bool.false_and]
  · apply cnt_shift _ _ (-(dx + 8 * dy)).toNat
    · intro t ht
      rw [hback t ht]
      by_cases hin : 0 ≤ ((t % 8 : Nat) : Int) + dx ∧ ((t % 8 : Nat) : Int) + dx < 8 ∧ 0 ≤ ((t / 8 : Nat) : Int) + dy ∧ ((t / 8 : Nat) : Int) + dy < 8
      · rw [inb_iff.2 hin, Bool.true_and, decide_eq_true (by omega), Bool.true_and, hto _ (by omega), has_of (by omega)]; congr 1; omega
      · rw [inb_no hin, Bool.false_and]
        by_cases hle : (-(dx + 8 * dy)).toNat ≤ t
        · rw [hto _ (by omega), has_no (by omega)]; simp
        · simp [hle]
    · intro s hs h64
      rw [hto s hs, has_no (by omega)]
theorem stay_zero (b : BitVec 64) (dx dy : Int) : shiftV (shiftV b dx dy) (-dx) (-dy) &&& ~~~b = 0#64 := by
  apply ext_has
  intro x y
  rw [has_and, has_not, has_shift, has_shift, has_zero, show x - -dx - dx = x by omega, show y - -dy - dy = y by omega]
  cases inb x y <;> cases has b x y <;> simp
theorem there_again (b : BitVec 64) (dx dy : Int) : shiftV (shiftV (shiftV b dx dy) (-dx) (-dy)) dx dy = shiftV b dx dy := by
  apply ext_has
  intro x y
  rw [has_shift, has_shift, show x - dx - -dx = x by omega, show y - dy - -dy = y by omega, has_shift]
  cases e : inb x y
  · rfl
  · cases h : has b (x - dx) (y - dy)
    · simp
    · simp [inb_iff.2 (has_inb h)]
end Go.Proofs.YtffnnpjgfjkmjaaDoor
