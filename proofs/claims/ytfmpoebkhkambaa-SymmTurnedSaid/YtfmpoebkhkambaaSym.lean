/- Plain facts on the symmetries of a board: where they move squares, what follows another, what goes back. Nothing of the program is named here. -/
import Derived.Test.YtfmpoebkhkambaaRows
import Derived.Lib.Hide
namespace Go.Proofs.Ytfmpoebkhkambaa

/-- Where a symmetry moves a square. -/
def mv (w h s q : Nat) : Nat :=
  (if s / 2 % 2 = 1 then h - 1 - (if s < 4 then q / w else q % w) else (if s < 4 then q / w else q % w)) * w
    + (if s % 2 = 1 then w - 1 - (if s < 4 then q % w else q / w) else (if s < 4 then q % w else q / w))
/-- How many symmetries. -/
def cntS (w h : Nat) : Nat := if w = h then 8 else 4
def swapS (b : Nat) : Nat := b / 4 * 4 + b % 2 * 2 + b / 2 % 2
def secS (a b : Nat) : Nat := if a < 4 then b else swapS b
def compS (a b : Nat) : Nat := a ^^^ secS a b
def invS (s : Nat) : Nat := secS s s

/-- A test of all boards. -/
def allB (p : Nat → Nat → Bool) : Bool := (List.range 8).all fun w => (List.range 8).all fun h => p (w + 1) (h + 1)
theorem allB_at {p : Nat → Nat → Bool} (h : allB p = true) (x y : Nat) (x1 : 1 ≤ x) (x8 : x ≤ 8) (y1 : 1 ≤ y) (y8 : y ≤ 8) : p x y = true := by
  rw [allB, List.all_eq_true] at h
  have h1 := h (x - 1) (by simp; omega)
  rw [List.all_eq_true] at h1
  have h2 := h1 (y - 1) (by simp; omega)
  rwa [Nat.sub_add_cancel x1, Nat.sub_add_cancel y1] at h2
def allN (n : Nat) (p : Nat → Bool) : Bool := (List.range n).all p
theorem allN_at {n : Nat} {p : Nat → Bool} (h : allN n p = true) (x : Nat) (hx : x < n) : p x = true := by
  rw [allN, List.all_eq_true] at h
  exact h x (by simp; omega)

theorem mv_facts : allB (fun w h => allN (cntS w h) fun s => allN (w * h) fun q => Nat.blt (mv w h s q) (w * h) && Nat.beq (mv w h (invS s) (mv w h s q)) q && Nat.beq (mv w h s (mv w h (invS s) q)) q) = true := by decide +kernel
theorem comp_facts : allB (fun w h => allN (cntS w h) fun s => allN (cntS w h) fun t => Nat.blt (compS s t) (cntS w h) && allN (w * h) fun q => Nat.beq (mv w h (compS s t) q) (mv w h s (mv w h t q)) && Nat.beq (mv w h (invS t) (mv w h (invS s) q)) (mv w h (invS (compS s t)) q)) = true := by decide +kernel
theorem inv_facts : allN 8 (fun s => Nat.blt (invS s) 8 && (Nat.ble 4 s || Nat.blt (invS s) 4) && allN 8 fun t => Nat.beq (compS (compS s (invS t)) t) s) = true := by decide +kernel

/-- A board's sizes. -/
structure Board (w h : Nat) : Prop where
  w1 : 1 ≤ w
  w8 : w ≤ 8
  h1 : 1 ≤ h
  h8 : h ≤ 8
theorem mv_lt {w h : Nat} (B : Board w h) (s q : Nat) (hs : s < cntS w h) (hq : q < w * h) : mv w h s q < w * h := by
  have := allN_at (allN_at (allB_at mv_facts w h B.w1 B.w8 B.h1 B.h8) s hs) q hq
  simp [Nat.blt] at this; omega
theorem mv_inv {w h : Nat} (B : Board w h) (s q : Nat) (hs : s < cntS w h) (hq : q < w * h) : mv w h (invS s) (mv w h s q) = q := by
  have := allN_at (allN_at (allB_at mv_facts w h B.w1 B.w8 B.h1 B.h8) s hs) q hq
  simp [Nat.blt] at this; omega
theorem mv_inv' {w h : Nat} (B : Board w h) (s q : Nat) (hs : s < cntS w h) (hq : q < w * h) : mv w h s (mv w h (invS s) q) = q := by
  have := allN_at (allN_at (allB_at mv_facts w h B.w1 B.w8 B.h1 B.h8) s hs) q hq
  simp [Nat.blt] at this; omega
theorem comp_lt {w h : Nat} (B : Board w h) (s t : Nat) (hs : s < cntS w h) (ht : t < cntS w h) : compS s t < cntS w h := by
  have := allN_at (allN_at (allB_at comp_facts w h B.w1 B.w8 B.h1 B.h8) s hs) t ht
  simp [Nat.blt] at this; omega
theorem mv_comp {w h : Nat} (B : Board w h) (s t q : Nat) (hs : s < cntS w h) (ht : t < cntS w h) (hq : q < w * h) : mv w h (compS s t) q = mv w h s (mv w h t q) := by
  have := allN_at (allN_at (allB_at comp_facts w h B.w1 B.w8 B.h1 B.h8) s hs) t ht
  rw [Bool.and_eq_true] at this
  have := allN_at this.2 q hq
  simp at this; omega
theorem mv_inv_comp {w h : Nat} (B : Board w h) (s t q : Nat) (hs : s < cntS w h) (ht : t < cntS w h) (hq : q < w * h) : mv w h (invS t) (mv w h (invS s) q) = mv w h (invS (compS s t)) q := by
  have := allN_at (allN_at (allB_at comp_facts w h B.w1 B.w8 B.h1 B.h8) s hs) t ht
  rw [Bool.and_eq_true] at this
  have := allN_at this.2 q hq
  simp at this; omega
theorem cntS_cases (w h : Nat) : cntS w h = 8 ∨ cntS w h = 4 := by unfold cntS; split <;> simp
theorem cntS_le {w h : Nat} : cntS w h ≤ 8 := by rcases cntS_cases w h with e | e <;> omega
theorem cntS_ge {w h : Nat} : 4 ≤ cntS w h := by rcases cntS_cases w h with e | e <;> omega
theorem inv_lt {w h : Nat} (s : Nat) (hs : s < cntS w h) : invS s < cntS w h := by
  have h8 := @cntS_le w h
  have := allN_at inv_facts s (by omega)
  simp [Nat.blt] at this
  rcases cntS_cases w h with e | e <;> omega
theorem comp_back (s t : Nat) (hs : s < 8) (ht : t < 8) : compS (compS s (invS t)) t = s := by
  have := allN_at inv_facts s hs
  rw [Bool.and_eq_true] at this
  have := allN_at this.2 t ht
  simpa using this
theorem mv_zero_of {w h : Nat} (q : Nat) (B : Board w h) : mv w h 0 q = q := by
  have := B.w1
  simp [mv]; rw [Nat.mul_comm]; exact Nat.div_add_mod q w
theorem wh_le {w h : Nat} (B : Board w h) : w * h ≤ 64 := Nat.mul_le_mul B.w8 B.h8
theorem wh_pos {w h : Nat} (B : Board w h) : 1 ≤ w * h := Nat.mul_le_mul B.w1 B.h1
end Go.Proofs.Ytfmpoebkhkambaa
