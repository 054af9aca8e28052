/- The reference's Dec: a number's decimal text. -/
import Derived.Test.YtakekeljndofcaaDoorTxt
set_option maxRecDepth 100000
namespace Go.Proofs.YtakekeljndofcaaDoor
open Go.ChangeShapes Go.WideShapes Go.ChangeAt Go.RowKit

/-- A list of bytes as a string. -/
def str (l : List UInt8) : ByteArray := ⟨l.toArray⟩
theorem str_app (a b : List UInt8) : str a ++ str b = str (a ++ b) := by
  apply ByteArray.ext
  simp [str]
theorem str_size (a : List UInt8) : (str a).size = a.length := by simp [str, ByteArray.size]
def numS (n : Int) : ByteArray := str (num n)
theorem numS_size {n : Int} (h : -7 ≤ n) (h2 : n ≤ 200) : (numS n).size ≤ 3 := by rw [numS, str_size]; exact num_len h h2
theorem dec_digit (n : Nat) (hn : n ≤ 9) (w : World) : Calls Tryd.prog 22 #[.int .i64 n] w fun e w' => e = .returned (.string (numS n)) ∧ w' = w := by
  have HN : Hid (numS n = ⟨#[48 + UInt8.ofNat n]⟩) := Lib.hid (by
    rw [numS, num_digit (by omega) (by omega)]
    have e : UInt8.ofNat (48 + (n : Int).toNat) = 48 + UInt8.ofNat n := by rw [Int.toNat_natCast, UInt8.ofNat_add]; rfl
    rw [e]; rfl)
  have hs : ∀ w, Sem.run Tryd.prog (Instr.slice 9 (.string ⟨#[48, 49, 50, 51, 52, 53, 54, 55, 56, 57]⟩) (some (.int .i64 n)) (some (.int .i64 (n + 1))) none) w = .ok (.string ⟨#[UInt8.ofNat (48 + n)]⟩) w := by
    intro w
    obtain rfl | rfl | rfl | rfl | rfl | rfl | rfl | rfl | rfl | rfl : n = 0 ∨ n = 1 ∨ n = 2 ∨ n = 3 ∨ n = 4 ∨ n = 5 ∨ n = 6 ∨ n = 7 ∨ n = 8 ∨ n = 9 := by omega
    all_goals kernel_rfl
  go_enter Tryd.func22, Tryd.ntmps22
  go_wp2_with fail
  go_ret
  exact ⟨by rw [HN.out]; rfl, rfl⟩
theorem dec_nat (n : Nat) (hn : n ≤ 200) (w : World) : Calls Tryd.prog 22 #[.int .i64 n] w fun e w' => e = .returned (.string (numS n)) ∧ w' = w := by
  induction n using Nat.strongRecOn generalizing w with
  | _ n ih =>
    by_cases h9 : n ≤ 9
    · exact dec_digit n h9 w
    · have HI : Hid (∀ w, Calls Tryd.prog 22 #[.int .i64 ((n : Int) / 10)] w fun e w' => e = .returned (.string (numS ((n : Int) / 10))) ∧ w' = w) := Lib.hid (by
        have h := ih (n / 10) (by omega) (by omega)
        rw [Int.natCast_ediv] at h
        exact h)
      have HJ : Hid (∀ w, Calls Tryd.prog 22 #[.int .i64 ((n : Int) % 10)] w fun e w' => e = .returned (.string (numS ((n : Int) % 10))) ∧ w' = w) := Lib.hid (by
        have h := ih (n % 10) (by omega) (by omega)
        rw [Int.natCast_emod] at h
        exact h)
      have HN : Hid (numS n = numS ((n : Int) / 10) ++ numS ((n : Int) % 10)) := Lib.hid (by rw [numS, num_big (by omega), ← str_app]; rfl)
      have z1 : (numS ((n : Int) / 10)).size ≤ 3 := numS_size (by omega) (by omega)
      have z2 : (numS ((n : Int) % 10)).size ≤ 3 := numS_size (by omega) (by omega)
      clear ih
      go_enter Tryd.func22, Tryd.ntmps22
      go_wp2_with fail
      go_at_call 22; refine (HI.out _).mono ?_; rintro e w' ⟨rfl, rfl⟩
      go_wp2_with fail
      go_at_call 22; refine (HJ.out _).mono ?_; rintro e w' ⟨rfl, rfl⟩
      go_wp2_with fail
      go_ret
      exact ⟨by rw [HN.out]; rfl, rfl⟩
theorem dec_neg (n : Nat) (hn : n ≤ 7) (h0 : 0 < n) (w : World) : Calls Tryd.prog 22 #[.int .i64 (-(n : Int))] w fun e w' => e = .returned (.string (numS (-(n : Int)))) ∧ w' = w := by
  have HI : Hid (∀ w, Calls Tryd.prog 22 #[.int .i64 (n : Int)] w fun e w' => e = .returned (.string (numS (n : Int))) ∧ w' = w) := Lib.hid fun w => dec_nat n (by omega) w
  have HN : Hid (numS (-(n : Int)) = ⟨#[45]⟩ ++ numS (n : Int)) := Lib.hid (by
    have h1 : num (-(n : Int)) = [45] ++ num (n : Int) := by rw [num_neg (by omega), Int.neg_neg]; rfl
    rw [numS, h1, ← str_app]; rfl)
  have z1 : (numS (n : Int)).size ≤ 3 := numS_size (by omega) (by omega)
  go_enter Tryd.func22, Tryd.ntmps22
  go_wp2_with fail
  go_at_call 22; refine (HI.out _).mono ?_; rintro e w' ⟨rfl, rfl⟩
  go_wp2_with fail
  go_ret
  exact ⟨by rw [HN.out]; rfl, rfl⟩
theorem dec_any (n : Int) (h : -7 ≤ n) (h2 : n ≤ 200) (w : World) : Calls Tryd.prog 22 #[.int .i64 n] w fun e w' => e = .returned (.string (numS n)) ∧ w' = w := by
  by_cases hn : 0 ≤ n
  · obtain ⟨k, rfl⟩ := Int.eq_ofNat_of_zero_le hn
    exact dec_nat k (by omega) w
  · obtain ⟨k, hk⟩ := Int.eq_ofNat_of_zero_le (show 0 ≤ -n by omega)
    obtain rfl : n = -(k : Int) := by omega
    exact dec_neg k (by omega) (by omega) w
end Go.Proofs.YtakekeljndofcaaDoor
