/- symm.power and Colours: what they return. -/
import Derived.Test.YtfmpoebkhkambaaCycles
namespace Go.Proofs.Ytfmpoebkhkambaa
open Go.RowKit Go.Shelf

def most : Nat := 281474976710656
theorem pow_over {b k n : Nat} (hk : k ≤ n) (h : most < b ^ k) : most < b ^ n := by
  have hb : 0 < b := by
    rcases Nat.eq_zero_or_pos b with e | e
    · subst e
      cases k with
      | zero => simp [most] at h
      | succ k => rw [Nat.zero_pow (by omega)] at h; omega
    · exact e
  exact Nat.lt_of_lt_of_le h (Nat.pow_le_pow_right hb hk)

set_option maxHeartbeats 1000000 in
theorem power_ok (b n : Nat) (hn : n ≤ 64) (h : b ^ n ≤ most) (w : World) :
    Calls Try.prog 41 #[.int .i64 (b : Int), .int .i64 (n : Int)] w fun e w' => e = .returned (.tuple #[.int .i64 (b ^ n : Nat), .bool true]) ∧ w' = w := by
  have HH : Hid (∀ k, k ≤ n → b ^ k ≤ 281474976710656) := Lib.hid (fun k hk => by
    by_cases g : most < b ^ k
    · have := pow_over hk g; omega
    · simp only [most] at g ⊢; omega)
  obtain ⟨R, hR⟩ : ∃ R : Nat, R = b ^ n := ⟨_, rfl⟩
  rw [← hR]
  have HR : Hid _ := Lib.hid hR
  clear h hR
  go_enter Try.func41, Try.ntmps41
  go_wp2
  go_loopw [6, 8] (fun p i wr => ∃ k P : Nat, k ≤ n ∧ i = .int .i64 (k : Int) ∧ p = .int .i64 (P : Int) ∧ Hid (P = b ^ k) ∧ wr = w) (fun _ i _ => n - (intOf i).toNat)
  case atStart => exact ⟨0, 1, by omega, rfl, rfl, Lib.hid (by simp), rfl⟩
  case round =>
    obtain ⟨k, P, hk, rfl, rfl, hP, rfl⟩ := hrel
    by_cases hlt : k < n
    · have hP1 : P ≤ 281474976710656 := by rw [hP.out]; exact HH.out k hk
      obtain ⟨P2, hP2⟩ : ∃ P2 : Nat, P2 = P * b := ⟨_, rfl⟩
      have HP2 : Hid (P2 = b ^ (k + 1)) := Lib.hid (by rw [hP2, hP.out, Nat.pow_succ])
      have hle2 : P2 ≤ 281474976710656 := by rw [HP2.out]; exact HH.out (k + 1) (by omega)
      have hm : (P : Int) * (b : Int) = (P2 : Int) := by rw [hP2]; norm_cast
      clear hP2
      go_wp2_with fail
      go_roundw
      case rel => exact ⟨k + 1, P2, by omega, by go_num, rfl, HP2, trivial⟩
      case measure => simp [intOf]; omega
    · have HK : Hid (P = R) := Lib.hid (by rw [hP.out, HR.out, show k = n by omega])
      go_wp2
      go_ret2
      rw [HK.out]
      exact ⟨rfl, rfl⟩
set_option maxHeartbeats 1000000 in
theorem power_large (b n : Nat) (hb : b ≤ 16) (hn : n ≤ 64) (h : most < b ^ n) (w : World) :
    Calls Try.prog 41 #[.int .i64 (b : Int), .int .i64 (n : Int)] w fun e w' => e = .returned (.tuple #[.int .i64 0, .bool false]) ∧ w' = w := by
  have HH : Hid _ := Lib.hid h
  clear h
  go_enter Try.func41, Try.ntmps41
  go_wp2
  go_loopw [6, 8] (fun p i wr => ∃ k P : Nat, k ≤ n ∧ i = .int .i64 (k : Int) ∧ p = .int .i64 (P : Int) ∧ P ≤ 281474976710656 ∧ Hid (P = b ^ k) ∧ wr = w) (fun _ i _ => n - (intOf i).toNat)
  case atStart => exact ⟨0, 1, by omega, rfl, rfl, by omega, Lib.hid (by simp), rfl⟩
  case round =>
    obtain ⟨k, P, hk, rfl, rfl, hP1, hP, rfl⟩ := hrel
    by_cases hlt : k < n
    · obtain ⟨P2, hP2⟩ : ∃ P2 : Nat, P2 = P * b := ⟨_, rfl⟩
      have HP2 : Hid (P2 = b ^ (k + 1)) := Lib.hid (by rw [hP2, hP.out, Nat.pow_succ])
      have hle2 : P2 ≤ 281474976710656 * 16 := by rw [hP2]; exact Nat.mul_le_mul hP1 hb
      have hm : (P : Int) * (b : Int) = (P2 : Int) := by rw [hP2]; norm_cast
      clear hP2
      by_cases hbig : 281474976710656 < P2
      · go_wp2_with fail
        go_ret2
        exact ⟨rfl, rfl⟩
      · go_wp2_with fail
        go_roundw
        case rel => exact ⟨k + 1, P2, by omega, by go_num, rfl, by omega, HP2, trivial⟩
        case measure => simp [intOf]; omega
    · exfalso
      have h1 := hP.out
      rw [show k = n by omega] at h1
      have h2 := HH.out
      simp only [most] at h2
      omega

/-- The sum over the symmetries below k. -/
def sumTo (W H c k : Nat) : Nat := ((List.range k).map fun s => c ^ cyc W H s).sum
def OkTo (W H c k : Nat) : Prop := ∀ s, s < k → c ^ cyc W H s ≤ most
instance (W H c k : Nat) : Decidable (OkTo W H c k) := inferInstanceAs (Decidable (∀ s, s < k → c ^ cyc W H s ≤ most))
theorem sumTo_succ (W H c k : Nat) : sumTo W H c (k + 1) = sumTo W H c k + c ^ cyc W H k := by simp [sumTo, List.range_succ]
theorem sumTo_le (W H c : Nat) : ∀ k, OkTo W H c k → sumTo W H c k ≤ k * most := by
  intro k
  induction k with
  | zero => intro _; simp [sumTo]
  | succ k ih =>
    intro h
    rw [sumTo_succ, Nat.succ_mul]
    have h1 := ih (fun s hs => h s (by omega))
    have h2 := h k (by omega)
    omega
/-- What Colours returns of a board and of a number of colours. -/
def colV (W H c : Nat) : Int × Int := if OkTo W H c (cntS W H) then (((sumTo W H c (cntS W H) / cntS W H : Nat) : Int), 0) else (0, 2)
instance (a b : Int) : Decidable (IsB a b) := inferInstanceAs (Decidable (1 ≤ a ∧ a ≤ 8 ∧ 1 ≤ b ∧ b ≤ 8))
def colAny (a b c : Int) : Int × Int := if IsB a b then (if 0 ≤ c ∧ c ≤ 16 then colV a.toNat b.toNat c.toNat else (0, 1)) else (0, 4)

set_option maxRecDepth 100000 in
set_option maxHeartbeats 2000000 in
theorem colours_board (W H : Nat) (B : Board W H) (c : Nat) (hc : c ≤ 16) (w : World) :
    Calls Try.prog 22 #[.int .i64 (W : Int), .int .i64 (H : Int), .int .i64 (c : Int)] w fun e w' => e = .returned (.tuple #[.int .i64 (colV W H c).1, .int .i64 (colV W H c).2]) ∧ Below w.heap.size w w' := by
  obtain ⟨n, hn⟩ : ∃ n : Nat, n = cntS W H := ⟨_, rfl⟩
  have hn8 : n ≤ 8 := by rw [hn]; exact cntS_le
  have hn4 : 4 ≤ n := by rw [hn]; exact cntS_ge
  have HB : Hid _ := Lib.hid B.isB
  have HC : Hid (∀ w, Calls Try.prog 34 #[.int .i64 (W : Int), .int .i64 (H : Int)] w fun e w' => e = .returned (.int .i64 (n : Int)) ∧ w' = w) := Lib.hid (by rw [hn]; exact count_any W H)
  have HY : Hid (∀ s w, s < n → Calls Try.prog 42 #[.int .i64 (W : Int), .int .i64 (H : Int), .int .i64 (s : Int)] w fun e w' => e = .returned (.int .i64 (cyc W H s : Int)) ∧ Below w.heap.size w w') := Lib.hid (fun s w hs => cycles_any W H B s (by omega) w)
  have HL : Hid (∀ s, cyc W H s ≤ 64) := Lib.hid (fun s => cyc_le B s)
  have HV : Hid (colV W H c = if OkTo W H c n then (((sumTo W H c n / n : Nat) : Int), 0) else (0, 2)) := Lib.hid (by rw [hn]; rfl)
  obtain ⟨r, hr⟩ : ∃ r : Int × Int, r = colV W H c := ⟨_, rfl⟩
  rw [← hr]
  rw [← hr] at HV
  clear hn B hr
  obtain ⟨r1, r2⟩ := r
  go_enter Try.func22, Try.ntmps22
  go_wp2_with fail
  go_at_call 33; refine (turned (check_yes _ _ _ HB.out)).mono ?_; rintro e w' ⟨rfl, rfl⟩
  go_wp2_with fail
  go_at_call 34; refine (turned (HC.out _)).mono ?_; rintro e w' ⟨rfl, rfl⟩
  go_wp2_with fail
  go_loopw [9, 10, 11, 12, 28] (fun t _ _ _ i wr => ∃ k S : Nat, k ≤ n ∧ i = .int .i64 (k : Int) ∧ t = .int .i64 (S : Int) ∧ S ≤ k * 281474976710656 ∧ Hid (S = sumTo W H c k ∧ OkTo W H c k) ∧ Hid (Below w.heap.size w wr)) (fun _ _ _ _ i _ => n - (intOf i).toNat)
  case atStart => exact ⟨0, 0, by omega, rfl, rfl, by omega, Lib.hid ⟨rfl, fun s hs => by omega⟩, Lib.hid (Below.refl _ _)⟩
  case round =>
    obtain ⟨k, S, hk, rfl, rfl, hS, hrel, hbel⟩ := hrel
    by_cases hlt : k < n
    · go_wp2_with fail
      go_at_call 42; refine (HY.out k _ hlt).mono ?_; rintro e w2 ⟨rfl, hb2⟩
      have HB2 : Hid (Below w.heap.size w w2) := Lib.hid (hbel.out.trans (hb2.mono hbel.out.size))
      obtain ⟨y, hy⟩ : ∃ y : Nat, y = cyc W H k := ⟨_, rfl⟩
      have hy64 : y ≤ 64 := by rw [hy]; exact HL.out k
      rw [← hy]
      have HYE : Hid _ := Lib.hid hy
      clear hb2 hbel hy
      by_cases hok : c ^ y ≤ most
      · have HP : Hid _ := Lib.hid (power_ok c y hy64 hok w2)
        have HOK : Hid (OkTo W H c (k + 1)) := Lib.hid (fun s hs => by
          by_cases e : s = k
          · rw [e, ← HYE.out]; exact hok
          · exact hrel.out.2 s (by omega))
        obtain ⟨P, hP⟩ : ∃ P : Nat, P = c ^ y := ⟨_, rfl⟩
        have HS2 : Hid (S + P = sumTo W H c (k + 1)) := Lib.hid (by rw [sumTo_succ, ← HYE.out, ← hP, hrel.out.1])
        have hPm : P ≤ 281474976710656 := by rw [hP]; exact hok
        rw [← hP] at HP
        clear hok hP hrel
        go_wp2_with fail
        go_at_call 41; refine (turned HP.out).mono ?_; rintro e w' ⟨rfl, rfl⟩
        go_wp2_with fail
        go_roundw
        case rel => exact ⟨k + 1, S + P, by omega, by go_num, by go_num, by omega, Lib.hid ⟨HS2.out, HOK.out⟩, HB2⟩
        case measure => simp [intOf]; omega
      · have HP : Hid _ := Lib.hid (power_large c y hc hy64 (by omega) w2)
        have HR : Hid (r1 = 0 ∧ r2 = 2) := Lib.hid (by
          have h := HV.out
          rw [if_neg (fun g => hok (by rw [HYE.out]; exact g k hlt))] at h
          simpa using h)
        clear hok hrel
        go_wp2_with fail
        go_at_call 41; refine (turned HP.out).mono ?_; rintro e w' ⟨rfl, rfl⟩
        go_wp2_with fail
        go_ret2
        rw [HR.out.1, HR.out.2]
        exact ⟨rfl, HB2.out⟩
    · obtain rfl : k = n := by omega
      have HR : Hid (wrap64 ((S : Int) / (k : Int)) = r1 ∧ r2 = 0) := Lib.hid (by
        have h := HV.out
        rw [if_pos hrel.out.2, ← hrel.out.1] at h
        simp only [Prod.mk.injEq] at h
        have hd : S / k ≤ S := Nat.div_le_self _ _
        have e : (S : Int) / (k : Int) = ((S / k : Nat) : Int) := by norm_cast
        rw [h.1, h.2, e]
        generalize S / k = D at hd ⊢
        exact ⟨wrap64_small _ (by omega) (by omega), rfl⟩)
      have hk0 : ((k : Int) == 0) = false := by simp; omega
      clear hrel
      go_wp2_with fail
      go_at_call 34; refine (turned (HC.out _)).mono ?_; rintro e w' ⟨rfl, rfl⟩
      go_wp2_with fail
      go_ret2
      exact ⟨ret2_i64 HR.out.1 HR.out.2.symm, hbel.out⟩
theorem colours_no (a b c : Int) (w : World) (h : ¬ IsB a b) :
    Calls Try.prog 22 #[.int .i64 a, .int .i64 b, .int .i64 c] w fun e w' => e = .returned (.tuple #[.int .i64 0, .int .i64 4]) ∧ w' = w := by
  have HB : Hid _ := Lib.hid h
  clear h
  go_enter Try.func22, Try.ntmps22
  go_wp2_with fail
  go_at_call 33; refine (turned (check_no _ _ _ HB.out)).mono ?_; rintro e w' ⟨rfl, rfl⟩
  go_wp2_with fail
  go_ret2
  exact ⟨rfl, rfl⟩
theorem colours_arg (a b c : Int) (w : World) (h : IsB a b) (hc : ¬ (0 ≤ c ∧ c ≤ 16)) :
    Calls Try.prog 22 #[.int .i64 a, .int .i64 b, .int .i64 c] w fun e w' => e = .returned (.tuple #[.int .i64 0, .int .i64 1]) ∧ w' = w := by
  have HB : Hid _ := Lib.hid h
  clear h
  by_cases h0 : 0 ≤ c
  · have h1 : 16 < c := by omega
    clear hc
    go_enter Try.func22, Try.ntmps22
    go_wp2_with fail
    go_at_call 33; refine (turned (check_yes _ _ _ HB.out)).mono ?_; rintro e w' ⟨rfl, rfl⟩
    go_wp2_with fail
    go_ret2
    exact ⟨rfl, rfl⟩
  · clear hc
    go_enter Try.func22, Try.ntmps22
    go_wp2_with fail
    go_at_call 33; refine (turned (check_yes _ _ _ HB.out)).mono ?_; rintro e w' ⟨rfl, rfl⟩
    go_wp2_with fail
    go_ret2
    exact ⟨rfl, rfl⟩
theorem colours_any (a b c : Int) (w : World) :
    Calls Try.prog 22 #[.int .i64 a, .int .i64 b, .int .i64 c] w fun e w' => e = .returned (.tuple #[.int .i64 (colAny a b c).1, .int .i64 (colAny a b c).2]) ∧ Below w.heap.size w w' := by
  by_cases hB : IsB a b
  · by_cases hc : 0 ≤ c ∧ c ≤ 16
    · rw [colAny, if_pos hB, if_pos hc]
      obtain ⟨W, H, rfl, rfl, B⟩ := hB.nat
      obtain ⟨C, rfl⟩ : ∃ C : Nat, c = (C : Int) := ⟨c.toNat, by omega⟩
      simp only [Int.toNat_natCast]
      exact colours_board W H B C (by omega) w
    · rw [colAny, if_pos hB, if_neg hc]
      exact (colours_arg a b c w hB hc).mono fun e w' h => ⟨h.1, by rw [h.2]; exact Below.refl _ _⟩
  · rw [colAny, if_neg hB]
    exact (colours_no a b c w hB).mono fun e w' h => ⟨h.1, by rw [h.2]; exact Below.refl _ _⟩
end Go.Proofs.Ytfmpoebkhkambaa
