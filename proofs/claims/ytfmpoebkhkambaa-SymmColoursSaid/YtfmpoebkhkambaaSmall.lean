/- What the small functions of package symm and of the reference return: one contract each. -/
import Derived.Test.YtfmpoebkhkambaaSym
import Derived.WalkKit
import Derived.ProofKit
import Derived.Deep.QuietTactic
import Derived.BigQuiet
import Derived.WalkSmall
namespace Go.Proofs.Ytfmpoebkhkambaa
open Go.ChangeShapes Go.WideShapes Go.ChangeAt Go.RowKit

theorem ret_i64 {a b : Int} (h : a = b) : Ending.returned (.int .i64 a) = .returned (.int .i64 b) := by rw [h]
theorem ret_bool {a b : Bool} (h : a = b) : Ending.returned (.bool a) = .returned (.bool b) := by rw [h]
theorem ret2_i64 {a b c d : Int} (h : a = b) (g : c = d) : Ending.returned (.tuple #[.int .i64 a, .int .i64 c]) = .returned (.tuple #[.int .i64 b, .int .i64 d]) := by rw [h, g]
/-- The same contract, with the world's equation turned: so the caller's name for the world stays. -/
theorem turned {P : Program} {f : FuncId} {args : Array Value} {w : World} {v : Ending} (h : Calls P f args w fun e w' => e = v ∧ w' = w) : Calls P f args w fun e w' => e = v ∧ w = w' :=
  h.mono fun _ _ h => ⟨h.1, h.2.symm⟩
/-- Is there such a board? -/
def IsB (a b : Int) : Prop := 1 ≤ a ∧ a ≤ 8 ∧ 1 ≤ b ∧ b ≤ 8
theorem IsB.nat {a b : Int} (h : IsB a b) : ∃ W H : Nat, a = (W : Int) ∧ b = (H : Int) ∧ Board W H := by
  obtain ⟨h1, h2, h3, h4⟩ := h
  exact ⟨a.toNat, b.toNat, by omega, by omega, ⟨by omega, by omega, by omega, by omega⟩⟩
theorem Board.isB {W H : Nat} (B : Board W H) : IsB (W : Int) (H : Int) := by
  obtain ⟨h1, h2, h3, h4⟩ := B
  exact ⟨by omega, by omega, by omega, by omega⟩

theorem isSide_yes (x : Int) (w : World) (h0 : 1 ≤ x) (h1 : x ≤ 8) :
    Calls Try.prog 44 #[.int .i64 x] w fun e w' => e = .returned (.bool true) ∧ w' = w := by
  go_enter Try.func44, Try.ntmps44
  go_wp2
  go_ret
  exact ⟨rfl, rfl⟩
theorem isSide_no (x : Int) (w : World) (h : ¬ (1 ≤ x ∧ x ≤ 8)) :
    Calls Try.prog 44 #[.int .i64 x] w fun e w' => e = .returned (.bool false) ∧ w' = w := by
  by_cases h0 : 1 ≤ x
  · have h1 : ¬ x ≤ 8 := by omega
    clear h
    go_enter Try.func44, Try.ntmps44
    go_wp2
    go_ret
    exact ⟨rfl, rfl⟩
  · clear h
    go_enter Try.func44, Try.ntmps44
    go_wp2
    go_ret
    exact ⟨rfl, rfl⟩
theorem check_yes (a b : Int) (w : World) (h : IsB a b) :
    Calls Try.prog 33 #[.int .i64 a, .int .i64 b] w fun e w' => e = .returned (.int .i64 0) ∧ w' = w := by
  obtain ⟨h1, h2, h3, h4⟩ := h
  go_enter Try.func33, Try.ntmps33
  go_wp2_with fail
  go_at_call 44; refine (isSide_yes a _ h1 h2).mono ?_; rintro e w' ⟨rfl, rfl⟩
  go_wp2_with fail
  go_at_call 44; refine (isSide_yes b _ h3 h4).mono ?_; rintro e w' ⟨rfl, rfl⟩
  go_wp2_with fail
  go_ret
  exact ⟨rfl, rfl⟩
theorem check_no (a b : Int) (w : World) (h : ¬ IsB a b) :
    Calls Try.prog 33 #[.int .i64 a, .int .i64 b] w fun e w' => e = .returned (.int .i64 4) ∧ w' = w := by
  by_cases ha : 1 ≤ a ∧ a ≤ 8
  · have hb : ¬ (1 ≤ b ∧ b ≤ 8) := fun hb => h ⟨ha.1, ha.2, hb.1, hb.2⟩
    obtain ⟨h1, h2⟩ := ha
    have HB : Hid _ := Lib.hid hb
    clear h hb
    go_enter Try.func33, Try.ntmps33
    go_wp2_with fail
    go_at_call 44; refine (isSide_yes a _ h1 h2).mono ?_; rintro e w' ⟨rfl, rfl⟩
    go_wp2_with fail
    go_at_call 44; refine (isSide_no b _ HB.out).mono ?_; rintro e w' ⟨rfl, rfl⟩
    go_wp2_with fail
    go_ret
    exact ⟨rfl, rfl⟩
  · have HA : Hid _ := Lib.hid ha
    clear h ha
    go_enter Try.func33, Try.ntmps33
    go_wp2_with fail
    go_at_call 44; refine (isSide_no a _ HA.out).mono ?_; rintro e w' ⟨rfl, rfl⟩
    go_wp2_with fail
    go_ret
    exact ⟨rfl, rfl⟩
theorem count_any (W H : Nat) (w : World) :
    Calls Try.prog 34 #[.int .i64 (W : Int), .int .i64 (H : Int)] w fun e w' => e = .returned (.int .i64 (cntS W H : Int)) ∧ w' = w := by
  by_cases h : W = H
  · subst h
    have K : Hid ((8 : Int) = ((cntS W W : Nat) : Int)) := Lib.hid (by simp [cntS])
    go_enter Try.func34, Try.ntmps34
    go_wp2
    go_ret
    exact ⟨ret_i64 K.out, rfl⟩
  · have K : Hid ((4 : Int) = ((cntS W H : Nat) : Int)) := Lib.hid (by simp [cntS, h])
    have hne : ((W : Int) == (H : Int)) = false := by simp; omega
    clear h
    go_enter Try.func34, Try.ntmps34
    go_wp2
    go_ret
    exact ⟨ret_i64 K.out, rfl⟩
theorem checkSym_range (a b s : Int) (w : World) (h : ¬ IsB a b) :
    Calls Try.prog 27 #[.int .i64 a, .int .i64 b, .int .i64 s] w fun e w' => e = .returned (.int .i64 4) ∧ w' = w := by
  have HB : Hid _ := Lib.hid h
  clear h
  go_enter Try.func27, Try.ntmps27
  go_wp2_with fail
  go_at_call 33; refine (check_no a b _ HB.out).mono ?_; rintro e w' ⟨rfl, rfl⟩
  go_wp2_with fail
  go_ret
  exact ⟨rfl, rfl⟩
theorem checkSym_none (W H : Nat) (B : Board W H) (s : Int) (w : World) (h : ¬ (0 ≤ s ∧ s < (cntS W H : Int))) :
    Calls Try.prog 27 #[.int .i64 (W : Int), .int .i64 (H : Int), .int .i64 s] w fun e w' => e = .returned (.int .i64 8) ∧ w' = w := by
  have HB : Hid _ := Lib.hid B.isB
  have HC : Hid (∀ w, Calls Try.prog 34 #[.int .i64 (W : Int), .int .i64 (H : Int)] w fun e w' => e = .returned (.int .i64 (cntS W H : Int)) ∧ w' = w) := Lib.hid (count_any W H)
  clear B
  generalize cntS W H = n at HC h
  by_cases h0 : 0 ≤ s
  · have h1 : (n : Int) ≤ s := by omega
    clear h
    go_enter Try.func27, Try.ntmps27
    go_wp2_with fail
    go_at_call 33; refine (check_yes _ _ _ HB.out).mono ?_; rintro e w' ⟨rfl, rfl⟩
    go_wp2_with fail
    go_at_call 34; refine (HC.out _).mono ?_; rintro e w' ⟨rfl, rfl⟩
    go_wp2_with fail
    go_ret
    exact ⟨rfl, rfl⟩
  · have h1 : s < 0 := by omega
    clear h h0
    go_enter Try.func27, Try.ntmps27
    go_wp2_with fail
    go_at_call 33; refine (check_yes _ _ _ HB.out).mono ?_; rintro e w' ⟨rfl, rfl⟩
    go_wp2_with fail
    go_ret
    exact ⟨rfl, rfl⟩
theorem checkSym_ok (W H : Nat) (B : Board W H) (s : Nat) (w : World) (h : s < cntS W H) :
    Calls Try.prog 27 #[.int .i64 (W : Int), .int .i64 (H : Int), .int .i64 (s : Int)] w fun e w' => e = .returned (.int .i64 0) ∧ w' = w := by
  have HB : Hid _ := Lib.hid B.isB
  have HC : Hid (∀ w, Calls Try.prog 34 #[.int .i64 (W : Int), .int .i64 (H : Int)] w fun e w' => e = .returned (.int .i64 (cntS W H : Int)) ∧ w' = w) := Lib.hid (count_any W H)
  clear B
  generalize cntS W H = n at HC h
  go_enter Try.func27, Try.ntmps27
  go_wp2_with fail
  go_at_call 33; refine (check_yes _ _ _ HB.out).mono ?_; rintro e w' ⟨rfl, rfl⟩
  go_wp2_with fail
  go_at_call 34; refine (HC.out _).mono ?_; rintro e w' ⟨rfl, rfl⟩
  go_wp2_with fail
  go_ret
  exact ⟨rfl, rfl⟩
theorem isSquare_yes (W H : Nat) (B : Board W H) (q : Nat) (w : World) (h : q < W * H) :
    Calls Try.prog 29 #[.int .i64 (W : Int), .int .i64 (H : Int), .int .i64 (q : Int)] w fun e w' => e = .returned (.bool true) ∧ w' = w := by
  have hp := wh_le B
  obtain ⟨A, hA⟩ : ∃ A : Nat, A = W * H := ⟨_, rfl⟩
  have hm : (W : Int) * (H : Int) = (A : Int) := by rw [hA]; norm_cast
  rw [← hA] at h hp
  clear hA B
  go_enter Try.func29, Try.ntmps29
  go_wp2
  go_ret
  exact ⟨rfl, rfl⟩
theorem isSquare_no (W H : Nat) (B : Board W H) (q : Int) (w : World) (h : ¬ (0 ≤ q ∧ q < (W * H : Nat))) :
    Calls Try.prog 29 #[.int .i64 (W : Int), .int .i64 (H : Int), .int .i64 q] w fun e w' => e = .returned (.bool false) ∧ w' = w := by
  have hp := wh_le B
  obtain ⟨A, hA⟩ : ∃ A : Nat, A = W * H := ⟨_, rfl⟩
  have hm : (W : Int) * (H : Int) = (A : Int) := by rw [hA]; norm_cast
  rw [← hA] at h hp
  clear hA B
  by_cases h0 : 0 ≤ q
  · have h1 : (A : Int) ≤ q := by omega
    clear h
    go_enter Try.func29, Try.ntmps29
    go_wp2
    go_ret
    exact ⟨ret_bool (decide_eq_false (by omega)), rfl⟩
  · clear h
    go_enter Try.func29, Try.ntmps29
    go_wp2
    go_ret
    exact ⟨rfl, rfl⟩

/-! ### Where a symmetry moves a square -/
theorem wrap64_small (z : Int) (h0 : 0 ≤ z) (h1 : z ≤ 9223372036854775807) : wrap64 z = z := by
  unfold wrap64; omega
theorem mv_body (W H s q X Y : Nat) (x y : Int) (B : Board W H) (hs : s < cntS W H) (hq : q < W * H)
    (hx : X = if s < 4 then q % W else q / W) (hy : Y = if s < 4 then q / W else q % W) (lx : X < W) (ly : Y < H)
    (hx' : x = if s % 2 = 1 then (W : Int) - 1 - X else X) (hy' : y = if s / 2 % 2 = 1 then (H : Int) - 1 - Y else Y) :
    wrap64 (wrap64 (y * (W : Int)) + x) = (mv W H s q : Int) ∧ wrap64 (x + wrap64 (y * (W : Int))) = (mv W H s q : Int) := by
  have hlt := mv_lt B s q hs hq
  have h64 := wh_le B
  obtain ⟨x, rfl⟩ : ∃ n : Nat, x = (n : Int) := ⟨x.toNat, by split at hx' <;> omega⟩
  obtain ⟨y, rfl⟩ : ∃ n : Nat, y = (n : Int) := ⟨y.toNat, by split at hy' <;> omega⟩
  have e : mv W H s q = y * W + x := by
    rw [mv, ← hx, ← hy]
    have ex : x = if s % 2 = 1 then W - 1 - X else X := by split at hx' <;> rename_i h <;> simp only [h, if_true, if_false] <;> omega
    have ey : y = if s / 2 % 2 = 1 then H - 1 - Y else Y := by split at hy' <;> rename_i h <;> simp only [h, if_true, if_false] <;> omega
    rw [← ex, ← ey]
  have e2 : (y : Int) * (W : Int) = ((y * W : Nat) : Int) := by norm_cast
  rw [e2, e]
  rw [e] at hlt
  generalize y * W = P at hlt ⊢
  rw [wrap64_small P (by omega) (by omega), wrap64_small _ (by omega) (by omega), wrap64_small _ (by omega) (by omega)]
  constructor <;> omega
theorem and_bits (k : Nat) (hk : k < 8) : (bits BinOp.and IntKind.i64 (k : Int) 4 != 0) = decide (4 ≤ k) ∧ (bits BinOp.and IntKind.i64 (k : Int) 1 != 0) = decide (k % 2 = 1) ∧ (bits BinOp.and IntKind.i64 (k : Int) 2 != 0) = decide (k / 2 % 2 = 1) := by
  have : ∀ k : Fin 8, (bits BinOp.and IntKind.i64 (k.val : Int) 4 != 0) = decide (4 ≤ k.val) ∧ (bits BinOp.and IntKind.i64 (k.val : Int) 1 != 0) = decide (k.val % 2 = 1) ∧ (bits BinOp.and IntKind.i64 (k.val : Int) 2 != 0) = decide (k.val / 2 % 2 = 1) := by decide +kernel
  exact this ⟨k, hk⟩

set_option maxHeartbeats 1000000 in
theorem move_any (W H : Nat) (B : Board W H) (s q : Nat) (w : World) (hs : s < cntS W H) (hq : q < W * H) :
    Calls Try.prog 30 #[.int .i64 (W : Int), .int .i64 (H : Int), .int .i64 (s : Int), .int .i64 (q : Int)] w fun e w' => e = .returned (.int .i64 (mv W H s q : Int)) ∧ ∃ n, w' = w.drewN n := by
  have h8 : s < 8 := Nat.lt_of_lt_of_le hs cntS_le
  have hsq : 4 ≤ s → W = H := fun h => by
    by_cases e : W = H
    · exact e
    · simp [cntS, e] at hs; omega
  obtain ⟨b4, b1, b2⟩ := and_bits s h8
  have hW1 := B.w1
  have hW8 := B.w8
  have hH1 := B.h1
  have hH8 := B.h8
  obtain ⟨X, hX⟩ : ∃ X : Nat, X = q % W := ⟨_, rfl⟩
  obtain ⟨Y, hY⟩ : ∃ Y : Nat, Y = q / W := ⟨_, rfl⟩
  have hX' : Int.tmod (q : Int) (W : Int) = (X : Int) := by rw [hX]; rfl
  have hY' : Int.tdiv (q : Int) (W : Int) = (Y : Int) := by rw [hY]; rfl
  have hXW : X < W := by rw [hX]; exact Nat.mod_lt _ (by omega)
  have hYH : Y < H := by rw [hY]; exact Nat.div_lt_of_lt_mul hq
  have hW0 : ((W : Int) == 0) = false := by simp; omega
  have K : Hid (∀ x y : Int, x = (if s % 2 = 1 then (W : Int) - 1 - ((if s < 4 then X else Y : Nat) : Int) else ((if s < 4 then X else Y : Nat) : Int)) → y = (if s / 2 % 2 = 1 then (H : Int) - 1 - ((if s < 4 then Y else X : Nat) : Int) else ((if s < 4 then Y else X : Nat) : Int)) →
      wrap64 (wrap64 (y * (W : Int)) + x) = (mv W H s q : Int)) := Lib.hid (fun x y h1 h2 => (mv_body W H s q (if s < 4 then X else Y) (if s < 4 then Y else X) x y B hs hq (by rw [hX, hY]) (by rw [hX, hY]) (by split <;> omega) (by split <;> omega) h1 h2).1)
  by_cases c4 : s < 4
  · rw [decide_eq_false (by omega)] at b4
    simp only [c4, if_true] at K
    clear hsq hX hY B
    by_cases c1 : s % 2 = 1 <;> by_cases c2 : s / 2 % 2 = 1
    all_goals
      simp only [c1, c2, decide_true, decide_false, if_true, if_false] at b1 b2 K
      clear c1 c2 c4
      go_enter Try.func30, Try.ntmps30
      go_wp2
      go_quiet (fail)
      go_wp2
      go_ret
      exact ⟨ret_i64 (K.out _ _ rfl rfl), _, rfl⟩
  · obtain rfl := hsq (by omega)
    rw [decide_eq_true (by omega)] at b4
    simp only [c4, if_false] at K
    clear hsq hX hY B
    by_cases c1 : s % 2 = 1 <;> by_cases c2 : s / 2 % 2 = 1
    all_goals
      simp only [c1, c2, decide_true, decide_false, if_true, if_false] at b1 b2 K
      clear c1 c2 c4
      go_enter Try.func30, Try.ntmps30
      go_wp2
      go_quiet (fail)
      go_wp2
      go_ret
      exact ⟨ret_i64 (K.out _ _ rfl rfl), _, rfl⟩

theorem moved_bits (k : Nat) (hk : k < 8) : ((k : Int) % 2 == 1) = decide (k % 2 = 1) ∧ ((k : Int) / 2 % 2 == 1) = decide (k / 2 % 2 = 1) := by
  have : ∀ k : Fin 8, ((k.val : Int) % 2 == 1) = decide (k.val % 2 = 1) ∧ ((k.val : Int) / 2 % 2 == 1) = decide (k.val / 2 % 2 = 1) := by decide +kernel
  exact this ⟨k, hk⟩
set_option maxHeartbeats 1000000 in
theorem moved_any (W H : Nat) (B : Board W H) (s q : Nat) (w : World) (hs : s < cntS W H) (hq : q < W * H) :
    Calls Try.prog 26 #[.int .i64 (W : Int), .int .i64 (H : Int), .int .i64 (s : Int), .int .i64 (q : Int)] w fun e w' => e = .returned (.int .i64 (mv W H s q : Int)) ∧ ∃ n, w' = w.drewN n := by
  have h8 : s < 8 := Nat.lt_of_lt_of_le hs cntS_le
  have hsq : 4 ≤ s → W = H := fun h => by
    by_cases e : W = H
    · exact e
    · simp [cntS, e] at hs; omega
  obtain ⟨b1, b2⟩ := moved_bits s h8
  have hW1 := B.w1
  have hW8 := B.w8
  have hH1 := B.h1
  have hH8 := B.h8
  obtain ⟨X, hX⟩ : ∃ X : Nat, X = q % W := ⟨_, rfl⟩
  obtain ⟨Y, hY⟩ : ∃ Y : Nat, Y = q / W := ⟨_, rfl⟩
  have hX' : Int.tmod (q : Int) (W : Int) = (X : Int) := by rw [hX]; rfl
  have hY' : Int.tdiv (q : Int) (W : Int) = (Y : Int) := by rw [hY]; rfl
  have hXW : X < W := by rw [hX]; exact Nat.mod_lt _ (by omega)
  have hYH : Y < H := by rw [hY]; exact Nat.div_lt_of_lt_mul hq
  have hW0 : ((W : Int) == 0) = false := by simp; omega
  have K : Hid (∀ x y : Int, x = (if s % 2 = 1 then (W : Int) - ((if s < 4 then X else Y : Nat) : Int) - 1 else ((if s < 4 then X else Y : Nat) : Int)) → y = (if s / 2 % 2 = 1 then (H : Int) - ((if s < 4 then Y else X : Nat) : Int) - 1 else ((if s < 4 then Y else X : Nat) : Int)) →
      wrap64 (x + wrap64 (y * (W : Int))) = (mv W H s q : Int)) := Lib.hid (fun x y h1 h2 => (mv_body W H s q (if s < 4 then X else Y) (if s < 4 then Y else X) x y B hs hq (by rw [hX, hY]) (by rw [hX, hY]) (by split <;> omega) (by split <;> omega) (by rw [h1]; split <;> omega) (by rw [h2]; split <;> omega)).2)
  by_cases c4 : s < 4
  · simp only [c4, if_true] at K
    clear hsq hX hY B
    by_cases c1 : s % 2 = 1 <;> by_cases c2 : s / 2 % 2 = 1
    all_goals
      simp only [c1, c2, decide_true, decide_false, if_true, if_false] at b1 b2 K
      clear c1 c2
      go_enter Try.func26, Try.ntmps26
      go_wp2
      go_quiet (fail)
      go_wp2
      go_ret
      exact ⟨ret_i64 (K.out _ _ rfl rfl), _, rfl⟩
  · obtain rfl := hsq (by omega)
    simp only [c4, if_false] at K
    have c5 : 4 ≤ s := by omega
    clear hsq hX hY B c4
    by_cases c1 : s % 2 = 1 <;> by_cases c2 : s / 2 % 2 = 1
    all_goals
      simp only [c1, c2, decide_true, decide_false, if_true, if_false] at b1 b2 K
      clear c1 c2
      go_enter Try.func26, Try.ntmps26
      go_wp2
      go_quiet (fail)
      go_wp2
      go_ret
      exact ⟨ret_i64 (K.out _ _ rfl rfl), _, rfl⟩
end Go.Proofs.Ytfmpoebkhkambaa
