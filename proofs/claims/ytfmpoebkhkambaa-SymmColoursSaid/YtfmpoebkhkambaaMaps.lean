/- symm.Map, Compose and Inverse, gamehallref1.Symmetries and In: what they return. -/
import Derived.Test.YtfmpoebkhkambaaSmall
namespace Go.Proofs.Ytfmpoebkhkambaa
open Go.ChangeShapes Go.WideShapes Go.ChangeAt Go.RowKit

theorem turns_any (a b : Nat) (w : World) (ha : a < 8) (hb : b < 8) :
    Calls Try.prog 28 #[.int .i64 (a : Int), .int .i64 (b : Int)] w fun e w' => e = .returned (.int .i64 (secS a b : Int)) ∧ w' = w := by
  have b4 : (bits BinOp.and IntKind.i64 (a : Int) 4 == 0) = decide (a < 4) := by
    have : ∀ k : Fin 8, (bits BinOp.and IntKind.i64 (k.val : Int) 4 == 0) = decide (k.val < 4) := by decide +kernel
    exact this ⟨a, ha⟩
  by_cases h : a < 4
  · rw [decide_eq_true h] at b4
    have K : Hid ((b : Int) = (secS a b : Int)) := Lib.hid (by rw [secS, if_pos h])
    go_enter Try.func28, Try.ntmps28
    go_wp2
    go_ret
    exact ⟨ret_i64 K.out, rfl⟩
  · rw [decide_eq_false h] at b4
    have K : Hid (bits BinOp.or IntKind.i64 (bits BinOp.or IntKind.i64 (bits BinOp.and IntKind.i64 (b : Int) 4) (wrap64 (bits BinOp.and IntKind.i64 (b : Int) 1 * 2))) (bits BinOp.and IntKind.i64 (b : Int) 2 / 2) = (secS a b : Int)) := Lib.hid (by
      rw [secS, if_neg h]
      have : ∀ k : Fin 8, bits BinOp.or IntKind.i64 (bits BinOp.or IntKind.i64 (bits BinOp.and IntKind.i64 (k.val : Int) 4) (wrap64 (bits BinOp.and IntKind.i64 (k.val : Int) 1 * 2))) (bits BinOp.and IntKind.i64 (k.val : Int) 2 / 2) = (swapS k.val : Int) := by decide +kernel
      exact this ⟨b, hb⟩)
    go_enter Try.func28, Try.ntmps28
    go_wp2
    go_ret
    exact ⟨ret_i64 K.out, rfl⟩
/-- Is it a symmetry of the board? -/
def IsS (a b s : Int) : Prop := IsB a b ∧ 0 ≤ s ∧ s < (cntS a.toNat b.toNat : Int)
theorem IsS.nat {a b s : Int} (h : IsS a b s) : ∃ W H S : Nat, a = (W : Int) ∧ b = (H : Int) ∧ s = (S : Int) ∧ Board W H ∧ S < cntS W H := by
  obtain ⟨W, H, rfl, rfl, B⟩ := h.1.nat
  obtain ⟨_, h0, h1⟩ := h
  simp only [Int.toNat_natCast] at h1
  exact ⟨W, H, s.toNat, rfl, rfl, by omega, B, by omega⟩
theorem isS_of {W H s : Nat} (B : Board W H) (h : s < cntS W H) : IsS (W : Int) (H : Int) (s : Int) := ⟨B.isB, by omega, by simp only [Int.toNat_natCast]; omega⟩
theorem checkSym_bad (a b s : Int) (w : World) (h : ¬ IsS a b s) :
    Calls Try.prog 27 #[.int .i64 a, .int .i64 b, .int .i64 s] w fun e w' => ∃ c, e = .returned (.int .i64 c) ∧ c ≠ 0 ∧ (c = 4 ↔ ¬ IsB a b) ∧ (c = 8 ↔ IsB a b) ∧ w = w' := by
  by_cases hB : IsB a b
  · obtain ⟨W, H, rfl, rfl, B⟩ := hB.nat
    refine (checkSym_none W H B s w (fun h2 => h ⟨hB, h2.1, by simp only [Int.toNat_natCast]; exact h2.2⟩)).mono ?_
    rintro e w' ⟨rfl, rfl⟩
    exact ⟨8, rfl, by decide, by simp [hB], by simp [hB], rfl⟩
  · refine (checkSym_range a b s w hB).mono ?_
    rintro e w' ⟨rfl, rfl⟩
    exact ⟨4, rfl, by decide, by simp [hB], by simp [hB], rfl⟩

theorem inverse_ok (W H : Nat) (B : Board W H) (s : Nat) (w : World) (h : s < cntS W H) :
    Calls Try.prog 12 #[.int .i64 (W : Int), .int .i64 (H : Int), .int .i64 (s : Int)] w fun e w' => e = .returned (.tuple #[.int .i64 (invS s : Int), .int .i64 0]) ∧ w' = w := by
  have h8 : s < 8 := Nat.lt_of_lt_of_le h cntS_le
  have HB : Hid _ := Lib.hid B
  clear B
  go_enter Try.func12, Try.ntmps12
  go_wp2_with fail
  go_at_call 27; refine (turned (checkSym_ok W H HB.out s _ h)).mono ?_; rintro e w' ⟨rfl, rfl⟩
  go_wp2_with fail
  go_at_call 28; refine (turned (turns_any s s _ h8 h8)).mono ?_; rintro e w' ⟨rfl, rfl⟩
  go_wp2_with fail
  go_ret2
  exact ⟨rfl, rfl⟩
theorem inverse_bad (a b s : Int) (w : World) (h : ¬ IsS a b s) :
    Calls Try.prog 12 #[.int .i64 a, .int .i64 b, .int .i64 s] w fun e w' => ∃ c, e = .returned (.tuple #[.int .i64 0, .int .i64 c]) ∧ c ≠ 0 ∧ (c = 4 ↔ ¬ IsB a b) ∧ (c = 8 ↔ IsB a b) ∧ w = w' := by
  have HB : Hid _ := Lib.hid h
  clear h
  go_enter Try.func12, Try.ntmps12
  go_wp2_with fail
  go_at_call 27; refine (checkSym_bad a b s _ HB.out).mono ?_; rintro e w' ⟨c, rfl, hc, h4, h8, rfl⟩
  have HC : Hid _ := Lib.hid (And.intro hc (And.intro h4 h8))
  have hne : (c != 0) = true := by simpa using hc
  clear hc h4 h8
  go_wp2_with fail
  go_ret2
  exact ⟨c, rfl, HC.out.1, HC.out.2.1, HC.out.2.2, rfl⟩
theorem compose_ok (W H : Nat) (B : Board W H) (s t : Nat) (w : World) (h : s < cntS W H) (g : t < cntS W H) :
    Calls Try.prog 10 #[.int .i64 (W : Int), .int .i64 (H : Int), .int .i64 (s : Int), .int .i64 (t : Int)] w fun e w' => e = .returned (.tuple #[.int .i64 (compS s t : Int), .int .i64 0]) ∧ w' = w := by
  have h8 : s < 8 := Nat.lt_of_lt_of_le h cntS_le
  have g8 : t < 8 := Nat.lt_of_lt_of_le g cntS_le
  have K : Hid (bits BinOp.xor IntKind.i64 (s : Int) (secS s t : Int) = (compS s t : Int)) := Lib.hid (by
    have : ∀ s t : Fin 8, bits BinOp.xor IntKind.i64 (s.val : Int) (secS s.val t.val : Int) = (compS s.val t.val : Int) := by decide +kernel
    exact this ⟨s, h8⟩ ⟨t, g8⟩)
  have HB : Hid _ := Lib.hid B
  clear B
  go_enter Try.func10, Try.ntmps10
  go_wp2_with fail
  go_at_call 27; refine (turned (checkSym_ok W H HB.out s _ h)).mono ?_; rintro e w' ⟨rfl, rfl⟩
  go_wp2_with fail
  go_at_call 27; refine (turned (checkSym_ok W H HB.out t _ g)).mono ?_; rintro e w' ⟨rfl, rfl⟩
  go_wp2_with fail
  go_at_call 28; refine (turned (turns_any s t _ h8 g8)).mono ?_; rintro e w' ⟨rfl, rfl⟩
  go_wp2_with fail
  go_ret2
  exact ⟨ret2_i64 K.out rfl, rfl⟩
theorem compose_bad (a b s t : Int) (w : World) (h : ¬ (IsS a b s ∧ IsS a b t)) :
    Calls Try.prog 10 #[.int .i64 a, .int .i64 b, .int .i64 s, .int .i64 t] w fun e w' => ∃ c, e = .returned (.tuple #[.int .i64 0, .int .i64 c]) ∧ c ≠ 0 ∧ w = w' := by
  by_cases hs : IsS a b s
  · have HB : Hid _ := Lib.hid (fun g => h ⟨hs, g⟩)
    obtain ⟨W, H, S, rfl, rfl, rfl, B, hS⟩ := hs.nat
    have HC : Hid _ := Lib.hid B
    clear h hs B
    go_enter Try.func10, Try.ntmps10
    go_wp2_with fail
    go_at_call 27; refine (turned (checkSym_ok W H HC.out S _ hS)).mono ?_; rintro e w' ⟨rfl, rfl⟩
    go_wp2_with fail
    go_at_call 27; refine (checkSym_bad _ _ t _ HB.out).mono ?_; rintro e w' ⟨c, rfl, hc, h4, h8, rfl⟩
    have HC : Hid _ := Lib.hid hc
    have hne : (c != 0) = true := by simpa using hc
    clear hc h4 h8
    go_wp2_with fail
    go_ret2
    exact ⟨c, rfl, HC.out, rfl⟩
  · have HB : Hid _ := Lib.hid hs
    clear h hs
    go_enter Try.func10, Try.ntmps10
    go_wp2_with fail
    go_at_call 27; refine (checkSym_bad a b s _ HB.out).mono ?_; rintro e w' ⟨c, rfl, hc, h4, h8, rfl⟩
    have HC : Hid _ := Lib.hid hc
    have hne : (c != 0) = true := by simpa using hc
    clear hc h4 h8
    go_wp2_with fail
    go_ret2
    exact ⟨c, rfl, HC.out, rfl⟩
theorem map_ok (W H : Nat) (B : Board W H) (s q : Nat) (w : World) (h : s < cntS W H) (hq : q < W * H) :
    Calls Try.prog 13 #[.int .i64 (W : Int), .int .i64 (H : Int), .int .i64 (s : Int), .int .i64 (q : Int)] w fun e w' => e = .returned (.tuple #[.int .i64 (mv W H s q : Int), .int .i64 0]) ∧ ∃ n, w' = w.drewN n := by
  have HB : Hid _ := Lib.hid B
  clear B
  go_enter Try.func13, Try.ntmps13
  go_wp2_with fail
  go_at_call 27; refine (turned (checkSym_ok W H HB.out s _ h)).mono ?_; rintro e w' ⟨rfl, rfl⟩
  go_wp2_with fail
  go_at_call 29; refine (turned (isSquare_yes W H HB.out q _ hq)).mono ?_; rintro e w' ⟨rfl, rfl⟩
  go_wp2_with fail
  go_at_call 30; refine (move_any W H HB.out s q _ h hq).mono ?_; rintro e w' ⟨rfl, n, rfl⟩
  go_wp2_with fail
  go_ret2
  exact ⟨rfl, n, rfl⟩
theorem map_square (W H : Nat) (B : Board W H) (s : Nat) (q : Int) (w : World) (h : s < cntS W H) (hq : ¬ (0 ≤ q ∧ q < (W * H : Nat))) :
    Calls Try.prog 13 #[.int .i64 (W : Int), .int .i64 (H : Int), .int .i64 (s : Int), .int .i64 q] w fun e w' => e = .returned (.tuple #[.int .i64 0, .int .i64 4]) ∧ w' = w := by
  have HB : Hid _ := Lib.hid B
  have HQ : Hid _ := Lib.hid hq
  clear B hq
  go_enter Try.func13, Try.ntmps13
  go_wp2_with fail
  go_at_call 27; refine (turned (checkSym_ok W H HB.out s _ h)).mono ?_; rintro e w' ⟨rfl, rfl⟩
  go_wp2_with fail
  go_at_call 29; refine (turned (isSquare_no W H HB.out q _ HQ.out)).mono ?_; rintro e w' ⟨rfl, rfl⟩
  go_wp2_with fail
  go_ret2
  exact ⟨rfl, rfl⟩
theorem map_bad (a b s q : Int) (w : World) (h : ¬ IsS a b s) :
    Calls Try.prog 13 #[.int .i64 a, .int .i64 b, .int .i64 s, .int .i64 q] w fun e w' => ∃ c, e = .returned (.tuple #[.int .i64 0, .int .i64 c]) ∧ c ≠ 0 ∧ (c = 4 ↔ ¬ IsB a b) ∧ (c = 8 ↔ IsB a b) ∧ w = w' := by
  have HB : Hid _ := Lib.hid h
  clear h
  go_enter Try.func13, Try.ntmps13
  go_wp2_with fail
  go_at_call 27; refine (checkSym_bad a b s _ HB.out).mono ?_; rintro e w' ⟨c, rfl, hc, h4, h8, rfl⟩
  have HC : Hid _ := Lib.hid (And.intro hc (And.intro h4 h8))
  have hne : (c != 0) = true := by simpa using hc
  clear hc h4 h8
  go_wp2_with fail
  go_ret2
  exact ⟨c, rfl, HC.out.1, HC.out.2.1, HC.out.2.2, rfl⟩
/-- Map, whatever it is called with. -/
theorem map_ex (a b s q : Int) (w : World) :
    Calls Try.prog 13 #[.int .i64 a, .int .i64 b, .int .i64 s, .int .i64 q] w fun e w' => ∃ r c, e = .returned (.tuple #[.int .i64 r, .int .i64 c]) ∧ ∃ n, w' = w.drewN n := by
  by_cases h : IsS a b s
  · obtain ⟨W, H, S, rfl, rfl, rfl, B, hS⟩ := h.nat
    by_cases hq : 0 ≤ q ∧ q < (W * H : Nat)
    · obtain ⟨Q, rfl⟩ : ∃ Q : Nat, q = (Q : Int) := ⟨q.toNat, by omega⟩
      exact (map_ok W H B S Q w hS (by omega)).mono fun e w' ⟨h1, n, h2⟩ => ⟨_, _, h1, n, h2⟩
    · exact (map_square W H B S q w hS hq).mono fun e w' ⟨h1, h2⟩ => ⟨_, _, h1, 0, h2⟩
  · exact (map_bad a b s q w h).mono fun e w' ⟨c, h1, _, _, _, h2⟩ => ⟨_, _, h1, 0, h2.symm⟩
theorem inverse_ex (a b s : Int) (w : World) :
    Calls Try.prog 12 #[.int .i64 a, .int .i64 b, .int .i64 s] w fun e w' => ∃ r c, e = .returned (.tuple #[.int .i64 r, .int .i64 c]) ∧ w = w' := by
  by_cases h : IsS a b s
  · obtain ⟨W, H, S, rfl, rfl, rfl, B, hS⟩ := h.nat
    exact (inverse_ok W H B S w hS).mono fun e w' ⟨h1, h2⟩ => ⟨_, _, h1, h2.symm⟩
  · exact (inverse_bad a b s w h).mono fun e w' ⟨c, h1, _, _, _, h2⟩ => ⟨_, _, h1, h2⟩

theorem in_yes (x lo hi : Int) (w : World) (h0 : lo ≤ x) (h1 : x ≤ hi) :
    Calls Try.prog 25 #[.int .i64 x, .int .i64 lo, .int .i64 hi] w fun e w' => e = .returned (.bool true) ∧ w' = w := by
  go_enter Try.func25, Try.ntmps25
  go_wp2
  go_ret
  exact ⟨ret_bool (by simp), rfl⟩
theorem in_no (x lo hi : Int) (w : World) (h : ¬ (lo ≤ x ∧ x ≤ hi)) :
    Calls Try.prog 25 #[.int .i64 x, .int .i64 lo, .int .i64 hi] w fun e w' => e = .returned (.bool false) ∧ w' = w := by
  by_cases h0 : lo ≤ x
  · have h1 : ¬ x ≤ hi := fun g => h ⟨h0, g⟩
    clear h
    go_enter Try.func25, Try.ntmps25
    go_wp2
    go_ret
    exact ⟨rfl, rfl⟩
  · clear h
    go_enter Try.func25, Try.ntmps25
    go_wp2
    go_ret
    exact ⟨rfl, rfl⟩
theorem symmetries_ok (W H : Nat) (B : Board W H) (w : World) :
    Calls Try.prog 24 #[.int .i64 (W : Int), .int .i64 (H : Int)] w fun e w' => e = .returned (.int .i64 (cntS W H : Int)) ∧ w' = w := by
  obtain ⟨h1, h2, h3, h4⟩ := B
  have e : (if W = H then (8 : Int) else 4) = (cntS W H : Int) := by unfold cntS; split <;> rfl
  by_cases h : W = H
  · subst h
    have K : Hid ((8 : Int) = (cntS W W : Int)) := Lib.hid (by rw [← e, if_pos rfl])
    clear e
    go_enter Try.func24, Try.ntmps24
    go_wp2_with fail
    go_at_call 25; refine (turned (in_yes (W : Int) 1 8 _ (by omega) (by omega))).mono ?_; rintro e w' ⟨rfl, rfl⟩
    go_wp2_with fail
    go_at_call 25; refine (turned (in_yes (W : Int) 1 8 _ (by omega) (by omega))).mono ?_; rintro e w' ⟨rfl, rfl⟩
    go_wp2_with fail
    go_ret
    exact ⟨ret_i64 K.out, rfl⟩
  · have K : Hid ((4 : Int) = (cntS W H : Int)) := Lib.hid (by rw [← e, if_neg h])
    have hne : ((W : Int) != (H : Int)) = true := by simp; omega
    clear e h
    go_enter Try.func24, Try.ntmps24
    go_wp2_with fail
    go_at_call 25; refine (turned (in_yes (W : Int) 1 8 _ (by omega) (by omega))).mono ?_; rintro e w' ⟨rfl, rfl⟩
    go_wp2_with fail
    go_at_call 25; refine (turned (in_yes (H : Int) 1 8 _ (by omega) (by omega))).mono ?_; rintro e w' ⟨rfl, rfl⟩
    go_wp2_with fail
    go_ret
    exact ⟨ret_i64 K.out, rfl⟩
theorem symmetries_no (a b : Int) (w : World) (h : ¬ IsB a b) :
    Calls Try.prog 24 #[.int .i64 a, .int .i64 b] w fun e w' => e = .returned (.int .i64 0) ∧ w' = w := by
  by_cases ha : 1 ≤ a ∧ a ≤ 8
  · have HB : Hid (¬ (1 ≤ b ∧ b ≤ 8)) := Lib.hid (fun hb => h ⟨ha.1, ha.2, hb.1, hb.2⟩)
    obtain ⟨h1, h2⟩ := ha
    clear h
    go_enter Try.func24, Try.ntmps24
    go_wp2_with fail
    go_at_call 25; refine (turned (in_yes a 1 8 _ h1 h2)).mono ?_; rintro e w' ⟨rfl, rfl⟩
    go_wp2_with fail
    go_at_call 25; refine (turned (in_no b 1 8 _ HB.out)).mono ?_; rintro e w' ⟨rfl, rfl⟩
    go_wp2_with fail
    go_ret
    exact ⟨rfl, rfl⟩
  · have HA : Hid _ := Lib.hid ha
    clear h ha
    go_enter Try.func24, Try.ntmps24
    go_wp2_with fail
    go_at_call 25; refine (turned (in_no a 1 8 _ HA.out)).mono ?_; rintro e w' ⟨rfl, rfl⟩
    go_wp2_with fail
    go_ret
    exact ⟨rfl, rfl⟩
end Go.Proofs.Ytfmpoebkhkambaa
