/- SymmGroup: the walk of the law. -/
import Derived.Test.YtfmpoebkhkambaaApply
namespace Go.Proofs.Ytfmpoebkhkambaa
open Go.RowKit Go.Shelf

theorem compose_3341 (w : World) : Calls Try.prog 10 #[.int .i64 3, .int .i64 3, .int .i64 4, .int .i64 1] w fun e w' => e = .returned (.tuple #[.int .i64 6, .int .i64 0]) ∧ w' = w := by
  have h := compose_ok 3 3 ⟨by decide, by decide, by decide, by decide⟩ 4 1 w (by decide) (by decide)
  have e : compS 4 1 = 6 := by decide
  rw [e] at h; exact h
theorem inverse_335 (w : World) : Calls Try.prog 12 #[.int .i64 3, .int .i64 3, .int .i64 5] w fun e w' => e = .returned (.tuple #[.int .i64 6, .int .i64 0]) ∧ w' = w := by
  have h := inverse_ok 3 3 ⟨by decide, by decide, by decide, by decide⟩ 5 w (by decide)
  have e : invS 5 = 6 := by decide
  rw [e] at h; exact h

set_option maxRecDepth 100000 in
set_option maxHeartbeats 4000000 in
theorem group_bad (x y a b q : Int) (w : World) (h : ¬ (IsS x y a ∧ IsS x y b)) :
    Calls Try.prog 3 #[.int .i64 x, .int .i64 y, .int .i64 a, .int .i64 b, .int .i64 q] w fun e w' => e = .returned (.bool true) ∧ Below w.heap.size w w' := by
  have HB : Hid _ := Lib.hid h
  clear h
  go_enter Try.func3, Try.ntmps3
  go_wp2_with fail
  go_at_call 10; refine (turned (compose_3341 _)).mono ?_; rintro e w' ⟨rfl, rfl⟩
  go_wp2_with fail
  go_at_call 11; refine (moved_true _).mono ?_; rintro e w1 ⟨rfl, hb1⟩
  have HB1 : Hid _ := Lib.hid hb1
  clear hb1
  go_wp2_with fail
  go_at_call 12; refine (turned (inverse_335 _)).mono ?_; rintro e w' ⟨rfl, rfl⟩
  go_wp2_with fail
  go_at_call 10; refine (compose_bad x y a b _ HB.out).mono ?_; rintro e w' ⟨c, rfl, hc, rfl⟩
  have hne : (c != 0) = true := by simpa using hc
  clear hc
  go_wp2_with fail
  go_at_call 12; refine (inverse_ex x y a _).mono ?_; rintro e w' ⟨r1, c1, rfl, rfl⟩
  go_wp2_with fail
  go_at_call 13; refine (map_ex x y b q _).mono ?_; rintro e w2 ⟨r2, c2, rfl, n, hw2⟩
  have HB2 : Hid (Below w.heap.size w w2) := Lib.hid (HB1.out.trans ((below_of_drew hw2).mono HB1.out.size))
  clear hw2
  go_wp2_with fail
  go_ret
  exact ⟨rfl, HB2.out⟩
set_option maxRecDepth 100000 in
set_option maxHeartbeats 4000000 in
theorem group_good (W H : Nat) (B : Board W H) (a b : Nat) (q : Int) (w : World) (ha : a < cntS W H) (hb : b < cntS W H) :
    Calls Try.prog 3 #[.int .i64 (W : Int), .int .i64 (H : Int), .int .i64 (a : Int), .int .i64 (b : Int), .int .i64 q] w fun e w' => e = .returned (.bool true) ∧ Below w.heap.size w w' := by
  have a8 : a < 8 := Nat.lt_of_lt_of_le ha cntS_le
  have b8 : b < 8 := Nat.lt_of_lt_of_le hb cntS_le
  have HB : Hid _ := Lib.hid B
  obtain ⟨c, hc⟩ : ∃ c : Nat, c = compS a b := ⟨_, rfl⟩
  obtain ⟨i, hi⟩ : ∃ i : Nat, i = invS a := ⟨_, rfl⟩
  have KC : Hid (∀ w, Calls Try.prog 10 #[.int .i64 (W : Int), .int .i64 (H : Int), .int .i64 (a : Int), .int .i64 (b : Int)] w fun e w' => e = .returned (.tuple #[.int .i64 (c : Int), .int .i64 0]) ∧ w' = w) := Lib.hid (fun w => by rw [hc]; exact compose_ok W H B a b w ha hb)
  have KI : Hid (∀ w, Calls Try.prog 12 #[.int .i64 (W : Int), .int .i64 (H : Int), .int .i64 (a : Int)] w fun e w' => e = .returned (.tuple #[.int .i64 (i : Int), .int .i64 0]) ∧ w' = w) := Lib.hid (fun w => by rw [hi]; exact inverse_ok W H B a w ha)
  have c8 : c < 8 := by rw [hc]; exact Nat.lt_of_lt_of_le (comp_lt B a b ha hb) cntS_le
  have i8 : i < 8 := by rw [hi]; exact Nat.lt_of_lt_of_le (inv_lt a ha) cntS_le
  have F : Hid ((a < 4 → ((c : Int) != bits BinOp.xor IntKind.i64 (a : Int) (b : Int)) = false ∧ ((i : Int) != (a : Int)) = false) ∧
      (4 ≤ a → ((c : Int) != bits BinOp.xor IntKind.i64 (a : Int) ((b : Int) / 4 * 4 + (b : Int) % 2 * 2 + (b : Int) / 2 % 2)) = false ∧ ((i : Int) != 4 + (a : Int) % 2 * 2 + (a : Int) / 2 % 2) = false)) := Lib.hid (by
    rw [hc, hi]
    have : ∀ a b : Fin 8, (a.val < 4 → ((compS a.val b.val : Int) != bits BinOp.xor IntKind.i64 (a.val : Int) (b.val : Int)) = false ∧ ((invS a.val : Int) != (a.val : Int)) = false) ∧
      (4 ≤ a.val → ((compS a.val b.val : Int) != bits BinOp.xor IntKind.i64 (a.val : Int) ((b.val : Int) / 4 * 4 + (b.val : Int) % 2 * 2 + (b.val : Int) / 2 % 2)) = false ∧ ((invS a.val : Int) != 4 + (a.val : Int) % 2 * 2 + (a.val : Int) / 2 % 2) = false) := by decide +kernel
    exact this ⟨a, a8⟩ ⟨b, b8⟩)
  by_cases hq : 0 ≤ q ∧ q < (W * H : Nat)
  · obtain ⟨Q, rfl⟩ : ∃ Q : Nat, q = (Q : Int) := ⟨q.toNat, by omega⟩
    have hQ : Q < W * H := by omega
    obtain ⟨X, hX⟩ : ∃ X : Nat, X = mv W H b Q := ⟨_, rfl⟩
    have hX2 : X < W * H := by rw [hX]; exact mv_lt B b Q hb hQ
    obtain ⟨Y, hY⟩ : ∃ Y : Nat, Y = mv W H a X := ⟨_, rfl⟩
    have hY2 : Y < W * H := by rw [hY]; exact mv_lt B a X ha hX2
    have M1 : Hid _ := Lib.hid (fun w => map_ok W H B b Q w hb hQ)
    have M2 : Hid _ := Lib.hid (fun w => map_ok W H B a X w ha hX2)
    have M3 : Hid _ := Lib.hid (fun w => map_ok W H B c Q w (by rw [hc]; exact comp_lt B a b ha hb) hQ)
    have M4 : Hid _ := Lib.hid (fun w => map_ok W H B i Y w (by rw [hi]; exact inv_lt a ha) hY2)
    rw [← hX] at M1
    rw [← hY] at M2
    rw [show mv W H c Q = Y by rw [hc, mv_comp B a b Q ha hb hQ, ← hX, hY]] at M3
    rw [show mv W H i Y = X by rw [hi, hY, mv_inv B a X ha hX2]] at M4
    clear hc hi hX hY B hq hQ hX2 hY2
    by_cases h4 : a < 4
    · obtain ⟨f1, f2⟩ := F.out.1 h4
      go_enter Try.func3, Try.ntmps3
      go_wp2_with fail
      go_at_call 10; refine (turned (compose_3341 _)).mono ?_; rintro e w' ⟨rfl, rfl⟩
      go_wp2_with fail
      go_at_call 11; refine (moved_true _).mono ?_; rintro e w1 ⟨rfl, hb1⟩
      have HB1 : Hid _ := Lib.hid hb1
      clear hb1
      go_wp2_with fail
      go_at_call 12; refine (turned (inverse_335 _)).mono ?_; rintro e w' ⟨rfl, rfl⟩
      go_wp2_with fail
      go_at_call 10; refine (turned (KC.out _)).mono ?_; rintro e w' ⟨rfl, rfl⟩
      go_wp2_with fail
      go_at_call 12; refine (turned (KI.out _)).mono ?_; rintro e w' ⟨rfl, rfl⟩
      go_wp2_with fail
      go_at_call 13; refine (M1.out _).mono ?_; rintro e w2 ⟨rfl, q2, hw2⟩
      have HB2 : Hid (Below w.heap.size w w2) := Lib.hid (HB1.out.trans ((below_of_drew hw2).mono HB1.out.size))
      clear hw2 HB1
      go_wp2_with fail
      go_at_call 13; refine (M2.out _).mono ?_; rintro e w3 ⟨rfl, q3, hw3⟩
      have HB3 : Hid (Below w.heap.size w w3) := Lib.hid (HB2.out.trans ((below_of_drew hw3).mono HB2.out.size))
      clear hw3 HB2
      go_wp2_with fail
      go_at_call 13; refine (M3.out _).mono ?_; rintro e w4 ⟨rfl, q4, hw4⟩
      have HB4 : Hid (Below w.heap.size w w4) := Lib.hid (HB3.out.trans ((below_of_drew hw4).mono HB3.out.size))
      clear hw4 HB3
      go_wp2_with fail
      go_at_call 13; refine (M4.out _).mono ?_; rintro e w5 ⟨rfl, q5, hw5⟩
      have HB5 : Hid (Below w.heap.size w w5) := Lib.hid (HB4.out.trans ((below_of_drew hw5).mono HB4.out.size))
      clear hw5 HB4
      go_wp2_with fail
      go_at_call 14; refine (fine_any [0, 0, 0, 0] _ _ (row_new w5 [0, 0, 0, 0] 22 (by simp) (by decide)) (by decide)).mono ?_; rintro e w6 ⟨rfl, rfl⟩
      go_wp2_with fail
      go_ret
      exact ⟨ret_bool (by simp), HB5.out.alloc HB5.out.size _⟩
    · have h5 : 4 ≤ a := by omega
      obtain ⟨f1, f2⟩ := F.out.2 h5
      clear h4
      go_enter Try.func3, Try.ntmps3
      go_wp2_with fail
      go_at_call 10; refine (turned (compose_3341 _)).mono ?_; rintro e w' ⟨rfl, rfl⟩
      go_wp2_with fail
      go_at_call 11; refine (moved_true _).mono ?_; rintro e w1 ⟨rfl, hb1⟩
      have HB1 : Hid _ := Lib.hid hb1
      clear hb1
      go_wp2_with fail
      go_at_call 12; refine (turned (inverse_335 _)).mono ?_; rintro e w' ⟨rfl, rfl⟩
      go_wp2_with fail
      go_at_call 10; refine (turned (KC.out _)).mono ?_; rintro e w' ⟨rfl, rfl⟩
      go_wp2_with fail
      go_at_call 12; refine (turned (KI.out _)).mono ?_; rintro e w' ⟨rfl, rfl⟩
      go_wp2_with fail
      go_at_call 13; refine (M1.out _).mono ?_; rintro e w2 ⟨rfl, q2, hw2⟩
      have HB2 : Hid (Below w.heap.size w w2) := Lib.hid (HB1.out.trans ((below_of_drew hw2).mono HB1.out.size))
      clear hw2 HB1
      go_wp2_with fail
      go_at_call 13; refine (M2.out _).mono ?_; rintro e w3 ⟨rfl, q3, hw3⟩
      have HB3 : Hid (Below w.heap.size w w3) := Lib.hid (HB2.out.trans ((below_of_drew hw3).mono HB2.out.size))
      clear hw3 HB2
      go_wp2_with fail
      go_at_call 13; refine (M3.out _).mono ?_; rintro e w4 ⟨rfl, q4, hw4⟩
      have HB4 : Hid (Below w.heap.size w w4) := Lib.hid (HB3.out.trans ((below_of_drew hw4).mono HB3.out.size))
      clear hw4 HB3
      go_wp2_with fail
      go_at_call 13; refine (M4.out _).mono ?_; rintro e w5 ⟨rfl, q5, hw5⟩
      have HB5 : Hid (Below w.heap.size w w5) := Lib.hid (HB4.out.trans ((below_of_drew hw5).mono HB4.out.size))
      clear hw5 HB4
      go_wp2_with fail
      go_at_call 14; refine (fine_any [0, 0, 0, 0] _ _ (row_new w5 [0, 0, 0, 0] 22 (by simp) (by decide)) (by decide)).mono ?_; rintro e w6 ⟨rfl, rfl⟩
      go_wp2_with fail
      go_ret
      exact ⟨ret_bool (by simp), HB5.out.alloc HB5.out.size _⟩
  · have HQ : Hid _ := Lib.hid hq
    clear hc hi hq B
    by_cases h4 : a < 4
    · obtain ⟨f1, f2⟩ := F.out.1 h4
      go_enter Try.func3, Try.ntmps3
      go_wp2_with fail
      go_at_call 10; refine (turned (compose_3341 _)).mono ?_; rintro e w' ⟨rfl, rfl⟩
      go_wp2_with fail
      go_at_call 11; refine (moved_true _).mono ?_; rintro e w1 ⟨rfl, hb1⟩
      have HB1 : Hid _ := Lib.hid hb1
      clear hb1
      go_wp2_with fail
      go_at_call 12; refine (turned (inverse_335 _)).mono ?_; rintro e w' ⟨rfl, rfl⟩
      go_wp2_with fail
      go_at_call 10; refine (turned (KC.out _)).mono ?_; rintro e w' ⟨rfl, rfl⟩
      go_wp2_with fail
      go_at_call 12; refine (turned (KI.out _)).mono ?_; rintro e w' ⟨rfl, rfl⟩
      go_wp2_with fail
      go_at_call 13; refine (turned (map_square W H HB.out b q _ hb HQ.out)).mono ?_; rintro e w' ⟨rfl, rfl⟩
      go_wp2_with fail
      go_ret
      exact ⟨rfl, HB1.out⟩
    · have h5 : 4 ≤ a := by omega
      obtain ⟨f1, f2⟩ := F.out.2 h5
      clear h4
      go_enter Try.func3, Try.ntmps3
      go_wp2_with fail
      go_at_call 10; refine (turned (compose_3341 _)).mono ?_; rintro e w' ⟨rfl, rfl⟩
      go_wp2_with fail
      go_at_call 11; refine (moved_true _).mono ?_; rintro e w1 ⟨rfl, hb1⟩
      have HB1 : Hid _ := Lib.hid hb1
      clear hb1
      go_wp2_with fail
      go_at_call 12; refine (turned (inverse_335 _)).mono ?_; rintro e w' ⟨rfl, rfl⟩
      go_wp2_with fail
      go_at_call 10; refine (turned (KC.out _)).mono ?_; rintro e w' ⟨rfl, rfl⟩
      go_wp2_with fail
      go_at_call 12; refine (turned (KI.out _)).mono ?_; rintro e w' ⟨rfl, rfl⟩
      go_wp2_with fail
      go_at_call 13; refine (turned (map_square W H HB.out b q _ hb HQ.out)).mono ?_; rintro e w' ⟨rfl, rfl⟩
      go_wp2_with fail
      go_ret
      exact ⟨rfl, HB1.out⟩
theorem group_full (x y a b q : Int) (w : World) :
    Calls Try.prog 3 #[.int .i64 x, .int .i64 y, .int .i64 a, .int .i64 b, .int .i64 q] w fun e w' => e = .returned (.bool true) ∧ Below w.heap.size w w' := by
  by_cases h : IsS x y a ∧ IsS x y b
  · obtain ⟨W, H, S, rfl, rfl, rfl, B, hS⟩ := h.1.nat
    obtain ⟨_, h0, h1⟩ := h.2
    simp only [Int.toNat_natCast] at h1
    obtain ⟨T, rfl⟩ : ∃ T : Nat, b = (T : Int) := ⟨b.toNat, by omega⟩
    exact group_good W H B S T q w hS (by omega)
  · exact group_bad x y a b q w h
end Go.Proofs.Ytfmpoebkhkambaa
