/- BitsRays: the walk of the law. -/
import Derived.Test.YtffnnpjgfjkmjaaRay
import Derived.RowKit3
namespace Go.Proofs.Ytffnnpjgfjkmjaa
open Go.ChangeShapes Go.WideShapes Go.ChangeAt Go.RowKit
theorem rays_bad (sq dx dy : Int) (occ more : BitVec 64) (c : Int) (hc2 : (c != 0) = true) (w : World)
    (hray : ∀ (o : BitVec 64) (w : World), Calls Try.prog 10 #[.int .i64 sq, .int .i64 dx, .int .i64 dy, .int .u64 (o.toNat : Int)] w fun e w' => e = .returned (.tuple #[.int .u64 0, .int .i64 c]) ∧ w' = w) :
    Calls Try.prog 4 #[.int .i64 sq, .int .i64 dx, .int .i64 dy, .int .u64 (occ.toNat : Int), .int .u64 (more.toNat : Int)] w fun e w' => e = .returned (.bool true) ∧ w' = w := by
  obtain ⟨o2, ho⟩ : ∃ o2 : BitVec 64, bits BinOp.or IntKind.u64 (occ.toNat : Int) (more.toNat : Int) = (o2.toNat : Int) := ⟨occ ||| more, b_or _ _⟩
  have H : Hid _ := Lib.hid hray
  clear hray
  go_enter Try.func4, Try.ntmps4
  go_wp2_with fail
  go_at_call 7; refine (shifts_any _).mono ?_; rintro e w' ⟨rfl, rfl⟩
  go_wp2_with fail
  go_at_call 10; refine (H.out occ _).mono ?_; rintro e w' ⟨rfl, rfl⟩
  go_wp2_with fail
  go_at_call 10; refine (H.out o2 _).mono ?_; rintro e w' ⟨rfl, rfl⟩
  go_wp2_with fail
  go_ret
  exact ⟨rfl, rfl⟩
theorem rays_good (s : Nat) (dx dy : Int) (occ more : BitVec 64) (w : World) (hs : s < 64) (a0 : -1 ≤ dx) (a1 : dx ≤ 1) (b0 : -1 ≤ dy) (b1 : dy ≤ 1) (hz : ((dx == 0) = false) ∨ ((dx == 0) = true ∧ (dy == 0) = false)) :
    Calls Try.prog 4 #[.int .i64 (s : Int), .int .i64 dx, .int .i64 dy, .int .u64 (occ.toNat : Int), .int .u64 (more.toNat : Int)] w fun e w' => e = .returned (.bool true) ∧ w' = w := by
  obtain ⟨o2, ho2⟩ : ∃ o2 : BitVec 64, o2 = occ ||| more := ⟨_, rfl⟩
  have ho : bits BinOp.or IntKind.u64 (occ.toNat : Int) (more.toNat : Int) = (o2.toNat : Int) := by rw [ho2]; exact b_or _ _
  have HZ : Hid _ := Lib.hid hz
  clear hz
  obtain ⟨A, hA⟩ : ∃ A : BitVec 64, A = rayV s dx dy occ := ⟨_, rfl⟩
  obtain ⟨B, hB⟩ : ∃ B : BitVec 64, B = rayV s dx dy o2 := ⟨_, rfl⟩
  have hst : (bits BinOp.andNot IntKind.u64 (B.toNat : Int) (A.toNat : Int) == 0) = true := by
    rw [b_andNot, hA, hB, ho2, rayV, rayV, rayP_mono]; rfl
  obtain ⟨A1, hA1⟩ : ∃ A1 : BitVec 64, A1 = A &&& occ := ⟨_, rfl⟩
  obtain ⟨B1, hB1⟩ : ∃ B1 : BitVec 64, B1 = B &&& o2 := ⟨_, rfl⟩
  have h1 : bits BinOp.and IntKind.u64 (A.toNat : Int) (occ.toNat : Int) = (A1.toNat : Int) := by rw [hA1]; exact b_and _ _
  have h2 : bits BinOp.and IntKind.u64 (B.toNat : Int) (o2.toNat : Int) = (B1.toNat : Int) := by rw [hB1]; exact b_and _ _
  have c1 : cnt A1 ≤ 1 := by
    rw [hA1, hA, rayV]
    obtain ⟨u, v, e⟩ := rayP_and dx dy occ 7 ((s % 8 : Nat) + dx) ((s / 8 : Nat) + dy)
    rw [e]; exact cnt_sq u v
  have c2 : cnt B1 ≤ 1 := by
    rw [hB1, hB, rayV]
    obtain ⟨u, v, e⟩ := rayP_and dx dy o2 7 ((s % 8 : Nat) + dx) ((s / 8 : Nat) + dy)
    rw [e]; exact cnt_sq u v
  have hAB : A = 0#64 ↔ B = 0#64 := by rw [hA, hB, rayV, rayV, rayP_zero, rayP_zero]
  have hz : (((A.toNat : Int) == 0) = true ∧ ((B.toNat : Int) == 0) = true) ∨ (((A.toNat : Int) == 0) = false ∧ ((B.toNat : Int) == 0) = false) := by
    by_cases h : A = 0#64
    · exact .inl ⟨(int_zero h).1, (int_zero (hAB.1 h)).1⟩
    · exact .inr ⟨(int_ne_zero h).1, (int_ne_zero (fun e => h (hAB.2 e))).1⟩
  have KA : Hid (∀ w, Calls Try.prog 10 #[.int .i64 (s : Int), .int .i64 dx, .int .i64 dy, .int .u64 (occ.toNat : Int)] w fun e w' => e = .returned (.tuple #[.int .u64 (A.toNat : Int), .int .i64 0]) ∧ w' = w) :=
    Lib.hid (fun w => by rw [hA]; exact ray_ok s dx dy occ w hs a0 a1 b0 b1 HZ.out)
  have KB : Hid (∀ w, Calls Try.prog 10 #[.int .i64 (s : Int), .int .i64 dx, .int .i64 dy, .int .u64 (o2.toNat : Int)] w fun e w' => e = .returned (.tuple #[.int .u64 (B.toNat : Int), .int .i64 0]) ∧ w' = w) :=
    Lib.hid (fun w => by rw [hB]; exact ray_ok s dx dy o2 w hs a0 a1 b0 b1 HZ.out)
  obtain ⟨n1, hn1⟩ : ∃ n : Nat, n = cnt A1 := ⟨_, rfl⟩
  obtain ⟨n2, hn2⟩ : ∃ n : Nat, n = cnt B1 := ⟨_, rfl⟩
  have KC : Hid (∀ w, Calls Try.prog 8 #[.int .u64 (A1.toNat : Int)] w fun e w' => e = .returned (.int .i64 (n1 : Int)) ∧ w' = w) := Lib.hid (fun w => by rw [hn1]; exact count_any A1 w)
  have KD : Hid (∀ w, Calls Try.prog 8 #[.int .u64 (B1.toNat : Int)] w fun e w' => e = .returned (.int .i64 (n2 : Int)) ∧ w' = w) := Lib.hid (fun w => by rw [hn2]; exact count_any B1 w)
  rw [← hn1] at c1
  rw [← hn2] at c2
  clear hA hB hA1 hB1 ho2 hAB HZ hn1 hn2
  rcases hz with ⟨z1, z2⟩ | ⟨z1, z2⟩
  all_goals
    go_enter Try.func4, Try.ntmps4
    go_wp2_with fail
    go_at_call 7; refine (shifts_any _).mono ?_; rintro e w' ⟨rfl, rfl⟩
    go_wp2_with fail
    go_at_call 10; refine (KA.out _).mono ?_; rintro e w' ⟨rfl, rfl⟩
    go_wp2_with fail
    go_at_call 10; refine (KB.out _).mono ?_; rintro e w' ⟨rfl, rfl⟩
    go_wp2_with fail
    go_at_call 8; refine (KC.out _).mono ?_; rintro e w' ⟨rfl, rfl⟩
    go_wp2_with fail
    go_at_call 8; refine (KD.out _).mono ?_; rintro e w' ⟨rfl, rfl⟩
    go_wp2_with fail
    go_ret
    exact ⟨rfl, rfl⟩
theorem rays_full (a0 a1 a2 a3 a4 : Int) (w3 : (Lit.int .u64 a3).wf = true) (w4 : (Lit.int .u64 a4).wf = true) (w : World) :
    Calls Try.prog 4 #[.int .i64 a0, .int .i64 a1, .int .i64 a2, .int .u64 a3, .int .u64 a4] w fun e w' => e = .returned (.bool true) ∧ Grown w w' := by
  obtain ⟨b3, rfl⟩ := word_of w3
  obtain ⟨b4, rfl⟩ := word_of w4
  suffices h : Calls Try.prog 4 #[.int .i64 a0, .int .i64 a1, .int .i64 a2, .int .u64 (b3.toNat : Int), .int .u64 (b4.toNat : Int)] w fun e w' => e = .returned (.bool true) ∧ w' = w from
    h.mono fun e w' h => ⟨h.1, by rw [h.2]; exact Grown.refl _⟩
  by_cases hs : 0 ≤ a0 ∧ a0 < 64
  · obtain ⟨s, rfl⟩ : ∃ s : Nat, a0 = (s : Int) := ⟨a0.toNat, by omega⟩
    by_cases hb : ¬ (-1 ≤ a1 ∧ a1 ≤ 1) ∨ ¬ (-1 ≤ a2 ∧ a2 ≤ 1) ∨ (a1 = 0 ∧ a2 = 0)
    · exact rays_bad s a1 a2 b3 b4 1 rfl w (fun o w => ray_arg s a1 a2 o w (by omega) hb)
    · refine rays_good s a1 a2 b3 b4 w (by omega) (by omega) (by omega) (by omega) (by omega) ?_
      by_cases hx : a1 = 0
      · exact .inr ⟨by simp [hx], by simp; omega⟩
      · exact .inl (by simp [hx])
  · exact rays_bad a0 a1 a2 b3 b4 4 rfl w (fun o w => ray_range a0 a1 a2 o w hs)
end Go.Proofs.Ytffnnpjgfjkmjaa
