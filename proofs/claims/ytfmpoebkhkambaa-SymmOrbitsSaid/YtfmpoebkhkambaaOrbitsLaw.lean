/- SymmOrbits: the walk of the law. -/
import Derived.Test.YtfmpoebkhkambaaOrbits
namespace Go.Proofs.Ytfmpoebkhkambaa
open Go.RowKit Go.Shelf

theorem all_ex (a b : Int) (w : World) :
    Calls Try.prog 17 #[.int .i64 a, .int .i64 b] w fun e w' => (∃ ad n cap c, e = .returned (.tuple #[.slice ad n cap, .int .i64 c])) ∧ Below w.heap.size w w' := by
  by_cases h : IsB a b
  · obtain ⟨W, H, rfl, rfl, B⟩ := h.nat
    exact (all_ok W H B w).mono fun e w' ⟨⟨ad, cap, h1⟩, h2⟩ => ⟨⟨_, _, _, _, h1⟩, h2⟩
  · exact (all_no a b w h).mono fun e w' ⟨h1, h2⟩ => ⟨⟨_, _, _, _, h1⟩, by rw [h2]; exact Below.refl _ _⟩
theorem all_32 (w : World) : Calls Try.prog 17 #[.int .i64 3, .int .i64 2] w fun e w' => (∃ a cap, e = .returned (.tuple #[.slice a 4 cap, .int .i64 0])) ∧ Below w.heap.size w w' := all_ok 3 2 ⟨by decide, by decide, by decide, by decide⟩ w
theorem some_index (n : Int) (L : Nat) (h1 : 1 ≤ L) (h8 : L ≤ 8) : ∃ (t : Int) (j : Nat), n.tmod (L : Int) = t ∧ -(L : Int) < t ∧ t < L ∧ j < L ∧ (t + (L : Int)).tmod (L : Int) = (j : Int) ∧ (t + (L : Int)) % (L : Int) = (j : Int) := by
  have hL : (0 : Int) < (L : Int) := by omega
  have a1 : n.tmod (L : Int) < (L : Int) := Int.tmod_lt_of_pos _ hL
  have a2 : -(L : Int) < n.tmod (L : Int) := by
    have := Int.lt_tmod_of_pos n hL
    omega
  have e0 : 0 ≤ n.tmod (L : Int) + (L : Int) := by omega
  have b1 := Int.emod_nonneg (n.tmod (L : Int) + (L : Int)) (by omega : (L : Int) ≠ 0)
  have b2 := Int.emod_lt_of_pos (n.tmod (L : Int) + (L : Int)) hL
  refine ⟨_, ((n.tmod (L : Int) + (L : Int)) % (L : Int)).toNat, rfl, a2, a1, by omega, ?_, by omega⟩
  rw [Int.tmod_eq_emod_of_nonneg e0]; omega

set_option maxHeartbeats 1000000 in
theorem some_any (xs : List Int) (v : Value) (n : Int) (w : World) (hv : Row w v (vals xs)) (h1 : 1 ≤ xs.length) (h8 : xs.length ≤ 8) :
    Calls Try.prog 18 #[v, .int .i64 n] w fun e w' => (∃ x, x ∈ xs ∧ e = .returned (.int .i64 x)) ∧ w = w' := by
  obtain ⟨L, hL⟩ : ∃ L : Nat, L = xs.length := ⟨_, rfl⟩
  obtain ⟨a, cap, rfl, hcell⟩ := hv.at hL
  rw [← hL] at h1 h8
  obtain ⟨t, j, ht, t1, t2, hj, k1, k2⟩ := some_index n L h1 h8
  obtain ⟨g, off, rfl, hc⟩ := hcell j hj
  have hc1 := hc w (Below.refl _ _)
  have HX : Hid (xs[j]?.getD 0 ∈ xs) := Lib.hid (by
    have hj2 : j < xs.length := by omega
    simp [hj2])
  generalize xs[j]?.getD 0 = x at hc1 HX
  have hL0 : ((L : Int) == 0) = false := by simp; omega
  clear hc hcell hL hv
  go_enter Try.func18, Try.ntmps18
  go_wp2
  go_ret
  exact ⟨⟨x, HX.out, rfl⟩, rfl⟩
theorem contains_any (xs : List Int) (v : Value) (x : Int) (w : World) (hv : Row w v (vals xs)) (hx : x ∈ xs) (h8 : xs.length ≤ 64) :
    Calls Try.prog 19 #[v, .int .i64 x] w fun e w' => e = .returned (.bool true) ∧ w' = w := by
  rcases hv with ⟨e, _⟩ | ⟨g, off, cap, rfl, _, _, _, hc⟩
  · have : xs = [] := by simpa [vals] using e
    rw [this] at hx; cases hx
  · rw [vals_length]
    have h := Try.slices_Contains_int g off xs.length cap xs x w (Nat.le_refl _) (by omega) (fun j hj => by rw [hc j _ (vals_at xs j hj)]; simp [List.getD])
    rw [List.take_length, List.contains_iff_mem.2 hx] at h
    exact h
set_option maxRecDepth 100000 in
set_option maxHeartbeats 4000000 in
theorem orbits_bad (a b q n : Int) (w : World) (h : ∀ w, Calls Try.prog 15 #[.int .i64 a, .int .i64 b, .int .i64 q] w fun e w' => e = .returned (.tuple #[.slice none 0 0, .int .i64 4]) ∧ w' = w) :
    Calls Try.prog 4 #[.int .i64 a, .int .i64 b, .int .i64 q, .int .i64 n] w fun e w' => e = .returned (.bool true) ∧ Below w.heap.size w w' := by
  have HB : Hid _ := Lib.hid h
  clear h
  go_enter Try.func4, Try.ntmps4
  go_wp2_with fail
  go_at_call 15; refine (orbit_320 _).mono ?_; rintro e w1 ⟨v1, rfl, hr1, hb1⟩
  have HB1 : Hid _ := Lib.hid hb1
  have HR1 : Hid _ := Lib.hid hr1
  clear hb1 hr1
  go_wp2_with fail
  go_at_call 16
  refine (equal_any [0, 2, 3, 5] [0, 2, 3, 5] v1 _ _ (HR1.out.below ((Below.refl w1.heap.size w1).alloc (Nat.le_refl _) _) (Nat.le_refl _)) (row_new w1 [0, 2, 3, 5] 3 (by simp) (by decide)) (by simp)).mono ?_
  rintro e w2 ⟨rfl, hb2⟩
  have HB2 : Hid (Below w.heap.size w w2) := Lib.hid ((HB1.out.alloc HB1.out.size _).trans (hb2.mono (by have := HB1.out.size; simp; omega)))
  clear hb2 HB1 HR1
  go_wp2_with fail
  go_at_call 17; refine (all_32 _).mono ?_; rintro e w3 ⟨⟨a3, c3, rfl⟩, hb3⟩
  have HB3 : Hid (Below w.heap.size w w3) := Lib.hid (HB2.out.trans (hb3.mono HB2.out.size))
  clear hb3 HB2
  go_wp2_with fail
  go_at_call 15; refine (turned (HB.out _)).mono ?_; rintro e w' ⟨rfl, rfl⟩
  go_wp2_with fail
  go_at_call 17; refine (all_ex a b _).mono ?_; rintro e w4 ⟨⟨a4, n4, c4, e4, rfl⟩, hb4⟩
  have HB4 : Hid (Below w.heap.size w w4) := Lib.hid (HB3.out.trans (hb4.mono HB3.out.size))
  clear hb4
  go_wp2_with fail
  go_ret
  exact ⟨rfl, HB4.out⟩
set_option maxRecDepth 100000 in
set_option maxHeartbeats 8000000 in
theorem orbits_good (W H : Nat) (B : Board W H) (q : Nat) (n : Int) (w : World) (hq : q < W * H) :
    Calls Try.prog 4 #[.int .i64 (W : Int), .int .i64 (H : Int), .int .i64 (q : Int), .int .i64 n] w fun e w' => e = .returned (.bool true) ∧ Below w.heap.size w w' := by
  have HO : Hid _ := Lib.hid (fun w => orbit_ok W H B q hq w)
  have HX : Hid (∀ x : Int, x ∈ orb W H q → ∀ w, Calls Try.prog 15 #[.int .i64 (W : Int), .int .i64 (H : Int), .int .i64 x] w (OrbPost w (orb W H q))) := Lib.hid (fun x hx w => by
    obtain ⟨X, hX, rfl⟩ := List.mem_map.1 hx
    have hlt : X < W * H := by rw [orbN, List.mem_filter] at hX; simpa using hX.1
    have h := orbit_ok W H B X hlt w
    rw [show orb W H X = orb W H q by rw [orb, orb, orb_same B q X hq hX]] at h
    exact h)
  have HS : Hid ((q : Int) ∈ orb W H q) := Lib.hid (List.mem_map.2 ⟨q, orb_self B q hq, rfl⟩)
  have HA : Hid _ := Lib.hid (fun w => all_ok W H B w)
  obtain ⟨L, hL⟩ : ∃ L : Nat, L = (orb W H q).length := ⟨_, rfl⟩
  have hL1 : 1 ≤ L := by rw [hL, orb_length]; exact orb_pos B q hq
  have hL8 : L ≤ 8 := by rw [hL, orb_length]; exact orb_le B q hq
  have hdiv : cntS W H % L = 0 := by rw [hL, orb_length]; exact orb_div B q hq
  generalize cntS W H = c at HA hdiv
  have hd1 : (c : Int).tmod (L : Int) = 0 := by
    rw [Int.tmod_eq_emod_of_nonneg (by omega)]
    have : (c : Int) % (L : Int) = ((c % L : Nat) : Int) := by norm_cast
    rw [this, hdiv]; rfl
  have hd2 : (c : Int) % (L : Int) = 0 := by
    have : (c : Int) % (L : Int) = ((c % L : Nat) : Int) := by norm_cast
    rw [this, hdiv]; rfl
  have HL : Hid _ := Lib.hid hL
  have hL0 : ((L : Int) == 0) = false := by simp; omega
  generalize orb W H q = xs at HO HX HS HL
  clear hdiv hL hq B
  go_enter Try.func4, Try.ntmps4
  go_wp2_with fail
  go_at_call 15; refine (orbit_320 _).mono ?_; rintro e w1 ⟨v1, rfl, hr1, hb1⟩
  have HB1 : Hid _ := Lib.hid hb1
  have HR1 : Hid _ := Lib.hid hr1
  clear hb1 hr1
  go_wp2_with fail
  go_at_call 16
  refine (equal_any [0, 2, 3, 5] [0, 2, 3, 5] v1 _ _ (HR1.out.below ((Below.refl w1.heap.size w1).alloc (Nat.le_refl _) _) (Nat.le_refl _)) (row_new w1 [0, 2, 3, 5] 3 (by simp) (by decide)) (by simp)).mono ?_
  rintro e w2 ⟨rfl, hb2⟩
  have HB2 : Hid (Below w.heap.size w w2) := Lib.hid ((HB1.out.alloc HB1.out.size _).trans (hb2.mono (by have := HB1.out.size; simp; omega)))
  clear hb2 HB1 HR1
  go_wp2_with fail
  go_at_call 17; refine (all_32 _).mono ?_; rintro e w3 ⟨⟨a3, c3, rfl⟩, hb3⟩
  have HB3 : Hid (Below w.heap.size w w3) := Lib.hid (HB2.out.trans (hb3.mono HB2.out.size))
  clear hb3 HB2
  go_wp2_with fail
  go_at_call 15; refine (HO.out _).mono ?_; rintro e w4 ⟨v4, rfl, hr4, hb4⟩
  have HB4 : Hid (Below w.heap.size w w4) := Lib.hid (HB3.out.trans (hb4.mono HB3.out.size))
  have HR4 : Hid _ := Lib.hid hr4
  obtain ⟨a4, cap4, rfl, _⟩ := hr4.shape L (by rw [vals_length]; exact HL.out)
  clear hb4 HB3 hr4
  go_wp2_with fail
  go_at_call 17; refine (HA.out _).mono ?_; rintro e w5 ⟨⟨a5, c5, rfl⟩, hb5⟩
  have HB5 : Hid (Below w.heap.size w w5) := Lib.hid (HB4.out.trans (hb5.mono HB4.out.size))
  have HR5 : Hid _ := Lib.hid (HR4.out.below hb5 (Nat.le_refl _))
  clear hb5 HB4 HR4
  go_wp2_with fail
  go_at_call 18; refine (some_any xs _ n _ HR5.out (by rw [← HL.out]; exact hL1) (by rw [← HL.out]; exact hL8)).mono ?_; rintro e w' ⟨⟨x, hx, rfl⟩, rfl⟩
  have HXX : Hid _ := Lib.hid hx
  clear hx
  go_wp2_with fail
  go_at_call 15; refine (HX.out x HXX.out _).mono ?_; rintro e w6 ⟨v6, rfl, hr6, hb6⟩
  have HB6 : Hid (Below w.heap.size w w6) := Lib.hid (HB5.out.trans (hb6.mono HB5.out.size))
  have HR6 : Hid _ := Lib.hid (HR5.out.below hb6 (Nat.le_refl _))
  have HM6 : Hid _ := Lib.hid hr6
  clear hb6 HB5 HR5 hr6
  go_wp2_with fail
  go_at_call 14; refine (fine_any [0, 0] _ _ (row_new w6 [0, 0] 22 (by simp) (by simp [maxLen])) (by simp)).mono ?_; rintro e w7 ⟨rfl, rfl⟩
  obtain ⟨w7, hw7⟩ : ∃ w7, w7 = w6.alloc (.cells (vals [0, 0]).toArray 22) := ⟨_, rfl⟩
  have hb7 : Below w6.heap.size w6 w7 := by rw [hw7]; exact (Below.refl _ w6).alloc (Nat.le_refl _) _
  have HB7 : Hid (Below w.heap.size w w7) := Lib.hid (HB6.out.trans (hb7.mono HB6.out.size))
  have HR7 : Hid _ := Lib.hid (HR6.out.below hb7 (Nat.le_refl _))
  have HM7 : Hid _ := Lib.hid (HM6.out.below hb7 (Nat.le_refl _))
  rw [← hw7]
  clear hb7 hw7 HB6 HR6 HM6
  have EQ : Hid (Calls Try.prog 16 #[.slice a4 L cap4, v6] w7 (BoolPost w7 true)) := Lib.hid (by
    have h := equal_any xs xs _ v6 w7 HR7.out HM7.out (by have := HL.out; omega)
    rwa [decide_eq_true rfl] at h)
  go_wp2_with fail
  go_at_call 16; refine EQ.out.mono ?_; rintro e w8 ⟨rfl, hb8⟩
  have HB8 : Hid (Below w.heap.size w w8) := Lib.hid (HB7.out.trans (hb8.mono HB7.out.size))
  have HR8 : Hid _ := Lib.hid (HR7.out.below hb8 (Nat.le_refl _))
  clear hb8
  go_wp2_with fail
  go_at_call 19; refine (turned (contains_any xs _ (q : Int) _ HR8.out HS.out (by have := HL.out; omega))).mono ?_; rintro e w' ⟨rfl, rfl⟩
  go_wp2_with fail
  go_ret
  exact ⟨rfl, HB8.out⟩
theorem orbits_full (a b q n : Int) (w : World) :
    Calls Try.prog 4 #[.int .i64 a, .int .i64 b, .int .i64 q, .int .i64 n] w fun e w' => e = .returned (.bool true) ∧ Below w.heap.size w w' := by
  by_cases h : IsB a b
  · obtain ⟨W, H, rfl, rfl, B⟩ := h.nat
    by_cases hq : 0 ≤ q ∧ q < (W * H : Nat)
    · obtain ⟨Q, rfl⟩ : ∃ Q : Nat, q = (Q : Int) := ⟨q.toNat, by omega⟩
      exact orbits_good W H B Q n w (by omega)
    · exact orbits_bad _ _ q n w (orbit_off W H B q hq)
  · exact orbits_bad a b q n w (fun w => orbit_no a b q w h)
end Go.Proofs.Ytfmpoebkhkambaa
