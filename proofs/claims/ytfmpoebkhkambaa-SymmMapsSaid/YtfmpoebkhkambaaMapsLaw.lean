/- SymmMaps: the walk of the law. -/
import Derived.Test.YtfmpoebkhkambaaOrbits
namespace Go.Proofs.Ytfmpoebkhkambaa
open Go.RowKit Go.Shelf

/-! ### Plain facts -/
/-- How many squares below j are met. -/
def kcnt (W H q j : Nat) : Nat := ((List.range j).filter (meets W H q)).length
def anyTo (W H q j k : Nat) : Bool := (List.range k).any fun s => Nat.beq (mv W H s q) j
theorem anyTo_succ (W H q j k : Nat) : anyTo W H q j (k + 1) = (anyTo W H q j k || Nat.beq (mv W H k q) j) := by simp [anyTo, List.range_succ]
theorem kcnt_le (W H q j : Nat) : kcnt W H q j ≤ j := by
  have := List.length_filter_le (meets W H q) (List.range j); simpa [kcnt] using this
theorem kcnt_succ (W H q j : Nat) : kcnt W H q (j + 1) = if meets W H q j then kcnt W H q j + 1 else kcnt W H q j := by
  rw [kcnt, List.range_succ, List.filter_append, List.filter_cons]
  cases meets W H q j <;> simp [kcnt]
theorem kcnt_at (W H q j : Nat) (hj : j < W * H) (h : meets W H q j = true) : kcnt W H q j < (orbN W H q).length ∧ (orb W H q)[kcnt W H q j]?.getD 0 = (j : Int) := by
  have e : orbN W H q = (List.range j).filter (meets W H q) ++ (j :: (((List.range (W * H - (j + 1))).map ((j + 1) + ·)).filter (meets W H q))) := by
    rw [orbN, show W * H = (j + 1) + (W * H - (j + 1)) by omega, List.range_add, List.filter_append, List.range_succ, List.filter_append, List.filter_cons, if_pos h]
    simp
  constructor
  · rw [e, List.length_append, kcnt]; simp
  · rw [orb, e, List.map_append, kcnt, List.getElem?_append_right (by simp)]
    simp

set_option maxRecDepth 100000 in
set_option maxHeartbeats 8000000 in
theorem maps_no (a b s q : Int) (ad : Option Addr) (n cap : Nat) (w : World) (h : ¬ IsB a b) :
    Calls Try.prog 7 #[.int .i64 a, .int .i64 b, .int .i64 s, .int .i64 q, .slice ad n cap] w fun e w' => e = .returned (.bool true) ∧ Below w.heap.size w w' := by
  have HB : Hid _ := Lib.hid h
  have HS : Hid (¬ IsS a b s) := Lib.hid (fun g => h g.1)
  clear h
  go_enter Try.func7, Try.ntmps7
  go_wp2_with fail
  go_at_call 13; refine (map_3350 _).mono ?_; rintro e w1 ⟨rfl, d1, hw1⟩
  have HB1 : Hid (Below w.heap.size w w1) := Lib.hid (below_of_drew hw1)
  clear hw1
  go_wp2_with fail
  go_at_call 15; refine (orbit_320 _).mono ?_; rintro e w2 ⟨v2, rfl, hr2, hb2⟩
  have HB2 : Hid (Below w.heap.size w w2) := Lib.hid (HB1.out.trans (hb2.mono HB1.out.size))
  have HR2 : Hid _ := Lib.hid hr2
  clear hb2 hr2 HB1
  go_wp2_with fail
  go_at_call 23
  refine (same_any [0, 2, 3, 5] [0, 2, 3, 5] v2 _ _ (HR2.out.below ((Below.refl w2.heap.size w2).alloc (Nat.le_refl _) _) (Nat.le_refl _)) (row_new w2 [0, 2, 3, 5] 3 (by simp) (by decide)) (by simp)).mono ?_
  rintro e w3 ⟨rfl, hb3⟩
  have HB3 : Hid (Below w.heap.size w w3) := Lib.hid ((HB2.out.alloc HB2.out.size _).trans (hb3.mono (by have := HB2.out.size; simp; omega)))
  clear hb3 HB2 HR2
  go_wp2_with fail
  go_at_call 21; refine (apply_56 _ _ (row_two w3 5 6)).mono ?_; rintro e w4 ⟨v4, rfl, hr4, hb4⟩
  have HB4 : Hid (Below w.heap.size w w4) := Lib.hid ((HB3.out.alloc HB3.out.size _).trans (hb4.mono (by have := HB3.out.size; simp; omega)))
  have HR4 : Hid _ := Lib.hid hr4
  clear hb4 hr4 HB3
  go_wp2_with fail
  go_at_call 23
  refine (same_any [6, 5] [6, 5] v4 _ _ (HR4.out.below ((Below.refl w4.heap.size w4).alloc (Nat.le_refl _) _) (Nat.le_refl _)) (row_two w4 6 5) (by simp)).mono ?_
  rintro e w5 ⟨rfl, hb5⟩
  have HB5 : Hid (Below w.heap.size w w5) := Lib.hid ((HB4.out.alloc HB4.out.size _).trans (hb5.mono (by have := HB4.out.size; simp; omega)))
  clear hb5 HB4 HR4
  go_wp2_with fail
  go_at_call 13; refine (map_bad a b s q _ HS.out).mono ?_; rintro e w' ⟨c, rfl, _, hc, _, rfl⟩
  obtain rfl := hc.2 HB.out
  clear hc
  go_wp2_with fail
  go_at_call 21; refine (apply_bad a b s (.slice ad n cap) _ HS.out).mono ?_; rintro e w' ⟨c, rfl, _, hc, _, rfl⟩
  obtain rfl := hc.2 HB.out
  clear hc
  go_wp2_with fail
  go_at_call 15; refine (turned (orbit_no a b q _ HB.out)).mono ?_; rintro e w' ⟨rfl, rfl⟩
  go_wp2_with fail
  go_at_call 17; refine (turned (all_no a b _ HB.out)).mono ?_; rintro e w' ⟨rfl, rfl⟩
  go_wp2_with fail
  go_at_call 24; refine (turned (symmetries_no a b _ HB.out)).mono ?_; rintro e w' ⟨rfl, rfl⟩
  go_wp2_with fail
  go_ret
  exact ⟨rfl, HB5.out⟩

/-- What the law wants of Apply's result: the slice and the error. -/
def AppRes (W H : Nat) (s : Int) (n : Nat) (xs : List Int) (W' : World) (v : Value) (f : Int) : Prop :=
  ∃ a l cap, v = .slice a l cap ∧ (¬ IsS W H s → f = 8 ∧ l = 0) ∧ (IsS W H s → n ≠ W * H → f = 3 ∧ l = 0) ∧ (IsS W H s → n = W * H → f = 0 ∧ l = n ∧ Row W' v (vals (app W H s.toNat xs)))
theorem apply_res (W H : Nat) (B : Board W H) (s : Int) (xs : List Int) (v : Value) (n : Nat) (w : World) (hv : Row w v (vals xs)) (hx : xs.length = n) :
    Calls Try.prog 21 #[.int .i64 (W : Int), .int .i64 (H : Int), .int .i64 s, v] w fun e w' => ∃ v' f, e = .returned (.tuple #[v', .int .i64 f]) ∧ AppRes W H s n xs w' v' f ∧ Below w.heap.size w w' := by
  by_cases hs : IsS W H s
  · obtain ⟨_, h0, h1⟩ := id hs
    simp only [Int.toNat_natCast] at h1
    obtain ⟨S, rfl⟩ : ∃ S : Nat, s = (S : Int) := ⟨s.toNat, by omega⟩
    by_cases hn : n = W * H
    · refine (apply_ok W H B S (by omega) xs v w hv (by omega)).mono ?_
      rintro e w' ⟨v', rfl, hr, hb⟩
      obtain ⟨a, cap, e2, _⟩ := hr.shape n (by rw [vals_length, app_length, hn])
      exact ⟨v', 0, rfl, ⟨a, n, cap, e2, fun g => absurd hs g, fun _ g => absurd hn g, fun _ _ => ⟨rfl, rfl, by rw [Int.toNat_natCast]; exact hr⟩⟩, hb⟩
    · obtain ⟨a, cap, rfl, _⟩ := hv.shape n (by rw [vals_length, hx])
      refine (apply_form W H B S (by omega) n a cap w hn).mono ?_
      rintro e w' ⟨rfl, rfl⟩
      exact ⟨_, 3, rfl, ⟨none, 0, 0, rfl, fun g => absurd hs g, fun _ _ => ⟨rfl, rfl⟩, fun _ g => absurd g hn⟩, Below.refl _ _⟩
  · refine (apply_bad (W : Int) (H : Int) s v w hs).mono ?_
    rintro e w' ⟨c, rfl, _, _, h8, rfl⟩
    exact ⟨_, c, rfl, ⟨none, 0, 0, rfl, fun _ => ⟨h8.2 B.isB, rfl⟩, fun g => absurd g hs, fun g => absurd g hs⟩, Below.refl _ _⟩
/-- And of Map's. -/
def MapRes (W H : Nat) (s q : Int) (r c : Int) : Prop :=
  (¬ IsS W H s → r = 0 ∧ c = 8) ∧ (IsS W H s → ¬ (0 ≤ q ∧ q < (W * H : Nat)) → r = 0 ∧ c = 4) ∧ (IsS W H s → (0 ≤ q ∧ q < (W * H : Nat)) → r = (mv W H s.toNat q.toNat : Int) ∧ c = 0)
theorem map_res (W H : Nat) (B : Board W H) (s q : Int) (w : World) :
    Calls Try.prog 13 #[.int .i64 (W : Int), .int .i64 (H : Int), .int .i64 s, .int .i64 q] w fun e w' => ∃ r c, e = .returned (.tuple #[.int .i64 r, .int .i64 c]) ∧ MapRes W H s q r c ∧ Below w.heap.size w w' := by
  by_cases hs : IsS W H s
  · obtain ⟨_, h0, h1⟩ := id hs
    simp only [Int.toNat_natCast] at h1
    obtain ⟨S, rfl⟩ : ∃ S : Nat, s = (S : Int) := ⟨s.toNat, by omega⟩
    by_cases hq : 0 ≤ q ∧ q < (W * H : Nat)
    · obtain ⟨Q, rfl⟩ : ∃ Q : Nat, q = (Q : Int) := ⟨q.toNat, by omega⟩
      refine (map_ok W H B S Q w (by omega) (by omega)).mono ?_
      rintro e w' ⟨rfl, d, rfl⟩
      exact ⟨_, _, rfl, ⟨fun g => absurd hs g, fun _ g => absurd hq g, fun _ _ => ⟨by simp, rfl⟩⟩, below_drewN (Below.refl _ _) _⟩
    · refine (map_square W H B S q w (by omega) hq).mono ?_
      rintro e w' ⟨rfl, rfl⟩
      exact ⟨_, _, rfl, ⟨fun g => absurd hs g, fun _ _ => ⟨rfl, rfl⟩, fun _ g => absurd g hq⟩, Below.refl _ _⟩
  · refine (map_bad (W : Int) (H : Int) s q w hs).mono ?_
    rintro e w' ⟨c, rfl, _, _, h8, rfl⟩
    exact ⟨_, c, rfl, ⟨fun _ => ⟨rfl, h8.2 B.isB⟩, fun g => absurd g hs, fun g => absurd g hs⟩, Below.refl _ _⟩

set_option maxRecDepth 100000 in
set_option maxHeartbeats 16000000 in
theorem maps_on (W H : Nat) (B : Board W H) (s : Int) (Q : Nat) (hQ : Q < W * H) (xs : List Int) (v : Value) (w : World) (hv : Row w v (vals xs)) :
    Calls Try.prog 7 #[.int .i64 (W : Int), .int .i64 (H : Int), .int .i64 s, .int .i64 (Q : Int), v] w fun e w' => e = .returned (.bool true) ∧ Below w.heap.size w w' := by
  obtain ⟨c, hc⟩ : ∃ c : Nat, c = cntS W H := ⟨_, rfl⟩
  have hc4 : 4 ≤ c := by rw [hc]; exact cntS_ge
  have hc8 : c ≤ 8 := by rw [hc]; exact cntS_le
  obtain ⟨A, hA⟩ : ∃ A : Nat, A = W * H := ⟨_, rfl⟩
  have hA64 : A ≤ 64 := by rw [hA]; exact wh_le B
  have hA1 : 1 ≤ A := by rw [hA]; exact wh_pos B
  have hm : (W : Int) * (H : Int) = (A : Int) := by rw [hA]; norm_cast
  have K1 : Hid _ := Lib.hid (fun w => map_res W H B s (Q : Int) w)
  obtain ⟨n, hn⟩ : ∃ n : Nat, n = xs.length := ⟨_, rfl⟩
  have K2 : Hid (∀ W', Below w.heap.size w W' → Calls Try.prog 21 #[.int .i64 (W : Int), .int .i64 (H : Int), .int .i64 s, v] W' fun e w' => ∃ v' f, e = .returned (.tuple #[v', .int .i64 f]) ∧ AppRes W H s n xs w' v' f ∧ Below W'.heap.size W' w') := Lib.hid (fun W' hb => apply_res W H B s xs v n W' (hv.below hb (Nat.le_refl _)) hn.symm)
  have K4 : Hid (∀ w, Calls Try.prog 17 #[.int .i64 (W : Int), .int .i64 (H : Int)] w fun e w' => (∃ a cap, e = .returned (.tuple #[.slice a c cap, .int .i64 0])) ∧ Below w.heap.size w w') := Lib.hid (by rw [hc]; exact fun w => all_ok W H B w)
  have K5 : Hid (∀ w, Calls Try.prog 24 #[.int .i64 (W : Int), .int .i64 (H : Int)] w fun e w' => e = .returned (.int .i64 (c : Int)) ∧ w' = w) := Lib.hid (by rw [hc]; exact symmetries_ok W H B)
  have HM : Hid (∀ s k w, s < c → k < A → Calls Try.prog 26 #[.int .i64 (W : Int), .int .i64 (H : Int), .int .i64 (s : Int), .int .i64 (k : Int)] w fun e w' => (e = .returned (.int .i64 (mv W H s k : Int)) ∧ mv W H s k < A) ∧ ∃ n, w' = w.drewN n) :=
    Lib.hid (fun s k w hs hk => (moved_any W H B s k w (by omega) (by omega)).mono fun e w' h => ⟨⟨h.1, by rw [hA]; exact mv_lt B s k (by omega) (by omega)⟩, h.2⟩)
  have HIS : Hid (IsS W H s → ∃ S : Nat, s = (S : Int) ∧ S < c) := Lib.hid (fun g => by
    obtain ⟨_, h0, h1⟩ := g
    simp only [Int.toNat_natCast] at h1
    exact ⟨s.toNat, by omega, by omega⟩)
  have HNS : Hid (¬ IsS W H s → ¬ (0 ≤ s ∧ s ≤ (c : Int) - 1)) := Lib.hid (fun g h => g ⟨B.isB, h.1, by simp only [Int.toNat_natCast]; omega⟩)
  have HAP : Hid (∀ S k, S < c → k < A → (app W H S xs)[mv W H S k]?.getD 0 = xs[k]?.getD 0) := Lib.hid (fun S k hS hk => by
    rw [app_at B S (by omega) xs _ (mv_lt B S k (by omega) (by omega)), mv_inv B S k (by omega) (by omega)])
  have HAL : Hid (∀ S, (app W H S xs).length = A) := Lib.hid (fun S => by rw [hA]; exact app_length _ _ _ _)
  have HA : Hid _ := Lib.hid hA
  have K3 : Hid _ := Lib.hid (fun w => orbit_ok W H B Q hQ w)
  have HKC : Hid (∀ j, j < A → meets W H Q j = true → kcnt W H Q j < (orb W H Q).length ∧ (orb W H Q)[kcnt W H Q j]?.getD 0 = (j : Int)) := Lib.hid (fun j hj h => by rw [orb_length]; exact kcnt_at W H Q j (by omega) h)
  obtain ⟨L, hL⟩ : ∃ L : Nat, L = (orb W H Q).length := ⟨_, rfl⟩
  have hL8 : L ≤ 8 := by rw [hL, orb_length]; exact orb_le B Q hQ
  have HL : Hid _ := Lib.hid hL
  have HKE : Hid (kcnt W H Q A = L) := Lib.hid (by rw [hL, orb_length, hA]; rfl)
  have HME : Hid (∀ j, anyTo W H Q j c = meets W H Q j) := Lib.hid (fun j => by rw [hc]; rfl)
  have hQA : Q < A := by omega
  have HON : Hid (0 ≤ (Q : Int) ∧ (Q : Int) < (W * H : Nat)) := Lib.hid ⟨by omega, by omega⟩
  clear hL hQ
  obtain ⟨a, cap, rfl, hcell⟩ := hv.at hn
  have HCELL : Hid _ := Lib.hid hcell
  clear hc hA hn hv hcell B
  go_enter Try.func7, Try.ntmps7
  go_wp2_with fail
  go_at_call 13; refine (map_3350 _).mono ?_; rintro e w1 ⟨rfl, d1, hw1⟩
  have HB1 : Hid (Below w.heap.size w w1) := Lib.hid (below_of_drew hw1)
  clear hw1
  go_wp2_with fail
  go_at_call 15; refine (orbit_320 _).mono ?_; rintro e w2 ⟨v2, rfl, hr2, hb2⟩
  have HB2 : Hid (Below w.heap.size w w2) := Lib.hid (HB1.out.trans (hb2.mono HB1.out.size))
  have HR2 : Hid _ := Lib.hid hr2
  clear hb2 hr2 HB1
  go_wp2_with fail
  go_at_call 23
  refine (same_any [0, 2, 3, 5] [0, 2, 3, 5] v2 _ _ (HR2.out.below ((Below.refl w2.heap.size w2).alloc (Nat.le_refl _) _) (Nat.le_refl _)) (row_new w2 [0, 2, 3, 5] 3 (by simp) (by decide)) (by simp)).mono ?_
  rintro e w3 ⟨rfl, hb3⟩
  have HB3 : Hid (Below w.heap.size w w3) := Lib.hid ((HB2.out.alloc HB2.out.size _).trans (hb3.mono (by have := HB2.out.size; simp; omega)))
  clear hb3 HB2 HR2
  go_wp2_with fail
  go_at_call 21; refine (apply_56 _ _ (row_two w3 5 6)).mono ?_; rintro e w4 ⟨v4, rfl, hr4, hb4⟩
  have HB4 : Hid (Below w.heap.size w w4) := Lib.hid ((HB3.out.alloc HB3.out.size _).trans (hb4.mono (by have := HB3.out.size; simp; omega)))
  have HR4 : Hid _ := Lib.hid hr4
  clear hb4 hr4 HB3
  go_wp2_with fail
  go_at_call 23
  refine (same_any [6, 5] [6, 5] v4 _ _ (HR4.out.below ((Below.refl w4.heap.size w4).alloc (Nat.le_refl _) _) (Nat.le_refl _)) (row_two w4 6 5) (by simp)).mono ?_
  rintro e w5 ⟨rfl, hb5⟩
  have HB5 : Hid (Below w.heap.size w w5) := Lib.hid ((HB4.out.alloc HB4.out.size _).trans (hb5.mono (by have := HB4.out.size; simp; omega)))
  clear hb5 HB4 HR4
  go_wp2_with fail
  go_at_call 13; refine (K1.out _).mono ?_; rintro e w6 ⟨r0, e0, rfl, hmr, hb6⟩
  have HB6 : Hid (Below w.heap.size w w6) := Lib.hid (HB5.out.trans (hb6.mono HB5.out.size))
  have HMR : Hid _ := Lib.hid hmr
  clear hb6 hmr HB5
  go_wp2_with fail
  go_at_call 21; refine (K2.out _ HB6.out).mono ?_; rintro e w7 ⟨v7, f0, rfl, ⟨al, ll, cl, rfl, ha1, ha2, ha3⟩, hb7⟩
  have HB7 : Hid (Below w.heap.size w w7) := Lib.hid (HB6.out.trans (hb7.mono HB6.out.size))
  have HA1 : Hid _ := Lib.hid ha1
  have HA2 : Hid _ := Lib.hid ha2
  have HA3 : Hid _ := Lib.hid ha3
  clear hb7 ha1 ha2 ha3 HB6
  go_wp2_with fail
  go_at_call 15; refine (K3.out _).mono ?_; rintro e w8 ⟨v8, rfl, hr8, hb8⟩
  have HB8 : Hid (Below w.heap.size w w8) := Lib.hid (HB7.out.trans (hb8.mono HB7.out.size))
  have HB78 : Hid _ := Lib.hid hb8
  obtain ⟨ao, co, rfl, hco⟩ := hr8.at HL.out
  have HCO : Hid _ := Lib.hid hco
  clear hb8 hr8 hco
  go_wp2_with fail
  go_at_call 17; refine (K4.out _).mono ?_; rintro e w9 ⟨⟨a9, c9, rfl⟩, hb9⟩
  have HB9 : Hid (Below w.heap.size w w9) := Lib.hid (HB8.out.trans (hb9.mono HB8.out.size))
  have HB79 : Hid (Below w7.heap.size w7 w9) := Lib.hid (HB78.out.trans (hb9.mono HB78.out.size))
  have HB89 : Hid (Below w8.heap.size w8 w9) := Lib.hid hb9
  clear hb9 HB78 HB8
  go_wp2_with fail
  go_at_call 24; refine (turned (K5.out _)).mono ?_; rintro e w' ⟨rfl, rfl⟩
  have hc0 : ((c : Int) == 0) = false := by simp; omega
  have hcc : ((c : Int) != (c : Int)) = false := by simp
  go_wp2_with fail
  go_at_call 25; refine (turned (in_yes (Q : Int) 0 _ _ (by omega) (by omega))).mono ?_; rintro e w' ⟨rfl, rfl⟩
  go_wp2_with fail
  go_loopw [27, 160] (fun kk i wr => ∃ j : Nat, j ≤ A ∧ i = .int .i64 (j : Int) ∧ kk = .int .i64 (kcnt W H Q j : Int) ∧ Hid (Below w9.heap.size w9 wr)) (fun _ i _ => A - (intOf i).toNat)
  case atStart => exact ⟨0, by omega, rfl, rfl, Lib.hid (Below.refl _ _)⟩
  case round =>
    obtain ⟨j, hj, rfl, rfl, hbel⟩ := hrel
    obtain ⟨wa, hwa⟩ : ∃ wa : World, wa = wr := ⟨_, rfl⟩
    subst hwa
    by_cases hlt : j < A
    · have hk64 : kcnt W H Q j ≤ 64 := by have := kcnt_le W H Q j; omega
      go_wp2_with fail
      go_loopw [29, 30] (fun m i wr => ∃ k : Nat, k ≤ c ∧ i = .int .i64 (k : Int) ∧ m = .bool (anyTo W H Q j k) ∧ Hid (Below w9.heap.size w9 wr)) (fun _ i _ => c - (intOf i).toNat)
      case atStart => exact ⟨0, by omega, rfl, rfl, hbel⟩
      case round =>
        clear hbel
        obtain ⟨k, hk, rfl, rfl, hbk⟩ := hrel
        by_cases hltk : k < c
        · have HSU : Hid _ := Lib.hid (anyTo_succ W H Q j k)
          cases hb : anyTo W H Q j k
          · have HB0 : Hid _ := Lib.hid hb
            clear hb
            go_wp2_with fail
            go_at_call 26; refine (HM.out k Q _ hltk hQA).mono ?_; rintro e wb ⟨⟨rfl, _⟩, d, hwb⟩
            have HBb : Hid (Below w9.heap.size w9 wb) := Lib.hid (hbk.out.trans ((below_of_drew hwb).mono hbk.out.size))
            obtain ⟨m, hmm⟩ : ∃ m : Nat, m = mv W H k Q := ⟨_, rfl⟩
            rw [← hmm]
            have HEQ : Hid (((m : Int) == (j : Int)) = anyTo W H Q j (k + 1)) := Lib.hid (by
              rw [HSU.out, HB0.out, ← hmm, Bool.false_or]
              by_cases e : m = j
              · subst e; simp
              · rw [show ((m : Int) == (j : Int)) = false by simp; omega]
                cases h : Nat.beq m j
                · rfl
                · exact absurd (Nat.eq_of_beq_eq_true h) e)
            clear hwb hmm
            go_wp2_with fail
            go_roundw
            case rel => exact ⟨k + 1, by omega, by go_num, by rw [← HEQ.out], HBb⟩
            case measure => simp [intOf]; omega
          · have HEQ : Hid (true = anyTo W H Q j (k + 1)) := Lib.hid (by rw [HSU.out, hb]; rfl)
            clear hb
            go_wp2_with fail
            go_roundw
            case rel => exact ⟨k + 1, by omega, by go_num, by rw [← HEQ.out], hbk⟩
            case measure => simp [intOf]; omega
        · obtain rfl : k = c := by omega
          obtain ⟨wd, hwd⟩ : ∃ wd : World, wd = wr := ⟨_, rfl⟩
          subst hwd
          rw [HME.out]
          have HKS : Hid _ := Lib.hid (kcnt_succ W H Q j)
          cases hb : meets W H Q j
          · have HK : Hid (kcnt W H Q (j + 1) = kcnt W H Q j) := Lib.hid (by rw [HKS.out, hb]; rfl)
            clear hb
            go_wp2_with fail
            go_roundw
            case rel => exact ⟨j + 1, by omega, by go_num, by rw [HK.out], hbk⟩
            case measure => simp [intOf]; omega
          · have HK : Hid (kcnt W H Q (j + 1) = kcnt W H Q j + 1) := Lib.hid (by rw [HKS.out, hb]; rfl)
            have hkc := HKC.out j hlt hb
            rw [← HL.out] at hkc
            obtain ⟨hkL, hko⟩ := hkc
            obtain ⟨K, hK⟩ : ∃ K : Nat, K = kcnt W H Q j := ⟨_, rfl⟩
            rw [← hK] at hkL hko hk64 ⊢
            obtain ⟨g, off, rfl, hcg⟩ := HCO.out K hkL
            have hc1 := hcg wd (HB89.out.trans (hbk.out.mono HB89.out.size))
            rw [hko] at hc1
            have HK2 : Hid ((K : Int) + 1 = (kcnt W H Q (j + 1) : Int)) := Lib.hid (by rw [HK.out, hK]; norm_cast)
            have hnn : ((j : Int) != (j : Int)) = false := by simp
            clear hb hko hK hcg
            go_wp2_with fail
            go_roundw
            case rel => exact ⟨j + 1, by omega, by go_num, by rw [HK2.out], hbk⟩
            case measure => simp [intOf]; omega
    · obtain rfl : A = j := by omega
      rw [HKE.out]
      have hll : ((L : Int) != (L : Int)) = false := by simp
      go_wp2_with fail
      by_cases hsv : IsS W H s
      · obtain ⟨S, rfl, hS⟩ := HIS.out hsv
        by_cases hn : n = A
        · obtain rfl : A = n := hn.symm
          obtain ⟨rfl, hll2, hra⟩ := HA3.out hsv HA.out
          obtain rfl : A = ll := hll2.symm
          have HRAT : Hid (∀ k, k < A → ∃ g off, al = some ⟨g, off, none⟩ ∧ ∀ W', Below w7.heap.size w7 W' → W'.cell? ⟨g, off + k, none⟩ = some (.int .i64 ((app W H S xs)[k]?.getD 0))) := Lib.hid (by
            rw [Int.toNat_natCast] at hra
            obtain ⟨a', cap', e, h⟩ := hra.at (n := A) (HAL.out S).symm
            cases e; exact h)
          obtain ⟨rfl, rfl⟩ := HMR.out.2.2 hsv HON.out
          rw [Int.toNat_natCast, Int.toNat_natCast]
          clear hsv hra HMR HA1 HA2 HA3
          have hnn : ((A : Int) != (A : Int)) = false := by simp
          go_at_call 25; refine (turned (in_yes (S : Int) 0 _ _ (by omega) (by omega))).mono ?_; rintro e w' ⟨rfl, rfl⟩
          go_wp2_with fail
          go_at_call 26; refine (HM.out S Q _ hS hQA).mono ?_; rintro e wb ⟨⟨rfl, _⟩, d, hwb⟩
          have HBb : Hid (Below w9.heap.size w9 wb) := Lib.hid (hbel.out.trans ((below_of_drew hwb).mono hbel.out.size))
          have hmm : ((mv W H S Q : Int) != (mv W H S Q : Int)) = false := by simp
          clear hwb
          go_wp2_with fail
          go_loopw [274] (fun i wr => ∃ k : Nat, k ≤ A ∧ i = .int .i64 (k : Int) ∧ Hid (Below w9.heap.size w9 wr)) (fun i _ => A - (intOf i).toNat)
          case atStart => exact ⟨0, by omega, rfl, HBb⟩
          case round =>
            obtain ⟨k, hk, rfl, hbk⟩ := hrel
            by_cases hltf : k < A
            · obtain ⟨g1, o1, rfl, hx1⟩ := HCELL.out k hltf
              have c1 := hx1 wr (HB9.out.trans (hbk.out.mono HB9.out.size))
              have HXK : Hid _ := Lib.hid (HAP.out S k hS hltf)
              clear hx1
              generalize xs[k]?.getD 0 = x at c1 HXK
              go_wp2_with fail
              go_at_call 26; refine (HM.out S k _ hS hltf).mono ?_; rintro e wf ⟨⟨rfl, hmA⟩, d2, hwf⟩
              have HBf : Hid (Below w9.heap.size w9 wf) := Lib.hid (hbk.out.trans ((below_of_drew hwf).mono hbk.out.size))
              obtain ⟨m, hmm⟩ : ∃ m : Nat, m = mv W H S k := ⟨_, rfl⟩
              rw [← hmm] at hmA ⊢
              obtain ⟨g2, o2, rfl, hx2⟩ := HRAT.out m hmA
              have c2 := hx2 wf (HB79.out.trans (HBf.out.mono HB79.out.size))
              rw [hmm, HXK.out, ← hmm] at c2
              have hxx : (x != x) = false := by simp
              clear hx2 hmm hwf
              go_wp2_with fail
              go_roundw
              case rel => exact ⟨k + 1, by omega, by go_num, HBf⟩
              case measure => simp [intOf]; omega
            · go_wp2
              go_ret
              exact ⟨rfl, HB9.out.trans (hbk.out.mono HB9.out.size)⟩
        · obtain ⟨rfl, rfl⟩ := HA2.out hsv (fun g => hn (g.trans HA.out.symm))
          obtain ⟨rfl, rfl⟩ := HMR.out.2.2 hsv HON.out
          rw [Int.toNat_natCast, Int.toNat_natCast]
          have hnn : ((n : Int) != (A : Int)) = true := by simp; omega
          clear hsv HMR HA1 HA2 HA3 hn
          go_at_call 25; refine (turned (in_yes (S : Int) 0 _ _ (by omega) (by omega))).mono ?_; rintro e w' ⟨rfl, rfl⟩
          go_wp2_with fail
          go_at_call 26; refine (HM.out S Q _ hS hQA).mono ?_; rintro e wb ⟨⟨rfl, _⟩, d, hwb⟩
          have HBb : Hid (Below w9.heap.size w9 wb) := Lib.hid (hbel.out.trans ((below_of_drew hwb).mono hbel.out.size))
          have hmm : ((mv W H S Q : Int) != (mv W H S Q : Int)) = false := by simp
          clear hwb
          go_wp2_with fail
          go_ret
          exact ⟨rfl, HB9.out.trans (HBb.out.mono HB9.out.size)⟩
      · have HN2 : Hid _ := Lib.hid (HNS.out hsv)
        obtain ⟨rfl, rfl⟩ := HMR.out.1 hsv
        obtain ⟨rfl, rfl⟩ := HA1.out hsv
        clear hsv HMR HA1 HA2 HA3
        go_at_call 25; refine (turned (in_no s 0 _ _ HN2.out)).mono ?_; rintro e w' ⟨rfl, rfl⟩
        go_wp2_with fail
        go_ret
        exact ⟨rfl, HB9.out.trans (hbel.out.mono HB9.out.size)⟩

set_option maxRecDepth 100000 in
set_option maxHeartbeats 16000000 in
theorem maps_off (W H : Nat) (B : Board W H) (s : Int) (q : Int) (hq : ¬ (0 ≤ q ∧ q < (W * H : Nat))) (xs : List Int) (v : Value) (w : World) (hv : Row w v (vals xs)) :
    Calls Try.prog 7 #[.int .i64 (W : Int), .int .i64 (H : Int), .int .i64 s, .int .i64 q, v] w fun e w' => e = .returned (.bool true) ∧ Below w.heap.size w w' := by
  obtain ⟨c, hc⟩ : ∃ c : Nat, c = cntS W H := ⟨_, rfl⟩
  have hc4 : 4 ≤ c := by rw [hc]; exact cntS_ge
  have hc8 : c ≤ 8 := by rw [hc]; exact cntS_le
  obtain ⟨A, hA⟩ : ∃ A : Nat, A = W * H := ⟨_, rfl⟩
  have hA64 : A ≤ 64 := by rw [hA]; exact wh_le B
  have hA1 : 1 ≤ A := by rw [hA]; exact wh_pos B
  have hm : (W : Int) * (H : Int) = (A : Int) := by rw [hA]; norm_cast
  have K1 : Hid _ := Lib.hid (fun w => map_res W H B s q w)
  obtain ⟨n, hn⟩ : ∃ n : Nat, n = xs.length := ⟨_, rfl⟩
  have K2 : Hid (∀ W', Below w.heap.size w W' → Calls Try.prog 21 #[.int .i64 (W : Int), .int .i64 (H : Int), .int .i64 s, v] W' fun e w' => ∃ v' f, e = .returned (.tuple #[v', .int .i64 f]) ∧ AppRes W H s n xs w' v' f ∧ Below W'.heap.size W' w') := Lib.hid (fun W' hb => apply_res W H B s xs v n W' (hv.below hb (Nat.le_refl _)) hn.symm)
  have K4 : Hid (∀ w, Calls Try.prog 17 #[.int .i64 (W : Int), .int .i64 (H : Int)] w fun e w' => (∃ a cap, e = .returned (.tuple #[.slice a c cap, .int .i64 0])) ∧ Below w.heap.size w w') := Lib.hid (by rw [hc]; exact fun w => all_ok W H B w)
  have K5 : Hid (∀ w, Calls Try.prog 24 #[.int .i64 (W : Int), .int .i64 (H : Int)] w fun e w' => e = .returned (.int .i64 (c : Int)) ∧ w' = w) := Lib.hid (by rw [hc]; exact symmetries_ok W H B)
  have HM : Hid (∀ s k w, s < c → k < A → Calls Try.prog 26 #[.int .i64 (W : Int), .int .i64 (H : Int), .int .i64 (s : Int), .int .i64 (k : Int)] w fun e w' => (e = .returned (.int .i64 (mv W H s k : Int)) ∧ mv W H s k < A) ∧ ∃ n, w' = w.drewN n) :=
    Lib.hid (fun s k w hs hk => (moved_any W H B s k w (by omega) (by omega)).mono fun e w' h => ⟨⟨h.1, by rw [hA]; exact mv_lt B s k (by omega) (by omega)⟩, h.2⟩)
  have HIS : Hid (IsS W H s → ∃ S : Nat, s = (S : Int) ∧ S < c) := Lib.hid (fun g => by
    obtain ⟨_, h0, h1⟩ := g
    simp only [Int.toNat_natCast] at h1
    exact ⟨s.toNat, by omega, by omega⟩)
  have HNS : Hid (¬ IsS W H s → ¬ (0 ≤ s ∧ s ≤ (c : Int) - 1)) := Lib.hid (fun g h => g ⟨B.isB, h.1, by simp only [Int.toNat_natCast]; omega⟩)
  have HAP : Hid (∀ S k, S < c → k < A → (app W H S xs)[mv W H S k]?.getD 0 = xs[k]?.getD 0) := Lib.hid (fun S k hS hk => by
    rw [app_at B S (by omega) xs _ (mv_lt B S k (by omega) (by omega)), mv_inv B S k (by omega) (by omega)])
  have HAL : Hid (∀ S, (app W H S xs).length = A) := Lib.hid (fun S => by rw [hA]; exact app_length _ _ _ _)
  have HA : Hid _ := Lib.hid hA
  have K3 : Hid _ := Lib.hid (fun w => orbit_off W H B q hq w)
  have HOFF : Hid _ := Lib.hid hq
  have HOF2 : Hid (¬ (0 ≤ q ∧ q ≤ (A : Int) - 1)) := Lib.hid (by rw [hA]; omega)
  clear hq
  obtain ⟨a, cap, rfl, hcell⟩ := hv.at hn
  have HCELL : Hid _ := Lib.hid hcell
  clear hc hA hn hv hcell B
  go_enter Try.func7, Try.ntmps7
  go_wp2_with fail
  go_at_call 13; refine (map_3350 _).mono ?_; rintro e w1 ⟨rfl, d1, hw1⟩
  have HB1 : Hid (Below w.heap.size w w1) := Lib.hid (below_of_drew hw1)
  clear hw1
  go_wp2_with fail
  go_at_call 15; refine (orbit_320 _).mono ?_; rintro e w2 ⟨v2, rfl, hr2, hb2⟩
  have HB2 : Hid (Below w.heap.size w w2) := Lib.hid (HB1.out.trans (hb2.mono HB1.out.size))
  have HR2 : Hid _ := Lib.hid hr2
  clear hb2 hr2 HB1
  go_wp2_with fail
  go_at_call 23
  refine (same_any [0, 2, 3, 5] [0, 2, 3, 5] v2 _ _ (HR2.out.below ((Below.refl w2.heap.size w2).alloc (Nat.le_refl _) _) (Nat.le_refl _)) (row_new w2 [0, 2, 3, 5] 3 (by simp) (by decide)) (by simp)).mono ?_
  rintro e w3 ⟨rfl, hb3⟩
  have HB3 : Hid (Below w.heap.size w w3) := Lib.hid ((HB2.out.alloc HB2.out.size _).trans (hb3.mono (by have := HB2.out.size; simp; omega)))
  clear hb3 HB2 HR2
  go_wp2_with fail
  go_at_call 21; refine (apply_56 _ _ (row_two w3 5 6)).mono ?_; rintro e w4 ⟨v4, rfl, hr4, hb4⟩
  have HB4 : Hid (Below w.heap.size w w4) := Lib.hid ((HB3.out.alloc HB3.out.size _).trans (hb4.mono (by have := HB3.out.size; simp; omega)))
  have HR4 : Hid _ := Lib.hid hr4
  clear hb4 hr4 HB3
  go_wp2_with fail
  go_at_call 23
  refine (same_any [6, 5] [6, 5] v4 _ _ (HR4.out.below ((Below.refl w4.heap.size w4).alloc (Nat.le_refl _) _) (Nat.le_refl _)) (row_two w4 6 5) (by simp)).mono ?_
  rintro e w5 ⟨rfl, hb5⟩
  have HB5 : Hid (Below w.heap.size w w5) := Lib.hid ((HB4.out.alloc HB4.out.size _).trans (hb5.mono (by have := HB4.out.size; simp; omega)))
  clear hb5 HB4 HR4
  go_wp2_with fail
  go_at_call 13; refine (K1.out _).mono ?_; rintro e w6 ⟨r0, e0, rfl, hmr, hb6⟩
  have HB6 : Hid (Below w.heap.size w w6) := Lib.hid (HB5.out.trans (hb6.mono HB5.out.size))
  have HMR : Hid _ := Lib.hid hmr
  clear hb6 hmr HB5
  go_wp2_with fail
  go_at_call 21; refine (K2.out _ HB6.out).mono ?_; rintro e w7 ⟨v7, f0, rfl, ⟨al, ll, cl, rfl, ha1, ha2, ha3⟩, hb7⟩
  have HB7 : Hid (Below w.heap.size w w7) := Lib.hid (HB6.out.trans (hb7.mono HB6.out.size))
  have HA1 : Hid _ := Lib.hid ha1
  have HA2 : Hid _ := Lib.hid ha2
  have HA3 : Hid _ := Lib.hid ha3
  clear hb7 ha1 ha2 ha3 HB6
  go_wp2_with fail
  go_at_call 15; refine (turned (K3.out _)).mono ?_; rintro e w8 ⟨rfl, rfl⟩
  have HB8 : Hid (Below w.heap.size w w7) := HB7
  have HB78 : Hid (Below w7.heap.size w7 w7) := Lib.hid (Below.refl _ _)
  go_wp2_with fail
  go_at_call 17; refine (K4.out _).mono ?_; rintro e w9 ⟨⟨a9, c9, rfl⟩, hb9⟩
  have HB9 : Hid (Below w.heap.size w w9) := Lib.hid (HB8.out.trans (hb9.mono HB8.out.size))
  have HB79 : Hid (Below w7.heap.size w7 w9) := Lib.hid (HB78.out.trans (hb9.mono HB78.out.size))
  have HB89 : Hid (Below w7.heap.size w7 w9) := Lib.hid hb9
  clear hb9 HB78 HB8
  go_wp2_with fail
  go_at_call 24; refine (turned (K5.out _)).mono ?_; rintro e w' ⟨rfl, rfl⟩
  have hc0 : ((c : Int) == 0) = false := by simp; omega
  have hcc : ((c : Int) != (c : Int)) = false := by simp
  go_wp2_with fail
  go_at_call 25; refine (turned (in_no q 0 _ _ HOF2.out)).mono ?_; rintro e w' ⟨rfl, rfl⟩
  go_wp2_with fail
  go_loopw [27, 160] (fun kk i wr => ∃ j : Nat, j ≤ A ∧ i = .int .i64 (j : Int) ∧ kk = .int .i64 0 ∧ Hid (Below w9.heap.size w9 wr)) (fun _ i _ => A - (intOf i).toNat)
  case atStart => exact ⟨0, by omega, rfl, rfl, Lib.hid (Below.refl _ _)⟩
  case round =>
    obtain ⟨j, hj, rfl, rfl, hbel⟩ := hrel
    obtain ⟨wa, hwa⟩ : ∃ wa : World, wa = wr := ⟨_, rfl⟩
    subst hwa
    by_cases hlt : j < A
    · go_wp2_with fail
      go_loopw [29, 30] (fun m i wr => m = .bool false ∧ i = .int .i64 0 ∧ Hid (Below w9.heap.size w9 wr)) (fun _ _ _ => 0)
      case atStart => exact ⟨rfl, rfl, hbel⟩
      case round =>
        clear hbel
        obtain ⟨rfl, rfl, hbk⟩ := hrel
        go_wp2_with fail
        go_roundw
        case rel => exact ⟨j + 1, by omega, by go_num, rfl, hbk⟩
        case measure => simp [intOf]; omega
    · go_wp2_with fail
      by_cases hsv : IsS W H s
      · obtain ⟨S, rfl, hS⟩ := HIS.out hsv
        by_cases hn : n = A
        · obtain rfl : A = n := hn.symm
          obtain ⟨rfl, hll2, hra⟩ := HA3.out hsv HA.out
          obtain rfl : A = ll := hll2.symm
          have HRAT : Hid (∀ k, k < A → ∃ g off, al = some ⟨g, off, none⟩ ∧ ∀ W', Below w7.heap.size w7 W' → W'.cell? ⟨g, off + k, none⟩ = some (.int .i64 ((app W H S xs)[k]?.getD 0))) := Lib.hid (by
            rw [Int.toNat_natCast] at hra
            obtain ⟨a', cap', e, h⟩ := hra.at (n := A) (HAL.out S).symm
            cases e; exact h)
          obtain ⟨rfl, rfl⟩ := HMR.out.2.1 hsv HOFF.out
          clear hsv hra HMR HA1 HA2 HA3
          have hnn : ((A : Int) != (A : Int)) = false := by simp
          go_at_call 25; refine (turned (in_yes (S : Int) 0 _ _ (by omega) (by omega))).mono ?_; rintro e w' ⟨rfl, rfl⟩
          go_wp2_with fail
          go_loopw [274] (fun i wr => ∃ k : Nat, k ≤ A ∧ i = .int .i64 (k : Int) ∧ Hid (Below w9.heap.size w9 wr)) (fun i _ => A - (intOf i).toNat)
          case atStart => exact ⟨0, by omega, rfl, hbel⟩
          case round =>
            obtain ⟨k, hk, rfl, hbk⟩ := hrel
            by_cases hltf : k < A
            · obtain ⟨g1, o1, rfl, hx1⟩ := HCELL.out k hltf
              have c1 := hx1 wr (HB9.out.trans (hbk.out.mono HB9.out.size))
              have HXK : Hid _ := Lib.hid (HAP.out S k hS hltf)
              clear hx1
              generalize xs[k]?.getD 0 = x at c1 HXK
              go_wp2_with fail
              go_at_call 26; refine (HM.out S k _ hS hltf).mono ?_; rintro e wf ⟨⟨rfl, hmA⟩, d2, hwf⟩
              have HBf : Hid (Below w9.heap.size w9 wf) := Lib.hid (hbk.out.trans ((below_of_drew hwf).mono hbk.out.size))
              obtain ⟨m, hmm⟩ : ∃ m : Nat, m = mv W H S k := ⟨_, rfl⟩
              rw [← hmm] at hmA ⊢
              obtain ⟨g2, o2, rfl, hx2⟩ := HRAT.out m hmA
              have c2 := hx2 wf (HB79.out.trans (HBf.out.mono HB79.out.size))
              rw [hmm, HXK.out, ← hmm] at c2
              have hxx : (x != x) = false := by simp
              clear hx2 hmm hwf
              go_wp2_with fail
              go_roundw
              case rel => exact ⟨k + 1, by omega, by go_num, HBf⟩
              case measure => simp [intOf]; omega
            · go_wp2
              go_ret
              exact ⟨rfl, HB9.out.trans (hbk.out.mono HB9.out.size)⟩
        · obtain ⟨rfl, rfl⟩ := HA2.out hsv (fun g => hn (g.trans HA.out.symm))
          obtain ⟨rfl, rfl⟩ := HMR.out.2.1 hsv HOFF.out
          have hnn : ((n : Int) != (A : Int)) = true := by simp; omega
          clear hsv HMR HA1 HA2 HA3 hn
          go_at_call 25; refine (turned (in_yes (S : Int) 0 _ _ (by omega) (by omega))).mono ?_; rintro e w' ⟨rfl, rfl⟩
          go_wp2_with fail
          go_ret
          exact ⟨rfl, HB9.out.trans (hbel.out.mono HB9.out.size)⟩
      · have HN2 : Hid _ := Lib.hid (HNS.out hsv)
        obtain ⟨rfl, rfl⟩ := HMR.out.1 hsv
        obtain ⟨rfl, rfl⟩ := HA1.out hsv
        clear hsv HMR HA1 HA2 HA3
        go_at_call 25; refine (turned (in_no s 0 _ _ HN2.out)).mono ?_; rintro e w' ⟨rfl, rfl⟩
        go_wp2_with fail
        go_ret
        exact ⟨rfl, HB9.out.trans (hbel.out.mono HB9.out.size)⟩
theorem maps_full (a b s q : Int) (ad : Option Addr) (n cap : Nat) (z : List Int) (w : World) (hz : IsRow .i64 w ad n cap z) :
    Calls Try.prog 7 #[.int .i64 a, .int .i64 b, .int .i64 s, .int .i64 q, .slice ad n cap] w fun e w' => e = .returned (.bool true) ∧ Below w.heap.size w w' := by
  obtain ⟨hr, hn⟩ := hz.row
  by_cases h : IsB a b
  · obtain ⟨W, H, rfl, rfl, B⟩ := h.nat
    by_cases hq : 0 ≤ q ∧ q < (W * H : Nat)
    · obtain ⟨Q, rfl⟩ : ∃ Q : Nat, q = (Q : Int) := ⟨q.toNat, by omega⟩
      exact maps_on W H B s Q (by omega) (z.take n) _ w hr
    · exact maps_off W H B s q hq (z.take n) _ w hr
  · exact maps_no a b s q ad n cap w h
end Go.Proofs.Ytfmpoebkhkambaa
