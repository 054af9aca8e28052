/- slices.Compare at []int, slices.Clone, symm.Canon: what they return. -/
import Derived.Test.YtfmpoebkhkambaaApply
import Derived.OwnWalk
namespace Go.Proofs.Ytfmpoebkhkambaa
open Go.RowKit Go.Shelf

/-- Is the first list lexicographically before the second one of the same length? -/
def ltL : List Int → List Int → Bool
  | x :: xs, y :: ys => if x = y then ltL xs ys else decide (x < y)
  | _, _ => false
/-- The least form so far, and its symmetry. -/
def canGo (W H : Nat) (xs : List Int) : Nat → List Int × Nat
  | 0 => (xs, 0)
  | k + 1 => if ltL (app W H k xs) (canGo W H xs k).1 then (app W H k xs, k) else canGo W H xs k
def canV (W H : Nat) (xs : List Int) : List Int × Nat := canGo W H xs (cntS W H)
theorem canGo_length (W H : Nat) (xs : List Int) (h : xs.length = W * H) (k : Nat) : (canGo W H xs k).1.length = W * H := by
  induction k with
  | zero => exact h
  | succ k ih => rw [canGo]; split
                 · exact app_length _ _ _ _
                 · exact ih

theorem compareInt_ne (x y : Int) (h : x ≠ y) : decide (Lib.compareInt x y < 0) = decide (x < y) ∧ Lib.compareInt x y ≠ 0 := by
  by_cases g : x < y
  · simp [Lib.compareInt, g]
  · have g2 : y < x := by omega
    simp [Lib.compareInt, g, g2]
set_option maxHeartbeats 1000000 in
theorem compare_any (xs ys : List Int) (v1 v2 : Value) (w : World) (hx : Row w v1 (vals xs)) (hy : Row w v2 (vals ys)) (hl : xs.length = ys.length) (hb : xs.length ≤ 64) :
    Calls Try.prog 40 #[v1, v2] w fun e w' => ∃ r : Int, e = .returned (.int .i64 r) ∧ decide (r < 0) = ltL xs ys ∧ w = w' := by
  obtain ⟨n, hn⟩ : ∃ n : Nat, n = xs.length := ⟨_, rfl⟩
  obtain ⟨a1, cap1, rfl, hc1⟩ := hx.at hn
  obtain ⟨a2, cap2, rfl, hc2⟩ := hy.at (n := n) (by omega)
  have C1 : Hid _ := Lib.hid hc1
  have C2 : Hid _ := Lib.hid hc2
  have HN : Hid (n = xs.length ∧ n = ys.length) := Lib.hid ⟨hn, by omega⟩
  have hn64 : n ≤ 64 := by omega
  clear hc1 hc2 hn hx hy hl hb
  go_enter Try.func40, Try.ntmps40
  go_wp2
  go_loopw [11] (fun i wr => ∃ k : Nat, k ≤ n ∧ i = .int .i64 (k : Int) ∧ Hid (ltL (xs.drop k) (ys.drop k) = ltL xs ys) ∧ wr = w) (fun i _ => n - (intOf i).toNat)
  case atStart => exact ⟨0, by omega, rfl, Lib.hid rfl, rfl⟩
  case round =>
    obtain ⟨k, hk, rfl, hrel, rfl⟩ := hrel
    by_cases hlt : k < n
    · obtain ⟨g1, o1, rfl, h1⟩ := C1.out k hlt
      obtain ⟨g2, o2, rfl, h2⟩ := C2.out k hlt
      have e1 := h1 wr (Below.refl _ _)
      have e2 := h2 wr (Below.refl _ _)
      have d1 : xs.drop k = (xs[k]?.getD 0) :: xs.drop (k + 1) := by
        have hk' : k < xs.length := by have := HN.out; omega
        rw [List.drop_eq_getElem_cons hk']; simp [hk']
      have d2 : ys.drop k = (ys[k]?.getD 0) :: ys.drop (k + 1) := by
        have hk' : k < ys.length := by have := HN.out; omega
        rw [List.drop_eq_getElem_cons hk']; simp [hk']
      have hr := hrel.out
      rw [d1, d2, ltL] at hr
      generalize xs[k]?.getD 0 = x at e1 hr
      generalize ys[k]?.getD 0 = y at e2 hr
      clear h1 h2 d1 d2
      by_cases hxy : x = y
      · subst hxy
        rw [if_pos rfl] at hr
        have HR : Hid _ := Lib.hid hr
        have KC : Hid (Lib.compareInt x x = 0) := Lib.hid (by simp [Lib.compareInt])
        clear hr
        go_wp2_with fail
        go_at_call 47; refine (turned (Try.cmp_Compare_int x x _)).mono ?_; rintro e w' ⟨rfl, rfl⟩
        rw [KC.out]
        go_wp2_with fail
        go_roundw
        case rel => exact ⟨k + 1, by omega, by go_num, HR, trivial⟩
        case measure => simp [intOf]; omega
      · rw [if_neg hxy] at hr
        obtain ⟨c, hc⟩ : ∃ c : Int, c = Lib.compareInt x y := ⟨_, rfl⟩
        have HC : Hid (decide (c < 0) = ltL xs ys) := Lib.hid (by
          rw [← hr, hc]; exact (compareInt_ne x y hxy).1)
        have hne : (c != 0) = true := by
          rw [hc]; simpa using (compareInt_ne x y hxy).2
        have HCC : Hid _ := Lib.hid hc
        clear hr hc hxy
        go_wp2_with fail
        go_at_call 47; refine (turned (Try.cmp_Compare_int x y _)).mono ?_; rintro e w' ⟨rfl, rfl⟩
        rw [← HCC.out]
        go_wp2_with fail
        go_ret
        exact ⟨c, rfl, HC.out, rfl⟩
    · have HC : Hid (decide ((0 : Int) < 0) = ltL xs ys) := Lib.hid (by
        have := HN.out
        rw [← hrel.out, List.drop_eq_nil_of_le (by omega), ltL]; decide
        intros; simp_all)
      go_wp2
      go_ret
      exact ⟨0, rfl, HC.out, rfl⟩
theorem clone_any (xs : List Int) (v : Value) (w : World) (hv : Row w v (vals xs)) (hx : xs ≠ []) (hb : xs.length ≤ 64) :
    Calls Try.prog 38 #[v] w (RowPost w xs) := by
  rcases hv with ⟨e, _⟩ | ⟨g, off, cap, rfl, h1, h2, h3, hc⟩
  · exact absurd (by simpa [vals] using e) hx
  · rw [vals_length]
    refine (Try.slices_Clone_int g off xs.length cap xs w (Nat.le_refl _) (by omega) (fun j hj => ?_)).mono ?_
    · rw [hc j _ (vals_at xs j hj)]; simp [List.getD]
    · rintro e w' ⟨v', rfl, hown, _, hbel⟩
      rw [List.take_length] at hown
      exact ⟨v', rfl, Row.of_owns hown, hbel⟩

def CanPost (w : World) (p : List Int × Nat) (e : Ending) (w' : World) : Prop := ∃ v, e = .returned (.tuple #[v, .int .i64 (p.2 : Int), .int .i64 0]) ∧ Row w' v (vals p.1) ∧ Below w.heap.size w w'

set_option maxRecDepth 100000 in
set_option maxHeartbeats 2000000 in
theorem canon_ok (W H : Nat) (B : Board W H) (xs : List Int) (v : Value) (w : World) (hv : Row w v (vals xs)) (hx : xs.length = W * H) :
    Calls Try.prog 20 #[.int .i64 (W : Int), .int .i64 (H : Int), v] w (CanPost w (canV W H xs)) := by
  have hp := wh_le B
  have hp1 := wh_pos B
  obtain ⟨n, hn⟩ : ∃ n : Nat, n = cntS W H := ⟨_, rfl⟩
  have hn8 : n ≤ 8 := by rw [hn]; exact cntS_le
  have HB : Hid _ := Lib.hid B.isB
  have HC : Hid (∀ w, Calls Try.prog 34 #[.int .i64 (W : Int), .int .i64 (H : Int)] w fun e w' => e = .returned (.int .i64 (n : Int)) ∧ w' = w) := Lib.hid (by rw [hn]; exact count_any W H)
  have HM : Hid (∀ s W', s < n → Below w.heap.size w W' → Calls Try.prog 39 #[.int .i64 (W : Int), .int .i64 (H : Int), .int .i64 (s : Int), v] W' (RowPost W' (app W H s xs))) := Lib.hid (fun s W' hs hb => moveAll_any W H B s (by omega) xs v W' (hv.below hb (Nat.le_refl _)) hx)
  have HCL : Hid _ := Lib.hid (clone_any xs v w hv (by intro e; rw [e] at hx; simp at hx; omega) (by omega))
  have HV : Hid (canV W H xs = canGo W H xs n) := Lib.hid (by rw [hn]; rfl)
  have HL : Hid (xs.length = W * H ∧ W * H ≤ 64) := Lib.hid ⟨hx, hp⟩
  obtain ⟨A, hA⟩ : ∃ A : Nat, A = W * H := ⟨_, rfl⟩
  obtain ⟨a, cap, rfl, _⟩ := hv.shape A (by rw [vals_length, hx, hA])
  have hm : (W : Int) * (H : Int) = (A : Int) := by rw [hA]; norm_cast
  rw [← hA] at hp
  clear hA hv hx B hn hp1
  go_enter Try.func20, Try.ntmps20
  go_wp2_with fail
  go_at_call 33; refine (turned (check_yes _ _ _ HB.out)).mono ?_; rintro e w' ⟨rfl, rfl⟩
  go_wp2_with fail
  go_at_call 38; refine HCL.out.mono ?_; rintro e w1 ⟨v1, rfl, hr1, hb1⟩
  have HB1 : Hid _ := Lib.hid hb1
  have HR1 : Hid _ := Lib.hid hr1
  clear hb1 hr1
  go_wp2_with fail
  go_at_call 34; refine (turned (HC.out _)).mono ?_; rintro e w' ⟨rfl, rfl⟩
  go_wp2_with fail
  go_loopw [10, 11, 12, 13, 31] (fun f l _ _ i wr => ∃ k : Nat, k ≤ n ∧ i = .int .i64 (k : Int) ∧ l = .int .i64 ((canGo W H xs k).2 : Int) ∧ Hid (Row wr f (vals (canGo W H xs k).1)) ∧ Hid (Below w.heap.size w wr)) (fun _ _ _ _ i _ => n - (intOf i).toNat)
  case atStart => exact ⟨0, by omega, rfl, rfl, HR1, HB1⟩
  case round =>
    clear HR1 HB1
    obtain ⟨k, hk, rfl, rfl, hr, hbel⟩ := hrel
    by_cases hlt : k < n
    · go_wp2_with fail
      go_at_call 39; refine (HM.out k _ hlt hbel.out).mono ?_; rintro e w2 ⟨v2, rfl, hr2, hb2⟩
      have HB2 : Hid (Below w.heap.size w w2) := Lib.hid (hbel.out.trans (hb2.mono hbel.out.size))
      have HR1 : Hid _ := Lib.hid (hr.out.below hb2 (Nat.le_refl _))
      have HR2 : Hid _ := Lib.hid hr2
      have HCM : Hid _ := Lib.hid (compare_any (app W H k xs) (canGo W H xs k).1 _ _ _ HR2.out HR1.out (by rw [app_length, canGo_length _ _ _ HL.out.1]) (by rw [app_length]; exact HL.out.2))
      clear hb2 hr2 hbel hr
      go_wp2_with fail
      go_at_call 40; refine HCM.out.mono ?_; rintro e w' ⟨r, rfl, hlr, rfl⟩
      cases hb : ltL (app W H k xs) (canGo W H xs k).1
      · rw [hb] at hlr
        have HK : Hid (canGo W H xs (k + 1) = canGo W H xs k) := Lib.hid (by rw [canGo, hb]; rfl)
        have hr0 : 0 ≤ r := by simpa using hlr
        clear hb hlr
        go_wp2_with fail
        go_roundw
        case rel => exact ⟨k + 1, by omega, by go_num, by rw [HK.out], by rw [HK.out]; exact HR1, HB2⟩
        case measure => simp [intOf]; omega
      · rw [hb] at hlr
        have HK : Hid (canGo W H xs (k + 1) = (app W H k xs, k)) := Lib.hid (by rw [canGo, hb]; rfl)
        have hr0 : r < 0 := by simpa using hlr
        clear hb hlr
        go_wp2_with fail
        go_roundw
        case rel => exact ⟨k + 1, by omega, by go_num, by rw [HK.out], by rw [HK.out]; exact HR2, HB2⟩
        case measure => simp [intOf]; omega
    · obtain rfl : k = n := by omega
      go_wp2_with fail
      go_ret3
      rw [HV.out]
      exact ⟨_, rfl, hr.out, hbel.out⟩
theorem canon_form (W H : Nat) (B : Board W H) (n : Nat) (a : Option Addr) (cap : Nat) (w : World) (hx : n ≠ W * H) :
    Calls Try.prog 20 #[.int .i64 (W : Int), .int .i64 (H : Int), .slice a n cap] w fun e w' => e = .returned (.tuple #[.slice none 0 0, .int .i64 0, .int .i64 3]) ∧ w' = w := by
  have hp := wh_le B
  have HB : Hid _ := Lib.hid B.isB
  obtain ⟨A, hA⟩ : ∃ A : Nat, A = W * H := ⟨_, rfl⟩
  have hm : (W : Int) * (H : Int) = (A : Int) := by rw [hA]; norm_cast
  rw [← hA] at hp hx
  have hne : ((n : Int) != (A : Int)) = true := by simp; omega
  clear hA hx B
  go_enter Try.func20, Try.ntmps20
  go_wp2_with fail
  go_at_call 33; refine (turned (check_yes _ _ _ HB.out)).mono ?_; rintro e w' ⟨rfl, rfl⟩
  go_wp2_with fail
  go_ret3
  exact ⟨rfl, rfl⟩
theorem canon_no (a b : Int) (v : Value) (w : World) (h : ¬ IsB a b) :
    Calls Try.prog 20 #[.int .i64 a, .int .i64 b, v] w fun e w' => e = .returned (.tuple #[.slice none 0 0, .int .i64 0, .int .i64 4]) ∧ w' = w := by
  have HB : Hid _ := Lib.hid h
  clear h
  go_enter Try.func20, Try.ntmps20
  go_wp2_with fail
  go_at_call 33; refine (turned (check_no _ _ _ HB.out)).mono ?_; rintro e w' ⟨rfl, rfl⟩
  go_wp2_with fail
  go_ret3
  exact ⟨rfl, rfl⟩
theorem canon_2156 (w : World) (v : Value) (hv : Row w v (vals [6, 5])) : Calls Try.prog 20 #[.int .i64 2, .int .i64 1, v] w fun e w' => ∃ v', e = .returned (.tuple #[v', .int .i64 1, .int .i64 0]) ∧ Row w' v' (vals [5, 6]) ∧ Below w.heap.size w w' := by
  have h := canon_ok 2 1 ⟨by decide, by decide, by decide, by decide⟩ [6, 5] v w hv rfl
  have e : canV 2 1 [6, 5] = ([5, 6], 1) := by decide +kernel
  rw [e] at h; exact h
end Go.Proofs.Ytfmpoebkhkambaa
