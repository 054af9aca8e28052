/- symm.All and Orbit, and the law's own function some: what they return; SymmOrbits: the walk of the law. -/
import Derived.Test.YtfmpoebkhkambaaOrbit
namespace Go.Proofs.Ytfmpoebkhkambaa
open Go.RowKit Go.Shelf
attribute [local go_sem] Oper.semAt_some

set_option maxRecDepth 100000 in
set_option maxHeartbeats 2000000 in
theorem all_ok (W H : Nat) (B : Board W H) (w : World) :
    Calls Try.prog 17 #[.int .i64 (W : Int), .int .i64 (H : Int)] w fun e w' => (∃ a cap, e = .returned (.tuple #[.slice a (cntS W H) cap, .int .i64 0])) ∧ Below w.heap.size w w' := by
  obtain ⟨i0, hi, hz0, hz1, hz2⟩ := info_parts Try.infoInt
  obtain ⟨n, hn⟩ : ∃ n : Nat, n = cntS W H := ⟨_, rfl⟩
  have hn8 : n ≤ 8 := by rw [hn]; exact cntS_le
  have HB : Hid _ := Lib.hid B.isB
  have HC : Hid (∀ w, Calls Try.prog 34 #[.int .i64 (W : Int), .int .i64 (H : Int)] w fun e w' => e = .returned (.int .i64 (n : Int)) ∧ w' = w) := Lib.hid (by rw [hn]; exact count_any W H)
  rw [← hn]
  clear hn B
  go_enter Try.func17, Try.ntmps17
  go_wp2_with fail
  go_at_call 33; refine (turned (check_yes _ _ _ HB.out)).mono ?_; rintro e w' ⟨rfl, rfl⟩
  go_wp2_with fail
  go_at_call 34; refine (turned (HC.out _)).mono ?_; rintro e w' ⟨rfl, rfl⟩
  go_wp2_with (at_make; refine wpList_make_full _ rfl _ _ 29 rfl w.heap.size 3 i0 (.int .i64 0) 1 Try.underlying29 hi hz0 hz1 .i64 .i64 n n n rfl rfl rfl rfl (by rw [hz2]; omega) (by unfold maxLen; omega) (Nat.le_refl _) ?_; intro wm hownm hgrowm)
  have HBm : Hid (Below w.heap.size w wm) := Lib.hid ((Below.refl _ w).grown hgrowm (Nat.le_refl _) (fun k e => by cases e))
  clear hgrowm
  go_loopw [21] (fun i wr => ∃ k : Nat, k ≤ n ∧ i = .int .i64 (k : Int) ∧ (∃ xs, wr.ownsRow w.heap.size 3 1 (.slice (some ⟨w.heap.size, 0, none⟩) n n) n xs) ∧ Hid (Below w.heap.size w wr)) (fun i _ => n - (intOf i).toNat)
  case atStart => exact ⟨0, by omega, rfl, ⟨_, hownm⟩, HBm⟩
  case round =>
    clear hownm HBm
    obtain ⟨k, hk, rfl, ⟨xs, hown⟩, hbel⟩ := hrel
    by_cases hlt : k < n
    · have hf := hown.frozenAt k
      obtain ⟨y, hy⟩ : ∃ y : Value, wr.cell? ⟨w.heap.size, k, none⟩ = some y := by
        have hl : k < xs.length := by have := hown.1; omega
        exact ⟨_, (hown.cellAt k (by omega)).trans (List.getElem?_eq_getElem hl)⟩
      have HST : Hid _ := Lib.hid (hown.stored k (.int .i64 (k : Int))).1
      clear hown
      go_wp2_with fail
      go_roundw
      case rel => exact ⟨k + 1, by omega, by go_num, ⟨_, HST.out⟩, Lib.hid (hbel.out.setCell (p := ⟨w.heap.size, k, none⟩) (Nat.le_refl _) _)⟩
      case measure => simp [intOf]; omega
    · go_wp2
      go_ret2
      exact ⟨⟨_, _, rfl⟩, hbel.out⟩
theorem all_no (a b : Int) (w : World) (h : ¬ IsB a b) :
    Calls Try.prog 17 #[.int .i64 a, .int .i64 b] w fun e w' => e = .returned (.tuple #[.slice none 0 0, .int .i64 4]) ∧ w' = w := by
  have HB : Hid _ := Lib.hid h
  clear h
  go_enter Try.func17, Try.ntmps17
  go_wp2_with fail
  go_at_call 33; refine (turned (check_no _ _ _ HB.out)).mono ?_; rintro e w' ⟨rfl, rfl⟩
  go_wp2_with fail
  go_ret2
  exact ⟨rfl, rfl⟩

def OrbPost (w : World) (xs : List Int) (e : Ending) (w' : World) : Prop := ∃ v, e = .returned (.tuple #[v, .int .i64 0]) ∧ Row w' v (vals xs) ∧ Below w.heap.size w w'

set_option maxRecDepth 100000 in
set_option maxHeartbeats 2000000 in
theorem orbit_ok (W H : Nat) (B : Board W H) (q : Nat) (hq : q < W * H) (w : World) :
    Calls Try.prog 15 #[.int .i64 (W : Int), .int .i64 (H : Int), .int .i64 (q : Int)] w (OrbPost w (orb W H q)) := by
  obtain ⟨i0, hi, hz0, hz1, hz2⟩ := info_parts Try.infoInt
  obtain ⟨n, hn⟩ : ∃ n : Nat, n = cntS W H := ⟨_, rfl⟩
  have hn8 : n ≤ 8 := by rw [hn]; exact cntS_le
  have hn4 : 4 ≤ n := by rw [hn]; exact cntS_ge
  have HB : Hid _ := Lib.hid B.isB
  have HQ : Hid _ := Lib.hid (fun w => isSquare_yes W H B q w hq)
  have HC : Hid (∀ w, Calls Try.prog 34 #[.int .i64 (W : Int), .int .i64 (H : Int)] w fun e w' => e = .returned (.int .i64 (n : Int)) ∧ w' = w) := Lib.hid (by rw [hn]; exact count_any W H)
  have HM : Hid (∀ s w, s < n → Calls Try.prog 30 #[.int .i64 (W : Int), .int .i64 (H : Int), .int .i64 (s : Int), .int .i64 (q : Int)] w fun e w' => e = .returned (.int .i64 (mv W H s q : Int)) ∧ ∃ n, w' = w.drewN n) := Lib.hid (fun s w hs => move_any W H B s q w (by omega) hq)
  have HO : Hid (Lib.compact ((imsTo W H q n).mergeSort fun x y => decide (x ≤ y)) = orb W H q ∧ orb W H q ≠ []) := Lib.hid ⟨by rw [hn]; exact orb_compact B q hq, fun e => by
    have h1 := orb_pos B q hq
    have h2 := orb_length W H q
    rw [e] at h2; simp at h2; omega⟩
  clear hn B hq
  go_enter Try.func15, Try.ntmps15
  go_wp2_with fail
  go_at_call 33; refine (turned (check_yes _ _ _ HB.out)).mono ?_; rintro e w' ⟨rfl, rfl⟩
  go_wp2_with fail
  go_at_call 29; refine (turned (HQ.out _)).mono ?_; rintro e w' ⟨rfl, rfl⟩
  go_wp2_with fail
  go_at_call 34; refine (turned (HC.out _)).mono ?_; rintro e w' ⟨rfl, rfl⟩
  go_wp2_with fail
  go_loopw [9, 25] (fun v i wr => ∃ k : Nat, k ≤ n ∧ i = .int .i64 (k : Int) ∧ wr.ownsRow w.heap.size 3 1 v k (vals (imsTo W H q k)) ∧ Hid (Below w.heap.size w wr)) (fun _ i _ => n - (intOf i).toNat)
  case atStart => exact ⟨0, by omega, rfl, World.ownsRow_nil _ _ _ _, Lib.hid (Below.refl _ _)⟩
  case round =>
    obtain ⟨k, hk, rfl, hown, hbel⟩ := hrel
    by_cases hlt : k < n
    · go_wp2_with fail
      go_at_call 30; refine (HM.out k _ hlt).mono ?_; rintro e w2 ⟨rfl, d, hw2⟩
      have hown2 := ownsRow_drew hown hw2
      have hbel2 : Hid (Below w.heap.size w w2) := Lib.hid (hbel.out.trans ((below_of_drew hw2).mono hbel.out.size))
      obtain ⟨m, hm⟩ : ∃ m : Nat, m = mv W H k q := ⟨_, rfl⟩
      rw [← hm]
      have HV : Hid (vals (imsTo W H q (k + 1)) = vals (imsTo W H q k) ++ [.int .i64 (m : Int)]) := Lib.hid (by rw [imsTo_succ, ← hm, vals_append]; rfl)
      clear hm hown hbel hw2
      go_wp2_with (at_builtin; refine wpList_append_own _ rfl _ _ 29 rfl w.heap.size 3 i0 (.int .i64 0) 1 8 Try.underlying29 hi hz0 hz1 hz2 rfl (by decide) _ _ _ rfl (hown2.alloc _) ⟨w2.heap.size, 0, none⟩ 1 1 [.int .i64 (m : Int)] rfl rfl (cell_one_new _ _ _) (by simp [Value.oneCell']) (by unfold maxLen; omega) (by omega) (by have := hbel2.out.size; simp; omega) ?_; intro v' w1 hown' hgrow _)
      have hg' : (w2.alloc (.cells #[.int .i64 (m : Int)] 3)).grownBy w1 u9.ownBlock := hgrow
      go_roundw
      case rel =>
        refine ⟨k + 1, by omega, by go_num, ?_, Lib.hid ((hbel2.out.alloc hbel2.out.size _).grown hg' (by have := hbel2.out.size; simp; omega) (fun k e => (hown2.lt k e).1))⟩
        rw [HV.out]; exact hown'
      case measure => simp [intOf]; omega
    · obtain rfl : k = n := by omega
      go_wp2_with fail
      go_at_call 35; refine (sort_own hown (by omega) (imsTo_length _ _ _ _) (by omega)).mono ?_; rintro e w3 ⟨rfl, hown3, hb3⟩
      have HB3 : Hid (Below w.heap.size w w3) := Lib.hid (hb3 w hbel.out hbel.out.size)
      have HOW : Hid _ := Lib.hid hown3
      clear hb3 hown hown3 hbel
      go_wp2_with fail
      go_at_call 36; refine (compact_own HOW.out (by omega) (by simp [imsTo_length]) (by omega) (by rw [HO.out.1]; exact HO.out.2)).mono ?_; rintro e w4 ⟨v4, rfl, hr4, hb4⟩
      have HB4 : Hid (Below w.heap.size w w4) := Lib.hid (hb4 w HB3.out HB3.out.size)
      have HR4 : Hid _ := Lib.hid hr4
      clear hb4 hr4
      go_wp2_with fail
      go_ret2
      exact ⟨v4, rfl, by rw [← HO.out.1]; exact HR4.out, HB4.out⟩
theorem orbit_no (a b q : Int) (w : World) (h : ¬ IsB a b) :
    Calls Try.prog 15 #[.int .i64 a, .int .i64 b, .int .i64 q] w fun e w' => e = .returned (.tuple #[.slice none 0 0, .int .i64 4]) ∧ w' = w := by
  have HB : Hid _ := Lib.hid h
  clear h
  go_enter Try.func15, Try.ntmps15
  go_wp2_with fail
  go_at_call 33; refine (turned (check_no _ _ _ HB.out)).mono ?_; rintro e w' ⟨rfl, rfl⟩
  go_wp2_with fail
  go_ret2
  exact ⟨rfl, rfl⟩
theorem orbit_off (W H : Nat) (B : Board W H) (q : Int) (hq : ¬ (0 ≤ q ∧ q < (W * H : Nat))) (w : World) :
    Calls Try.prog 15 #[.int .i64 (W : Int), .int .i64 (H : Int), .int .i64 q] w fun e w' => e = .returned (.tuple #[.slice none 0 0, .int .i64 4]) ∧ w' = w := by
  have HB : Hid _ := Lib.hid B.isB
  have HQ : Hid _ := Lib.hid (fun w => isSquare_no W H B q w hq)
  clear B hq
  go_enter Try.func15, Try.ntmps15
  go_wp2_with fail
  go_at_call 33; refine (turned (check_yes _ _ _ HB.out)).mono ?_; rintro e w' ⟨rfl, rfl⟩
  go_wp2_with fail
  go_at_call 29; refine (turned (HQ.out _)).mono ?_; rintro e w' ⟨rfl, rfl⟩
  go_wp2_with fail
  go_ret2
  exact ⟨rfl, rfl⟩
theorem orbit_320 (w : World) : Calls Try.prog 15 #[.int .i64 3, .int .i64 2, .int .i64 0] w (OrbPost w [0, 2, 3, 5]) := by
  have h := orbit_ok 3 2 ⟨by decide, by decide, by decide, by decide⟩ 0 (by decide) w
  have e : orb 3 2 0 = [0, 2, 3, 5] := by decide +kernel
  rw [e] at h; exact h
end Go.Proofs.Ytfmpoebkhkambaa
