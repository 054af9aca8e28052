/- SymmCanon: the walk of the law. -/
import Derived.Test.YtfmpoebkhkambaaCanon
namespace Go.Proofs.Ytfmpoebkhkambaa
open Go.RowKit Go.Shelf

set_option maxRecDepth 100000 in
set_option maxHeartbeats 4000000 in
theorem canonLaw_no (a b : Int) (ad : Option Addr) (n cap : Nat) (w : World) (h : ¬ IsB a b) :
    Calls Try.prog 8 #[.int .i64 a, .int .i64 b, .slice ad n cap] w fun e w' => e = .returned (.bool true) ∧ Below w.heap.size w w' := by
  have HB : Hid _ := Lib.hid h
  clear h
  go_enter Try.func8, Try.ntmps8
  go_wp2_with fail
  go_at_call 20; refine (canon_2156 _ _ (row_two w 6 5)).mono ?_; rintro e w1 ⟨v1, rfl, hr1, hb1⟩
  have HB1 : Hid (Below w.heap.size w w1) := Lib.hid (((Below.refl _ w).alloc (Nat.le_refl _) _).trans (hb1.mono (by simp)))
  have HR1 : Hid _ := Lib.hid hr1
  clear hb1 hr1
  go_wp2_with fail
  go_at_call 23
  refine (same_any [5, 6] [5, 6] v1 _ _ (HR1.out.below ((Below.refl w1.heap.size w1).alloc (Nat.le_refl _) _) (Nat.le_refl _)) (row_two w1 5 6) (by simp)).mono ?_
  rintro e w2 ⟨rfl, hb2⟩
  have HB2 : Hid (Below w.heap.size w w2) := Lib.hid ((HB1.out.alloc HB1.out.size _).trans (hb2.mono (by have := HB1.out.size; simp; omega)))
  clear hb2 HB1 HR1
  go_wp2_with fail
  go_at_call 20; refine (turned (canon_no a b (.slice ad n cap) _ HB.out)).mono ?_; rintro e w' ⟨rfl, rfl⟩
  go_wp2_with fail
  go_at_call 24; refine (turned (symmetries_no a b _ HB.out)).mono ?_; rintro e w' ⟨rfl, rfl⟩
  go_wp2_with fail
  go_ret
  exact ⟨rfl, HB2.out⟩
set_option maxRecDepth 100000 in
set_option maxHeartbeats 4000000 in
theorem canonLaw_form (W H : Nat) (B : Board W H) (ad : Option Addr) (n cap : Nat) (w : World) (h : n ≠ W * H) :
    Calls Try.prog 8 #[.int .i64 (W : Int), .int .i64 (H : Int), .slice ad n cap] w fun e w' => e = .returned (.bool true) ∧ Below w.heap.size w w' := by
  have HC : Hid _ := Lib.hid (fun w => canon_form W H B n ad cap w h)
  obtain ⟨c, hc⟩ : ∃ c : Nat, c = cntS W H := ⟨_, rfl⟩
  have hc4 : 4 ≤ c := by rw [hc]; exact cntS_ge
  have HS : Hid _ := Lib.hid (symmetries_ok W H B)
  rw [← hc] at HS
  have hp := wh_le B
  obtain ⟨A, hA⟩ : ∃ A : Nat, A = W * H := ⟨_, rfl⟩
  have hm : (W : Int) * (H : Int) = (A : Int) := by rw [hA]; norm_cast
  rw [← hA] at hp h
  have hne : ((n : Int) != (A : Int)) = true := by simp; omega
  clear h hA hc B
  go_enter Try.func8, Try.ntmps8
  go_wp2_with fail
  go_at_call 20; refine (canon_2156 _ _ (row_two w 6 5)).mono ?_; rintro e w1 ⟨v1, rfl, hr1, hb1⟩
  have HB1 : Hid (Below w.heap.size w w1) := Lib.hid (((Below.refl _ w).alloc (Nat.le_refl _) _).trans (hb1.mono (by simp)))
  have HR1 : Hid _ := Lib.hid hr1
  clear hb1 hr1
  go_wp2_with fail
  go_at_call 23
  refine (same_any [5, 6] [5, 6] v1 _ _ (HR1.out.below ((Below.refl w1.heap.size w1).alloc (Nat.le_refl _) _) (Nat.le_refl _)) (row_two w1 5 6) (by simp)).mono ?_
  rintro e w2 ⟨rfl, hb2⟩
  have HB2 : Hid (Below w.heap.size w w2) := Lib.hid ((HB1.out.alloc HB1.out.size _).trans (hb2.mono (by have := HB1.out.size; simp; omega)))
  clear hb2 HB1 HR1
  go_wp2_with fail
  go_at_call 20; refine (turned (HC.out _)).mono ?_; rintro e w' ⟨rfl, rfl⟩
  go_wp2_with fail
  go_at_call 24; refine (turned (HS.out _)).mono ?_; rintro e w' ⟨rfl, rfl⟩
  have hc0 : ((c : Int) == 0) = false := by simp; omega
  go_wp2_with fail
  go_ret
  exact ⟨rfl, HB2.out⟩
theorem ltL_nil (y : List Int) : ltL [] y = false := by cases y <;> rfl
theorem drop_at (xs : List Int) (k : Nat) (h : k < xs.length) : xs.drop k = (xs[k]?.getD 0) :: xs.drop (k + 1) := by
  rw [List.drop_eq_getElem_cons h]; simp [h]

set_option maxRecDepth 100000 in
set_option maxHeartbeats 8000000 in
theorem canonLaw_good (W H : Nat) (B : Board W H) (xs : List Int) (v : Value) (w : World) (hv : Row w v (vals xs)) (hx : xs.length = W * H) :
    Calls Try.prog 8 #[.int .i64 (W : Int), .int .i64 (H : Int), v] w fun e w' => e = .returned (.bool true) ∧ Below w.heap.size w w' := by
  obtain ⟨i0, hi, hz0, hz1, hz2⟩ := info_parts Try.infoInt
  have HC : Hid (∀ W', Below w.heap.size w W' → Calls Try.prog 20 #[.int .i64 (W : Int), .int .i64 (H : Int), v] W' (CanPost W' (canV W H xs))) := Lib.hid (fun W' hb => canon_ok W H B xs v W' (hv.below hb (Nat.le_refl _)) hx)
  obtain ⟨c, hc⟩ : ∃ c : Nat, c = cntS W H := ⟨_, rfl⟩
  have hc4 : 4 ≤ c := by rw [hc]; exact cntS_ge
  have hc8 : c ≤ 8 := by rw [hc]; exact cntS_le
  have HS : Hid _ := Lib.hid (symmetries_ok W H B)
  have HV : Hid (canV W H xs = canGo W H xs c) := Lib.hid (by rw [hc]; rfl)
  obtain ⟨A, hA⟩ : ∃ A : Nat, A = W * H := ⟨_, rfl⟩
  have hA64 : A ≤ 64 := by rw [hA]; exact wh_le B
  have hm : (W : Int) * (H : Int) = (A : Int) := by rw [hA]; norm_cast
  have HM : Hid (∀ s k w, s < c → k < A → Calls Try.prog 26 #[.int .i64 (W : Int), .int .i64 (H : Int), .int .i64 (s : Int), .int .i64 (k : Int)] w fun e w' => (e = .returned (.int .i64 (mv W H s k : Int)) ∧ mv W H s k < A) ∧ ∃ n, w' = w.drewN n) :=
    Lib.hid (fun s k w hs hk => (moved_any W H B s k w (by omega) (by omega)).mono fun e w' h => ⟨⟨h.1, by rw [hA]; exact mv_lt B s k (by omega) (by omega)⟩, h.2⟩)
  have HT : Hid (∀ s k, s < c → k < A → (vals (appTo W H s xs k)).set (mv W H s k) (.int .i64 (xs[k]?.getD 0)) = vals (appTo W H s xs (k + 1))) := Lib.hid (fun s k hs hk => appTo_set B s (by omega) xs k (by omega))
  have HZ : Hid (∀ s, vals (appTo W H s xs 0) = List.replicate A (.int .i64 0)) := Lib.hid (by rw [hA]; exact fun s => appTo_zero W H s xs)
  have HE : Hid (∀ s, app W H s xs = appTo W H s xs A) := Lib.hid (by rw [hA]; exact fun s => rfl)
  have HL : Hid (∀ s k, (vals (appTo W H s xs k)).length = A) := Lib.hid (fun s k => by rw [vals_length, appTo_length, hA])
  have HX : Hid (xs.length = A) := Lib.hid (by rw [hx, hA])
  have HG : Hid (∀ k, (canGo W H xs k).1.length = A) := Lib.hid (fun k => by rw [hA]; exact canGo_length W H xs hx k)
  have HP : Hid (∀ s, (app W H s xs).length = A) := Lib.hid (fun s => by rw [hA]; exact app_length W H s xs)
  have HRV : Hid (Row w v (vals xs)) := Lib.hid hv
  obtain ⟨a, cap, rfl, hcell⟩ := hv.at (n := A) (by omega)
  have HCELL : Hid _ := Lib.hid hcell
  rw [← hc] at HS
  clear hA hc B hv hx hcell
  go_enter Try.func8, Try.ntmps8
  go_wp2_with fail
  go_at_call 20; refine (canon_2156 _ _ (row_two w 6 5)).mono ?_; rintro e w1 ⟨v1, rfl, hr1, hb1⟩
  have HB1 : Hid (Below w.heap.size w w1) := Lib.hid (((Below.refl _ w).alloc (Nat.le_refl _) _).trans (hb1.mono (by simp)))
  have HR1 : Hid _ := Lib.hid hr1
  clear hb1 hr1
  go_wp2_with fail
  go_at_call 23
  refine (same_any [5, 6] [5, 6] v1 _ _ (HR1.out.below ((Below.refl w1.heap.size w1).alloc (Nat.le_refl _) _) (Nat.le_refl _)) (row_two w1 5 6) (by simp)).mono ?_
  rintro e w2 ⟨rfl, hb2⟩
  have HB2 : Hid (Below w.heap.size w w2) := Lib.hid ((HB1.out.alloc HB1.out.size _).trans (hb2.mono (by have := HB1.out.size; simp; omega)))
  clear hb2 HB1 HR1
  go_wp2_with fail
  go_at_call 20; refine (HC.out _ HB2.out).mono ?_; rintro e w4 ⟨v4, rfl, hr4, hb4⟩
  have HB4 : Hid (Below w.heap.size w w4) := Lib.hid (HB2.out.trans (hb4.mono HB2.out.size))
  have HR4 : Hid _ := Lib.hid hr4
  have hs4 : w.heap.size ≤ w4.heap.size := HB4.out.size
  clear hb4 hr4 HB2
  go_wp2_with fail
  go_at_call 24; refine (turned (HS.out _)).mono ?_; rintro e w' ⟨rfl, rfl⟩
  have hc0 : ((c : Int) == 0) = false := by simp; omega
  have hnn : ((A : Int) != (A : Int)) = false := by simp
  go_wp2_with fail
  go_loopw [15, 16, 75] (fun f l i wr => ∃ k : Nat, k ≤ c ∧ i = .int .i64 (k : Int) ∧ l = .int .i64 ((canGo W H xs k).2 : Int) ∧ Hid (Row wr f (vals (canGo W H xs k).1)) ∧ Hid (Below w4.heap.size w4 wr)) (fun _ _ i _ => c - (intOf i).toNat)
  case atStart => exact ⟨0, by omega, rfl, rfl, Lib.hid (HRV.out.below HB4.out (Nat.le_refl _)), Lib.hid (Below.refl _ _)⟩
  case round =>
    obtain ⟨k, hk, rfl, rfl, hr, hbel⟩ := hrel
    obtain ⟨w5, hw5⟩ : ∃ w5 : World, w5 = wr := ⟨_, rfl⟩
    subst hw5
    by_cases hlt : k < c
    · have hs5 : w4.heap.size ≤ w5.heap.size := hbel.out.size
      go_wp2_with (at_make; refine wpList_make_full _ rfl _ _ 29 rfl w5.heap.size 3 i0 (.int .i64 0) 1 Try.underlying29 hi hz0 hz1 .i64 .i64 A A A rfl rfl rfl rfl (by rw [hz2]; omega) (by unfold maxLen; omega) (Nat.le_refl _) ?_; intro wm hownm hgrowm)
      have hown0 : wm.ownsRow w5.heap.size 3 1 (.slice (some ⟨w5.heap.size, 0, none⟩) A A) A (vals (appTo W H k xs 0)) := by
        rw [HZ.out, ← toList_madeCells_one]; rw [Nat.mul_one] at hownm; exact hownm
      have HBm : Hid (Below w5.heap.size w5 wm) := Lib.hid ((Below.refl _ w5).grown hgrowm (Nat.le_refl _) (fun k e => by cases e))
      clear hownm hgrowm
      go_loopw [83] (fun i wr => ∃ q : Nat, q ≤ A ∧ i = .int .i64 (q : Int) ∧ wr.ownsRow w5.heap.size 3 1 (.slice (some ⟨w5.heap.size, 0, none⟩) A A) A (vals (appTo W H k xs q)) ∧ Hid (Below w5.heap.size w5 wr)) (fun i _ => A - (intOf i).toNat)
      case atStart => exact ⟨0, by omega, rfl, hown0, HBm⟩
      case round =>
        clear hown0 HBm
        obtain ⟨q, hq, rfl, hown, hbelq⟩ := hrel
        by_cases hltq : q < A
        · obtain ⟨g, off, rfl, hcell⟩ := HCELL.out q hltq
          have hc1 := hcell wr (HB4.out.trans ((hbel.out.trans (hbelq.out.mono hs5)).mono hs4))
          obtain ⟨x, hxv⟩ : ∃ x : Int, x = xs[q]?.getD 0 := ⟨_, rfl⟩
          rw [← hxv] at hc1
          have HST : Hid ((vals (appTo W H k xs q)).set (mv W H k q) (.int .i64 x) = vals (appTo W H k xs (q + 1))) := Lib.hid (by rw [hxv]; exact HT.out k q hlt hltq)
          have HLk : Hid _ := Lib.hid (HL.out k q)
          clear hcell hxv
          go_wp2_with fail
          go_at_call 26; refine (HM.out k q _ hlt hltq).mono ?_; rintro e w6 ⟨⟨rfl, hmv⟩, d, hw6⟩
          have hown2 := ownsRow_drew hown hw6
          have hbel2 : Hid (Below w5.heap.size w5 w6) := Lib.hid (hbelq.out.trans ((below_of_drew hw6).mono hbelq.out.size))
          obtain ⟨m, hmm⟩ : ∃ m : Nat, m = mv W H k q := ⟨_, rfl⟩
          rw [← hmm] at hmv ⊢
          have hmf := hown2.frozenAt m
          obtain ⟨y, hy⟩ : ∃ y : Value, w6.cell? ⟨w5.heap.size, m, none⟩ = some y := by
            have hl : m < (vals (appTo W H k xs q)).length := by rw [HLk.out]; exact hmv
            exact ⟨_, (hown2.cellAt m (by omega)).trans (List.getElem?_eq_getElem hl)⟩
          have hst := (hown2.stored m (.int .i64 x)).1
          rw [hmm, HST.out, ← hmm] at hst
          have HST2 : Hid _ := Lib.hid hst
          clear hst hmm hown hown2 hw6 hbelq
          go_wp2_with fail
          go_roundw
          case rel => exact ⟨q + 1, by omega, by go_num, HST2.out, Lib.hid (hbel2.out.setCell (p := ⟨w5.heap.size, m, none⟩) (Nat.le_refl _) _)⟩
          case measure => simp [intOf]; omega
        · obtain rfl : q = A := by omega
          obtain ⟨w7, hw7⟩ : ∃ w7 : World, w7 = wr := ⟨_, rfl⟩
          subst hw7
          have HRM : Hid (Row w7 (.slice (some ⟨w5.heap.size, 0, none⟩) q q) (vals (app W H k xs))) := Lib.hid (by rw [HE.out]; exact Row.of_owns hown)
          have HRB : Hid _ := Lib.hid (hr.out.below hbelq.out (Nat.le_refl _))
          have HB7 : Hid (Below w4.heap.size w4 w7) := Lib.hid (hbel.out.trans (hbelq.out.mono hs5))
          obtain ⟨fa, fc, rfl, hfc⟩ := HRB.out.at (n := q) (HG.out k).symm
          have HFC : Hid _ := Lib.hid hfc
          have HMC : Hid (∀ j, j < q → ∀ W', Below w7.heap.size w7 W' → W'.cell? ⟨w5.heap.size, j, none⟩ = some (.int .i64 ((app W H k xs)[j]?.getD 0))) := Lib.hid (fun j hj W' hb => by
            have h := hown.cellAt j (by omega)
            rw [vals_at _ _ (by have := HL.out k q; rw [vals_length] at this; omega)] at h
            rw [HE.out, ← h]
            exact hb.cell (p := ⟨w5.heap.size, j, none⟩) (World.block_lt_of_cell? _ _ h))
          clear hown hbelq hbel hr hfc
          go_wp2_with fail
          go_loopw [15, 16, 99] (fun f l i wr => ∃ j : Nat, j ≤ q ∧ i = .int .i64 (j : Int) ∧ f = .slice fa q fc ∧ l = .int .i64 ((canGo W H xs k).2 : Int) ∧ Hid (ltL ((app W H k xs).drop j) ((canGo W H xs k).1.drop j) = ltL (app W H k xs) (canGo W H xs k).1) ∧ Hid (Below w7.heap.size w7 wr)) (fun _ _ i _ => q - (intOf i).toNat)
          case atStart => exact ⟨0, by omega, rfl, rfl, rfl, Lib.hid rfl, Lib.hid (Below.refl _ _)⟩
          case round =>
            obtain ⟨j, hj, rfl, rfl, rfl, hlj, hbj⟩ := hrel
            by_cases hltj : j < q
            · obtain ⟨g, off, rfl, hcell⟩ := HFC.out j hltj
              have e1 := HMC.out j hltj wr hbj.out
              have e2 := hcell wr hbj.out
              have hrr := hlj.out
              rw [drop_at _ j (by rw [HP.out]; exact hltj), drop_at (canGo W H xs k).1 j (by rw [HG.out]; exact hltj), ltL] at hrr
              generalize (app W H k xs)[j]?.getD 0 = x at e1 hrr
              generalize (canGo W H xs k).1[j]?.getD 0 = y at e2 hrr
              clear hcell hlj
              by_cases hxy : x = y
              · subst hxy
                rw [if_pos rfl] at hrr
                have HR : Hid _ := Lib.hid hrr
                clear hrr
                go_wp2
                go_quiet (fail)
                go_wp2
                go_roundw
                case rel => exact ⟨j + 1, by omega, by go_num, rfl, rfl, HR, Lib.hid (below_drewN hbj.out _)⟩
                case measure => simp [intOf]; omega
              · rw [if_neg hxy] at hrr
                have hne : (x != y) = true := by simpa using hxy
                by_cases hxl : x < y
                · rw [decide_eq_true hxl] at hrr
                  have HK : Hid (canGo W H xs (k + 1) = (app W H k xs, k)) := Lib.hid (by rw [canGo, ← hrr]; rfl)
                  clear hrr hxy
                  go_wp2
                  go_quiet (fail)
                  go_wp2
                  go_quiet (fail)
                  go_wp2
                  go_roundw
                  case rel => exact ⟨k + 1, by omega, by go_num, by rw [HK.out], Lib.hid (by rw [HK.out]; exact HRM.out.below (below_drewN hbj.out _) (Nat.le_refl _)), Lib.hid (HB7.out.trans ((below_drewN hbj.out _).mono HB7.out.size))⟩
                  case measure => simp [intOf]; omega
                · rw [decide_eq_false hxl] at hrr
                  have HK : Hid (canGo W H xs (k + 1) = canGo W H xs k) := Lib.hid (by rw [canGo, ← hrr]; rfl)
                  clear hrr hxy
                  go_wp2
                  go_quiet (fail)
                  go_wp2
                  go_quiet (fail)
                  go_wp2
                  go_roundw
                  case rel => exact ⟨k + 1, by omega, by go_num, by rw [HK.out], Lib.hid (by rw [HK.out]; exact HRB.out.below (below_drewN hbj.out _) (Nat.le_refl _)), Lib.hid (HB7.out.trans ((below_drewN hbj.out _).mono HB7.out.size))⟩
                  case measure => simp [intOf]; omega
            · have HK : Hid (canGo W H xs (k + 1) = canGo W H xs k) := Lib.hid (by
                have h := hlj.out
                rw [List.drop_eq_nil_of_le (by rw [HP.out]; omega)] at h
                rw [ltL_nil] at h
                rw [canGo, ← h]; rfl)
              go_wp2
              go_roundw
              case rel => exact ⟨k + 1, by omega, by go_num, by rw [HK.out], Lib.hid (by rw [HK.out]; exact HRB.out.below hbj.out (Nat.le_refl _)), Lib.hid (HB7.out.trans (hbj.out.mono HB7.out.size))⟩
              case measure => simp [intOf]; omega
    · obtain rfl : k = c := by omega
      have HSM : Hid (Calls Try.prog 23 #[v4, u15] w5 (BoolPost w5 true)) := Lib.hid (by
        have h1 := HR4.out.below hbel.out (Nat.le_refl _)
        rw [HV.out] at h1
        have h := same_any _ _ v4 u15 w5 h1 hr.out (by rw [HG.out]; omega)
        rwa [decide_eq_true rfl] at h)
      have HVV : Hid ((canV W H xs).2 = (canGo W H xs k).2) := Lib.hid (by rw [HV.out])
      rw [HVV.out]
      go_wp2_with fail
      go_at_call 23; refine HSM.out.mono ?_; rintro e w8 ⟨rfl, hb8⟩
      go_wp2_with fail
      go_ret
      exact ⟨rfl, HB4.out.trans ((hbel.out.trans (hb8.mono hbel.out.size)).mono hs4)⟩
theorem canonLaw_full (a b : Int) (ad : Option Addr) (n cap : Nat) (z : List Int) (w : World) (hz : IsRow .i64 w ad n cap z) :
    Calls Try.prog 8 #[.int .i64 a, .int .i64 b, .slice ad n cap] w fun e w' => e = .returned (.bool true) ∧ Below w.heap.size w w' := by
  obtain ⟨hr, hn⟩ := hz.row
  by_cases h : IsB a b
  · obtain ⟨W, H, rfl, rfl, B⟩ := h.nat
    by_cases hn2 : n = W * H
    · exact canonLaw_good W H B (z.take n) _ w hr (by omega)
    · exact canonLaw_form W H B ad n cap w hn2
  · exact canonLaw_no a b ad n cap w h
end Go.Proofs.Ytfmpoebkhkambaa
