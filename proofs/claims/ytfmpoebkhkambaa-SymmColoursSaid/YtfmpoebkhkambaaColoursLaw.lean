/- SymmColours: the walk of the law. -/
import Derived.Test.YtfmpoebkhkambaaBurn
namespace Go.Proofs.Ytfmpoebkhkambaa
open Go.RowKit Go.Shelf

theorem col_222 (w : World) : Calls Try.prog 22 #[.int .i64 2, .int .i64 2, .int .i64 2] w fun e w' => e = .returned (.tuple #[.int .i64 6, .int .i64 0]) ∧ Below w.heap.size w w' := by
  have h := colours_any 2 2 2 w
  have e : colAny 2 2 2 = (6, 0) := by decide +kernel
  rw [e] at h; exact h
theorem coloursLaw_no (a b c : Int) (w : World) (h : ¬ IsB a b) :
    Calls Try.prog 9 #[.int .i64 a, .int .i64 b, .int .i64 c] w fun e w' => e = .returned (.bool true) ∧ Below w.heap.size w w' := by
  have HB : Hid _ := Lib.hid h
  clear h
  go_enter Try.func9, Try.ntmps9
  go_wp2_with fail
  go_at_call 22; refine (col_222 _).mono ?_; rintro e w1 ⟨rfl, hb1⟩
  have HB1 : Hid _ := Lib.hid hb1
  clear hb1
  go_wp2_with fail
  go_at_call 22; refine (turned (colours_no a b c _ HB.out)).mono ?_; rintro e w' ⟨rfl, rfl⟩
  go_wp2_with fail
  go_at_call 24; refine (turned (symmetries_no a b _ HB.out)).mono ?_; rintro e w' ⟨rfl, rfl⟩
  go_wp2_with fail
  go_ret
  exact ⟨rfl, HB1.out⟩
theorem coloursLaw_arg (W H : Nat) (B : Board W H) (c : Int) (w : World) (hc : ¬ (0 ≤ c ∧ c ≤ 16)) :
    Calls Try.prog 9 #[.int .i64 (W : Int), .int .i64 (H : Int), .int .i64 c] w fun e w' => e = .returned (.bool true) ∧ Below w.heap.size w w' := by
  have HB : Hid _ := Lib.hid B
  have HC : Hid _ := Lib.hid hc
  obtain ⟨n, hn⟩ : ∃ n : Nat, n = cntS W H := ⟨_, rfl⟩
  have hn4 : 4 ≤ n := by rw [hn]; exact cntS_ge
  have HS : Hid _ := Lib.hid (symmetries_ok W H B)
  rw [← hn] at HS
  clear hc hn B
  go_enter Try.func9, Try.ntmps9
  go_wp2_with fail
  go_at_call 22; refine (col_222 _).mono ?_; rintro e w1 ⟨rfl, hb1⟩
  have HB1 : Hid _ := Lib.hid hb1
  clear hb1
  go_wp2_with fail
  go_at_call 22; refine (turned (colours_arg _ _ c _ HB.out.isB HC.out)).mono ?_; rintro e w' ⟨rfl, rfl⟩
  go_wp2_with fail
  go_at_call 24; refine (turned (HS.out _)).mono ?_; rintro e w' ⟨rfl, rfl⟩
  have hn0 : ((n : Int) == 0) = false := by simp; omega
  go_wp2_with fail
  go_at_call 25; refine (turned (in_no c 0 16 _ HC.out)).mono ?_; rintro e w' ⟨rfl, rfl⟩
  go_wp2_with fail
  go_ret
  exact ⟨rfl, HB1.out⟩
set_option maxRecDepth 100000 in
set_option maxHeartbeats 4000000 in
theorem coloursLaw_big (W H : Nat) (B : Board W H) (c : Nat) (w : World) (hc : c ≤ 16) (h : 8 < W * H ∨ 3 < c) :
    Calls Try.prog 9 #[.int .i64 (W : Int), .int .i64 (H : Int), .int .i64 (c : Int)] w fun e w' => e = .returned (.bool true) ∧ Below w.heap.size w w' := by
  have K1 : Hid _ := Lib.hid (fun w => colours_board W H B c hc w)
  generalize colV W H c = p at K1
  obtain ⟨p1, p2⟩ := p
  obtain ⟨n, hn⟩ : ∃ n : Nat, n = cntS W H := ⟨_, rfl⟩
  have hn4 : 4 ≤ n := by rw [hn]; exact cntS_ge
  have HS : Hid _ := Lib.hid (symmetries_ok W H B)
  rw [← hn] at HS
  obtain ⟨A, hA⟩ : ∃ A : Nat, A = W * H := ⟨_, rfl⟩
  have hA64 : A ≤ 64 := by rw [hA]; exact wh_le B
  have hm : (W : Int) * (H : Int) = (A : Int) := by rw [hA]; norm_cast
  rw [← hA] at h
  have hn0 : ((n : Int) == 0) = false := by simp; omega
  clear hA hn B
  by_cases h8 : 8 < A
  · clear h
    go_enter Try.func9, Try.ntmps9
    go_wp2_with fail
    go_at_call 22; refine (col_222 _).mono ?_; rintro e w1 ⟨rfl, hb1⟩
    have HB1 : Hid _ := Lib.hid hb1
    clear hb1
    go_wp2_with fail
    go_at_call 22; refine (K1.out _).mono ?_; rintro e w2 ⟨rfl, hb2⟩
    have HB2 : Hid (Below w.heap.size w w2) := Lib.hid (HB1.out.trans (hb2.mono HB1.out.size))
    clear hb2
    go_wp2_with fail
    go_at_call 24; refine (turned (HS.out _)).mono ?_; rintro e w' ⟨rfl, rfl⟩
    go_wp2_with fail
    go_at_call 25; refine (turned (in_yes (c : Int) 0 16 _ (by omega) (by omega))).mono ?_; rintro e w' ⟨rfl, rfl⟩
    go_wp2_with fail
    go_ret
    exact ⟨rfl, HB2.out⟩
  · have h3 : 3 < c := by omega
    clear h
    go_enter Try.func9, Try.ntmps9
    go_wp2_with fail
    go_at_call 22; refine (col_222 _).mono ?_; rintro e w1 ⟨rfl, hb1⟩
    have HB1 : Hid _ := Lib.hid hb1
    clear hb1
    go_wp2_with fail
    go_at_call 22; refine (K1.out _).mono ?_; rintro e w2 ⟨rfl, hb2⟩
    have HB2 : Hid (Below w.heap.size w w2) := Lib.hid (HB1.out.trans (hb2.mono HB1.out.size))
    clear hb2
    go_wp2_with fail
    go_at_call 24; refine (turned (HS.out _)).mono ?_; rintro e w' ⟨rfl, rfl⟩
    go_wp2_with fail
    go_at_call 25; refine (turned (in_yes (c : Int) 0 16 _ (by omega) (by omega))).mono ?_; rintro e w' ⟨rfl, rfl⟩
    go_wp2_with fail
    go_ret
    exact ⟨rfl, HB2.out⟩
theorem ltL_nil' (y : List Int) : ltL [] y = false := by cases y <;> rfl
theorem drop_at' (xs : List Int) (k : Nat) (h : k < xs.length) : xs.drop k = (xs[k]?.getD 0) :: xs.drop (k + 1) := by
  rw [List.drop_eq_getElem_cons h]; simp [h]

set_option maxRecDepth 100000 in
set_option maxHeartbeats 16000000 in
theorem coloursLaw_small (W H : Nat) (B : Board W H) (C : Nat) (w : World) (hc : C ≤ 3) (hWH : W * H ≤ 8) :
    Calls Try.prog 9 #[.int .i64 (W : Int), .int .i64 (H : Int), .int .i64 (C : Int)] w fun e w' => e = .returned (.bool true) ∧ Below w.heap.size w w' := by
  obtain ⟨i0, hi, hz0, hz1, hz2⟩ := info_parts Try.infoInt
  obtain ⟨n, hn⟩ : ∃ n : Nat, n = cntS W H := ⟨_, rfl⟩
  have hn4 : 4 ≤ n := by rw [hn]; exact cntS_ge
  have hn8 : n ≤ 8 := by rw [hn]; exact cntS_le
  have HS : Hid _ := Lib.hid (symmetries_ok W H B)
  obtain ⟨A, hA⟩ : ∃ A : Nat, A = W * H := ⟨_, rfl⟩
  have hA8 : A ≤ 8 := by rw [hA]; exact hWH
  have hA1 : 1 ≤ A := by rw [hA]; exact wh_pos B
  have hm : (W : Int) * (H : Int) = (A : Int) := by rw [hA]; norm_cast
  have K1 : Hid _ := Lib.hid (fun w => colours_board W H B C (by omega) w)
  rw [burn B C hWH hc] at K1
  rw [← hA] at K1
  have HPW : Hid (∀ k, k ≤ A → C ^ k ≤ 6561) := Lib.hid (fun k hk => by
    have h2 : C ^ k ≤ 3 ^ k := Nat.pow_le_pow_left hc _
    have h3 : 3 ^ k ≤ 3 ^ 8 := Nat.pow_le_pow_right (by omega) (by omega)
    have : 3 ^ 8 = 6561 := by decide
    omega)
  have HM : Hid (∀ s k w, s < n → k < A → Calls Try.prog 26 #[.int .i64 (W : Int), .int .i64 (H : Int), .int .i64 (s : Int), .int .i64 (k : Int)] w fun e w' => (e = .returned (.int .i64 (mv W H s k : Int)) ∧ mv W H s k < A) ∧ ∃ n, w' = w.drewN n) :=
    Lib.hid (fun s k w hs hk => (moved_any W H B s k w (by omega) (by omega)).mono fun e w' h => ⟨⟨h.1, by rw [hA]; exact mv_lt B s k (by omega) (by omega)⟩, h.2⟩)
  have HT : Hid (∀ xs s k, s < n → k < A → (vals (appTo W H s xs k)).set (mv W H s k) (.int .i64 (xs[k]?.getD 0)) = vals (appTo W H s xs (k + 1))) := Lib.hid (fun xs s k hs hk => appTo_set B s (by omega) xs k (by omega))
  have HZ : Hid (∀ xs s, vals (appTo W H s xs 0) = List.replicate A (.int .i64 0)) := Lib.hid (by rw [hA]; exact fun xs s => appTo_zero W H s xs)
  have HE : Hid (∀ xs s, app W H s xs = appTo W H s xs A) := Lib.hid (by rw [hA]; exact fun xs s => rfl)
  have HL : Hid (∀ xs s k, (vals (appTo W H s xs k)).length = A) := Lib.hid (fun xs s k => by rw [vals_length, appTo_length, hA])
  have HP : Hid (∀ xs s, (app W H s xs).length = A) := Lib.hid (fun xs s => by rw [hA]; exact app_length W H s xs)
  have HWS : Hid (∀ x, wantTo W H C (x + 1) = if leastTo W H (cellsV A C x) n then wantTo W H C x + 1 else wantTo W H C x) := Lib.hid (fun x => by rw [hA, hn]; exact wantTo_succ W H C x)
  rw [← hn] at HS
  clear hA hn B hWH
  go_enter Try.func9, Try.ntmps9
  go_wp2_with fail
  go_at_call 22; refine (col_222 _).mono ?_; rintro e w1 ⟨rfl, hb1⟩
  have HB1 : Hid _ := Lib.hid hb1
  clear hb1
  go_wp2_with fail
  go_at_call 22; refine (K1.out _).mono ?_; rintro e w2 ⟨rfl, hb2⟩
  have HB2 : Hid (Below w.heap.size w w2) := Lib.hid (HB1.out.trans (hb2.mono HB1.out.size))
  clear hb2
  go_wp2_with fail
  go_at_call 24; refine (turned (HS.out _)).mono ?_; rintro e w' ⟨rfl, rfl⟩
  have hn0 : ((n : Int) == 0) = false := by simp; omega
  go_wp2_with fail
  go_at_call 25; refine (turned (in_yes (C : Int) 0 16 _ (by omega) (by omega))).mono ?_; rintro e w' ⟨rfl, rfl⟩
  go_wp2_with fail
  obtain ⟨ALL, hALL⟩ : ∃ ALL : Nat, ALL = C ^ A := ⟨_, rfl⟩
  have hALLb : ALL ≤ 6561 := by rw [hALL]; exact HPW.out A (Nat.le_refl _)
  rw [← hALL]
  have HALL : Hid _ := Lib.hid hALL
  clear hALL
  go_loopw [11, 70] (fun p i wr => ∃ k P : Nat, k ≤ A ∧ i = .int .i64 (k : Int) ∧ p = .int .i64 (P : Int) ∧ Hid (P = C ^ k) ∧ Hid (Below w.heap.size w wr)) (fun _ i _ => A - (intOf i).toNat)
  case atStart => exact ⟨0, 1, by omega, rfl, rfl, Lib.hid (by simp), HB2⟩
  case round =>
    obtain ⟨k, P, hk, rfl, rfl, hP, hbel⟩ := hrel
    by_cases hlt : k < A
    · have hP1 : P ≤ 6561 := by rw [hP.out]; exact HPW.out k hk
      obtain ⟨P2, hP2⟩ : ∃ P2 : Nat, P2 = P * C := ⟨_, rfl⟩
      have HP2 : Hid (P2 = C ^ (k + 1)) := Lib.hid (by rw [hP2, hP.out, Nat.pow_succ])
      have hle2 : P2 ≤ 6561 := by rw [HP2.out]; exact HPW.out (k + 1) (by omega)
      have hmm : (P : Int) * (C : Int) = (P2 : Int) := by rw [hP2]; norm_cast
      clear hP2
      go_wp2_with fail
      go_roundw
      case rel => exact ⟨k + 1, P2, by omega, by go_num, rfl, HP2, hbel⟩
      case measure => simp [intOf]; omega
    · have HPA : Hid (P = ALL) := Lib.hid (by rw [hP.out, HALL.out, show k = A by omega])
      rw [HPA.out]
      obtain ⟨w3, hw3⟩ : ∃ w3 : World, w3 = wr := ⟨_, rfl⟩
      subst hw3
      have HB3 : Hid _ := hbel
      clear hbel hP HPA
      go_wp2_with fail
      clear hlt hk
      go_loopw [12, 77] (fun t i wr => ∃ x : Nat, x ≤ ALL ∧ i = .int .i64 (x : Int) ∧ t = .int .i64 (wantTo W H C x : Int) ∧ Hid (Below w.heap.size w wr)) (fun _ i _ => ALL - (intOf i).toNat)
      case atStart => exact ⟨0, by omega, rfl, rfl, HB3⟩
      case round =>
        obtain ⟨x, hx, rfl, rfl, hbx⟩ := hrel
        obtain ⟨w5, hw5⟩ : ∃ w5 : World, w5 = wr := ⟨_, rfl⟩
        subst hw5
        by_cases hltx : x < ALL
        · have hwl := wantTo_le W H C x
          have hC1 : 1 ≤ C := by
            rcases Nat.eq_zero_or_pos C with e | e
            · have h := HALL.out
              rw [e, Nat.zero_pow (by omega)] at h; omega
            · exact e
          have hC0 : ((C : Int) == 0) = false := by simp; omega
          have HWX : Hid _ := Lib.hid (HWS.out x)
          go_wp2_with (at_make; refine wpList_make_full _ rfl _ _ 29 rfl w5.heap.size 3 i0 (.int .i64 0) 1 Try.underlying29 hi hz0 hz1 .i64 .i64 A A A rfl rfl rfl rfl (by rw [hz2]; omega) (by unfold maxLen; omega) (Nat.le_refl _) ?_; intro wm hownm hgrowm)
          have hown0 : wm.ownsRow w5.heap.size 3 1 (.slice (some ⟨w5.heap.size, 0, none⟩) A A) A (vals (cTo A C x 0)) := by
            rw [cTo_zero, ← toList_madeCells_one]; rw [Nat.mul_one] at hownm; exact hownm
          have HBm : Hid (Below w5.heap.size w5 wm) := Lib.hid ((Below.refl _ w5).grown hgrowm (Nat.le_refl _) (fun k e => by cases e))
          clear hownm hgrowm
          go_loopw [15, 16] (fun k y wr => ∃ j Y : Nat, j ≤ A ∧ k = .int .i64 (j : Int) ∧ y = .int .i64 (Y : Int) ∧ Y ≤ 6561 ∧ Hid (Y = x / C ^ j) ∧ wr.ownsRow w5.heap.size 3 1 (.slice (some ⟨w5.heap.size, 0, none⟩) A A) A (vals (cTo A C x j)) ∧ Hid (Below w5.heap.size w5 wr)) (fun k _ _ => A - (intOf k).toNat)
          case atStart => exact ⟨0, x, by omega, rfl, rfl, by omega, Lib.hid (by simp), hown0, HBm⟩
          case round =>
            clear hown0 HBm
            obtain ⟨j, Y, hj, rfl, rfl, hY, hYx, hown, hbj⟩ := hrel
            by_cases hltj : j < A
            · obtain ⟨D, hD⟩ : ∃ D : Nat, D = Y % C := ⟨_, rfl⟩
              obtain ⟨Y2, hY2⟩ : ∃ Y2 : Nat, Y2 = Y / C := ⟨_, rfl⟩
              have d1 : (Y : Int).tmod (C : Int) = (D : Int) := by rw [hD]; rfl
              have d2 : (Y : Int) % (C : Int) = (D : Int) := by rw [hD]; norm_cast
              have q1 : (Y : Int).tdiv (C : Int) = (Y2 : Int) := by rw [hY2]; rfl
              have q2 : (Y : Int) / (C : Int) = (Y2 : Int) := by rw [hY2]; norm_cast
              have hY2b : Y2 ≤ 6561 := by rw [hY2]; exact Nat.le_trans (Nat.div_le_self _ _) hY
              have HY2 : Hid (Y2 = x / C ^ (j + 1)) := Lib.hid (by rw [hY2, hYx.out, Nat.div_div_eq_div_mul, Nat.pow_succ])
              have hmf := hown.frozenAt j
              obtain ⟨u, hu⟩ : ∃ u : Value, wr.cell? ⟨w5.heap.size, j, none⟩ = some u := by
                have hl : j < (vals (cTo A C x j)).length := by rw [vals_length, cTo_length]; exact hltj
                exact ⟨_, (hown.cellAt j (by omega)).trans (List.getElem?_eq_getElem hl)⟩
              have hst := (hown.stored j (.int .i64 (D : Int))).1
              rw [show (D : Int) = ((x / C ^ j % C : Nat) : Int) by rw [hD, hYx.out], cTo_set, ← show (D : Int) = ((x / C ^ j % C : Nat) : Int) by rw [hD, hYx.out]] at hst
              have HST : Hid _ := Lib.hid hst
              have HB2j : Hid (Below w5.heap.size w5 (wr.setCell ⟨w5.heap.size, j, none⟩ (.int .i64 (D : Int)))) := Lib.hid (hbj.out.setCell (p := ⟨w5.heap.size, j, none⟩) (Nat.le_refl _) _)
              clear hst hD hY2 hown hYx
              go_wp2
              go_quiet (fail)
              go_wp2
              go_roundw
              case rel => exact ⟨j + 1, Y2, by omega, by go_num, rfl, hY2b, HY2, ownsRow_drew HST.out rfl, Lib.hid (below_drewN HB2j.out _)⟩
              case measure => simp [intOf]; omega
            · obtain rfl : A = j := by omega
              obtain ⟨w6, hw6⟩ : ∃ w6 : World, w6 = wr := ⟨_, rfl⟩
              subst hw6
              obtain ⟨cs, hcs⟩ : ∃ cs : List Int, cs = cellsV A C x := ⟨_, rfl⟩
              rw [cTo_all, ← hcs] at hown
              have HCL : Hid (cs.length = A) := Lib.hid (by rw [hcs]; exact cellsV_length _ _ _)
              have HCS : Hid _ := Lib.hid hcs
              have HB6 : Hid (Below w.heap.size w w6) := Lib.hid (hbx.out.trans (hbj.out.mono hbx.out.size))
              have HCC : Hid (∀ j, j < A → ∀ W', Below w6.heap.size w6 W' → W'.cell? ⟨w5.heap.size, j, none⟩ = some (.int .i64 (cs[j]?.getD 0))) := Lib.hid (fun j hj W' hb => by
                have h := hown.cellAt j (by omega)
                rw [vals_at _ _ (by rw [HCL.out]; exact hj)] at h
                rw [← h]
                exact hb.cell (p := ⟨w5.heap.size, j, none⟩) (World.block_lt_of_cell? _ _ h))
              clear hown hbj hbx hcs hYx
              go_wp2_with fail
              go_at_call 24; refine (turned (HS.out _)).mono ?_; rintro e w' ⟨rfl, rfl⟩
              go_wp2_with fail
              go_loopw [17, 103] (fun l i wr => ∃ s : Nat, s ≤ n ∧ i = .int .i64 (s : Int) ∧ l = .bool (leastTo W H cs s) ∧ Hid (Below w6.heap.size w6 wr)) (fun _ i _ => n - (intOf i).toNat)
              case atStart => exact ⟨0, by omega, rfl, rfl, Lib.hid (Below.refl _ _)⟩
              case round =>
                obtain ⟨s, hs, rfl, rfl, hbs⟩ := hrel
                obtain ⟨w7, hw7⟩ : ∃ w7 : World, w7 = wr := ⟨_, rfl⟩
                subst hw7
                by_cases hlts : s < n
                · go_wp2_with (at_make; refine wpList_make_full _ rfl _ _ 29 rfl w7.heap.size 3 i0 (.int .i64 0) 1 Try.underlying29 hi hz0 hz1 .i64 .i64 A A A rfl rfl rfl rfl (by rw [hz2]; omega) (by unfold maxLen; omega) (Nat.le_refl _) ?_; intro wn hownn hgrown)
                  have hown1 : wn.ownsRow w7.heap.size 3 1 (.slice (some ⟨w7.heap.size, 0, none⟩) A A) A (vals (appTo W H s cs 0)) := by
                    rw [HZ.out, ← toList_madeCells_one]; rw [Nat.mul_one] at hownn; exact hownn
                  have HBn : Hid (Below w7.heap.size w7 wn) := Lib.hid ((Below.refl _ w7).grown hgrown (Nat.le_refl _) (fun k e => by cases e))
                  clear hownn hgrown
                  go_loopw [111] (fun i wr => ∃ q : Nat, q ≤ A ∧ i = .int .i64 (q : Int) ∧ wr.ownsRow w7.heap.size 3 1 (.slice (some ⟨w7.heap.size, 0, none⟩) A A) A (vals (appTo W H s cs q)) ∧ Hid (Below w7.heap.size w7 wr)) (fun i _ => A - (intOf i).toNat)
                  case atStart => exact ⟨0, by omega, rfl, hown1, HBn⟩
                  case round =>
                    clear hown1 HBn
                    obtain ⟨q, hq, rfl, hown, hbq⟩ := hrel
                    by_cases hltq : q < A
                    · have hc1 := HCC.out q hltq wr (hbs.out.trans (hbq.out.mono hbs.out.size))
                      obtain ⟨v, hv⟩ : ∃ v : Int, v = cs[q]?.getD 0 := ⟨_, rfl⟩
                      rw [← hv] at hc1
                      have HST : Hid ((vals (appTo W H s cs q)).set (mv W H s q) (.int .i64 v) = vals (appTo W H s cs (q + 1))) := Lib.hid (by rw [hv]; exact HT.out cs s q hlts hltq)
                      have HLk : Hid _ := Lib.hid (HL.out cs s q)
                      clear hv
                      go_wp2_with fail
                      go_at_call 26; refine (HM.out s q _ hlts hltq).mono ?_; rintro e w8 ⟨⟨rfl, hmv⟩, d, hw8⟩
                      have hown2 := ownsRow_drew hown hw8
                      have hb8 : Hid (Below w7.heap.size w7 w8) := Lib.hid (hbq.out.trans ((below_of_drew hw8).mono hbq.out.size))
                      obtain ⟨m, hmm⟩ : ∃ m : Nat, m = mv W H s q := ⟨_, rfl⟩
                      rw [← hmm] at hmv ⊢
                      have hmf := hown2.frozenAt m
                      obtain ⟨y, hy⟩ : ∃ y : Value, w8.cell? ⟨w7.heap.size, m, none⟩ = some y := by
                        have hl : m < (vals (appTo W H s cs q)).length := by rw [HLk.out]; exact hmv
                        exact ⟨_, (hown2.cellAt m (by omega)).trans (List.getElem?_eq_getElem hl)⟩
                      have hst := (hown2.stored m (.int .i64 v)).1
                      rw [hmm, HST.out, ← hmm] at hst
                      have HST2 : Hid _ := Lib.hid hst
                      clear hst hmm hown hown2 hw8 hbq
                      go_wp2_with fail
                      go_roundw
                      case rel => exact ⟨q + 1, by omega, by go_num, HST2.out, Lib.hid (hb8.out.setCell (p := ⟨w7.heap.size, m, none⟩) (Nat.le_refl _) _)⟩
                      case measure => simp [intOf]; omega
                    · obtain rfl : A = q := by omega
                      obtain ⟨w9, hw9⟩ : ∃ w9 : World, w9 = wr := ⟨_, rfl⟩
                      subst hw9
                      have HB9 : Hid (Below w6.heap.size w6 w9) := Lib.hid (hbs.out.trans (hbq.out.mono hbs.out.size))
                      have HMC : Hid (∀ j, j < A → ∀ W', Below w9.heap.size w9 W' → W'.cell? ⟨w7.heap.size, j, none⟩ = some (.int .i64 ((app W H s cs)[j]?.getD 0))) := Lib.hid (fun j hj W' hb => by
                        have h := hown.cellAt j (by omega)
                        rw [vals_at _ _ (by have := HL.out cs s A; rw [vals_length] at this; omega)] at h
                        rw [HE.out, ← h]
                        exact hb.cell (p := ⟨w7.heap.size, j, none⟩) (World.block_lt_of_cell? _ _ h))
                      have HSU : Hid _ := Lib.hid (leastTo_succ W H cs s)
                      clear hown hbq hbs
                      go_wp2_with fail
                      go_loopw [17, 127] (fun l i wr => ∃ j : Nat, j ≤ A ∧ i = .int .i64 (j : Int) ∧ l = .bool (leastTo W H cs s) ∧ Hid (ltL ((app W H s cs).drop j) (cs.drop j) = ltL (app W H s cs) cs) ∧ Hid (Below w9.heap.size w9 wr)) (fun _ i _ => A - (intOf i).toNat)
                      case atStart => exact ⟨0, by omega, rfl, rfl, Lib.hid rfl, Lib.hid (Below.refl _ _)⟩
                      case round =>
                        obtain ⟨j, hj, rfl, rfl, hlj, hbj⟩ := hrel
                        by_cases hltj : j < A
                        · have e1 := HMC.out j hltj wr hbj.out
                          have e2 := HCC.out j hltj wr (HB9.out.trans (hbj.out.mono HB9.out.size))
                          have hrr := hlj.out
                          rw [drop_at' _ j (by rw [HP.out]; exact hltj), drop_at' cs j (by rw [HCL.out]; exact hltj), ltL] at hrr
                          generalize (app W H s cs)[j]?.getD 0 = a at e1 hrr
                          generalize cs[j]?.getD 0 = b at e2 hrr
                          clear hlj
                          by_cases hab : a = b
                          · subst hab
                            rw [if_pos rfl] at hrr
                            have HR : Hid _ := Lib.hid hrr
                            clear hrr
                            go_wp2
                            go_quiet (fail)
                            go_wp2
                            go_roundw
                            case rel => exact ⟨j + 1, by omega, by go_num, rfl, HR, Lib.hid (below_drewN hbj.out _)⟩
                            case measure => simp [intOf]; omega
                          · rw [if_neg hab] at hrr
                            have hne : (a != b) = true := by simpa using hab
                            have HR : Hid _ := Lib.hid hrr
                            cases hb : leastTo W H cs s
                            · have HK : Hid (leastTo W H cs (s + 1) = false) := Lib.hid (by rw [HSU.out, hb]; rfl)
                              clear hb hrr hab
                              go_wp2
                              go_quiet (fail)
                              go_wp2
                              go_quiet (fail)
                              go_wp2
                              go_roundw
                              case rel => exact ⟨s + 1, by omega, by go_num, by rw [HK.out], Lib.hid (HB9.out.trans ((below_drewN hbj.out _).mono HB9.out.size))⟩
                              case measure => simp [intOf]; omega
                            · by_cases hlt2 : a < b
                              · have HK : Hid (leastTo W H cs (s + 1) = false) := Lib.hid (by rw [HSU.out, hb, ← HR.out, decide_eq_true hlt2]; rfl)
                                have hd : decide (b < a) = false := decide_eq_false (by omega)
                                clear hb hrr hab
                                go_wp2
                                go_quiet (fail)
                                go_wp2
                                go_quiet (fail)
                                go_wp2
                                go_roundw
                                case rel => exact ⟨s + 1, by omega, by go_num, by rw [HK.out], Lib.hid (HB9.out.trans ((below_drewN hbj.out _).mono HB9.out.size))⟩
                                case measure => simp [intOf]; omega
                              · have HK : Hid (leastTo W H cs (s + 1) = true) := Lib.hid (by rw [HSU.out, hb, ← HR.out, decide_eq_false hlt2]; rfl)
                                have hd : decide (b < a) = true := decide_eq_true (by omega)
                                clear hb hrr hab
                                go_wp2
                                go_quiet (fail)
                                go_wp2
                                go_quiet (fail)
                                go_wp2
                                go_roundw
                                case rel => exact ⟨s + 1, by omega, by go_num, by rw [HK.out], Lib.hid (HB9.out.trans ((below_drewN hbj.out _).mono HB9.out.size))⟩
                                case measure => simp [intOf]; omega
                        · have HK : Hid (leastTo W H cs (s + 1) = leastTo W H cs s) := Lib.hid (by
                            have h := hlj.out
                            rw [List.drop_eq_nil_of_le (by rw [HP.out]; omega), ltL_nil'] at h
                            rw [HSU.out, ← h]; simp)
                          go_wp2
                          go_roundw
                          case rel => exact ⟨s + 1, by omega, by go_num, by rw [HK.out], Lib.hid (HB9.out.trans (hbj.out.mono HB9.out.size))⟩
                          case measure => simp [intOf]; omega
                · obtain rfl : n = s := by omega
                  have HBE : Hid (Below w.heap.size w w7) := Lib.hid (HB6.out.trans (hbs.out.mono HB6.out.size))
                  cases hb : leastTo W H cs n
                  · have HK : Hid (wantTo W H C (x + 1) = wantTo W H C x) := Lib.hid (by rw [HWX.out, ← HCS.out, hb]; rfl)
                    clear hb
                    go_wp2_with fail
                    go_roundw
                    case rel => exact ⟨x + 1, by omega, by go_num, by rw [HK.out], HBE⟩
                    case measure => simp [intOf]; omega
                  · have HK : Hid ((wantTo W H C x : Int) + 1 = (wantTo W H C (x + 1) : Int)) := Lib.hid (by rw [HWX.out, ← HCS.out, hb, if_pos rfl]; norm_cast)
                    clear hb
                    go_wp2_with fail
                    go_roundw
                    case rel => exact ⟨x + 1, by omega, by go_num, by rw [HK.out], HBE⟩
                    case measure => simp [intOf]; omega
        · obtain rfl : ALL = x := by omega
          have hww : ((wantTo W H C ALL : Int) == (wantTo W H C ALL : Int)) = true := by simp
          go_wp2_with fail
          go_ret
          exact ⟨rfl, hbx.out⟩
theorem coloursLaw_full (a b c : Int) (w : World) :
    Calls Try.prog 9 #[.int .i64 a, .int .i64 b, .int .i64 c] w fun e w' => e = .returned (.bool true) ∧ Below w.heap.size w w' := by
  by_cases h : IsB a b
  · obtain ⟨W, H, rfl, rfl, B⟩ := h.nat
    by_cases hc : 0 ≤ c ∧ c ≤ 16
    · obtain ⟨C, rfl⟩ : ∃ C : Nat, c = (C : Int) := ⟨c.toNat, by omega⟩
      by_cases hs : 8 < W * H ∨ 3 < C
      · exact coloursLaw_big W H B C w (by omega) hs
      · exact coloursLaw_small W H B C w (by omega) (by omega)
    · exact coloursLaw_arg W H B c w hc
  · exact coloursLaw_no a b c w h
end Go.Proofs.Ytfmpoebkhkambaa
