/- place.Check: the first thing that is wrong with a position. -/
import Derived.Test.YthbilpgecombiaaPlc
set_option maxRecDepth 100000
namespace Go.Proofs.Ythbilpgecombiaa
open Go.ChangeShapes Go.WideShapes Go.ChangeAt Go.RowKit

theorem pWithin_any (x m : Int) (w : World) :
    Calls Try.prog 56 #[.int .i64 x, .int .i64 m] w fun e w' => e = .returned (.bool (inN m x)) ∧ w' = w := by
  unfold inN inB
  go_enter Try.func56, Try.ntmps56
  go_wp2
  all_goals
    go_ret
    refine ⟨ret_bool ?_, rfl⟩
    first | (simp_all; done) | (simp_all; omega)
theorem pNot_any (x m : Int) (b : Addr) (w : World) (hb : w.cell? b = some (.int .i64 m)) :
    Calls Try.prog 81 #[.int .i64 x, .pointer (some b)] w fun e w' => e = .returned (.bool (!inN m x)) ∧ w' = w := by
  go_enter Try.func81, Try.ntmps81
  go_wp2_with fail
  go_at_call 56; refine (turned (pWithin_any _ _ _)).mono ?_; rintro e w' ⟨rfl, rfl⟩
  go_wp2_with fail
  go_ret
  exact ⟨rfl, rfl⟩
set_option maxHeartbeats 1000000 in
theorem indexP (xs : List Int) (m : Int) (v : Value) (b : Addr) (w : World) (hv : IsSl IntAt 1 w v xs) (hl : xs.length ≤ 100) (hb : w.cell? b = some (.int .i64 m)) :
    Calls Try.prog 95 #[v, .func (.func 81) #[] #[.pointer (some b)]] w (IdxPost (xs.any fun x => !inN m x) w) := by
  obtain ⟨n, hn⟩ : ∃ n : Nat, n = xs.length := ⟨_, rfl⟩
  obtain ⟨a, cp, rfl, _, hcell⟩ := hv.shape hn
  obtain ⟨p, hp⟩ : ∃ p : Int → Bool, p = fun x => !inN m x := ⟨_, rfl⟩
  have HN : Hid _ := Lib.hid hn
  have HC : Hid _ := Lib.hid hcell
  have HP : Hid (∀ x W', Below w.heap.size w W' → Calls Try.prog 81 #[.int .i64 x, .pointer (some b)] W' fun e w2 => e = .returned (.bool (p x)) ∧ W' = w2) := Lib.hid (fun x W' h => by
    rw [hp]; exact turned (pNot_any x m b W' (cell_keeps h (Nat.le_refl _) hb)))
  rw [← hn] at hl
  rw [← hp]
  clear hcell hn hv hp hb
  go_enter Try.func95, Try.ntmps95
  go_wp2
  go_loopw [8] (fun i wr => ∃ k : Nat, k ≤ n ∧ i = .int .i64 (k : Int) ∧ Hid ((xs.take k).any p = false) ∧ Hid (Below w.heap.size w wr)) (fun i _ => n - (intOf i).toNat)
  case atStart => exact ⟨0, by omega, rfl, Lib.hid rfl, Lib.hid (Below.refl _ _)⟩
  case round =>
    obtain ⟨k, hk, rfl, hall, hbel⟩ := hrel
    by_cases hlt : k < n
    · obtain ⟨g, off, x, rfl, hx, hq⟩ := HC.out k hlt
      have c0 : wr.cell? ⟨g, off + k, none⟩ = some (.int .i64 x) := by
        have h := int_keeps _ _ _ _ _ _ hbel.out (Nat.le_refl _) hq
        rw [Nat.mul_one] at h; exact h
      have HX : Hid _ := Lib.hid hx
      have HQ : Hid _ := Lib.hid (HP.out x wr hbel.out)
      clear hq hx HC HP
      cases hpx : p x
      · rw [hpx] at HQ
        have KP : Hid _ := Lib.hid hpx
        clear hpx
        go_wp2_with fail
        go_at_call 81; refine HQ.out.mono ?_; rintro e w2 ⟨rfl, rfl⟩
        go_wp2_with fail
        go_roundw
        case rel => exact ⟨k + 1, by omega, by go_num, Lib.hid (any_step HX.out hall.out KP.out), hbel⟩
        case measure => simp [intOf]; omega
      · rw [hpx] at HQ
        have KP : Hid (decide ((0 : Int) ≤ (k : Int)) = xs.any p) := Lib.hid (by rw [any_yes HX.out hpx]; simp)
        clear hpx
        go_wp2_with fail
        go_at_call 81; refine HQ.out.mono ?_; rintro e w2 ⟨rfl, rfl⟩
        go_wp2_with fail
        go_ret
        exact ⟨_, rfl, KP.out, hbel.out⟩
    · have KP : Hid (decide ((0 : Int) ≤ -1) = xs.any p) := Lib.hid (by
        have h := hall.out
        rw [List.take_of_length_le (by have := HN.out; omega)] at h
        rw [h]; decide)
      go_wp2_with fail
      go_ret
      exact ⟨_, rfl, KP.out, hbel.out⟩
theorem containsP (xs : List Int) (m : Int) (v : Value) (b : Addr) (w : World) (hv : IsSl IntAt 1 w v xs) (hl : xs.length ≤ 100) (hb : w.cell? b = some (.int .i64 m)) :
    Calls Try.prog 80 #[v, .func (.func 81) #[] #[.pointer (some b)]] w (BelPost (.bool (xs.any fun x => !inN m x)) w) := by
  have HI : Hid _ := Lib.hid (indexP xs m v b w hv hl hb)
  clear hv hb
  go_enter Try.func80, Try.ntmps80
  go_wp2_with fail
  go_at_call 95; refine HI.out.mono ?_; rintro e w' ⟨r, rfl, hr, hb⟩
  have KR : Hid _ := Lib.hid hr
  have HB : Hid _ := Lib.hid hb
  clear hr hb
  go_wp2_with fail
  go_ret
  exact ⟨ret_bool KR.out, HB.out⟩
theorem allWithin_any (xs : List Int) (m : Int) (v : Value) (w : World) (hv : IsSl IntAt 1 w v xs) (hl : xs.length ≤ 100) :
    Calls Try.prog 55 #[v, .int .i64 m] w (BelPost (.bool (xs.all (inN m))) w) := by
  have K : Hid ((!xs.any fun x => !inN m x) = xs.all (inN m)) := Lib.hid (by rw [List.all_eq_not_any_not])
  have HA : Hid (∀ W1, Below w.heap.size w W1 → IsSl IntAt 1 W1 v xs) := Lib.hid (fun W1 h => hv.below int_keeps h (Nat.le_refl _))
  clear hv
  go_enter Try.func55, Try.ntmps55
  go_wp2_with fail
  go_at_call 80
  refine (containsP xs m v _ _ (HA.out _ ((Below.refl w.heap.size w).alloc (Nat.le_refl _) _)) hl (by simp)).mono ?_
  rintro e w2 ⟨rfl, hb2⟩
  have HB : Hid (Below w.heap.size w w2) := Lib.hid (((Below.refl _ _).alloc (Nat.le_refl _) _).trans (hb2.mono (by simp)))
  clear hb2
  go_wp2_with fail
  go_ret
  exact ⟨ret_bool K.out, HB.out⟩

/-! ### Form and range -/
set_option maxHeartbeats 2000000 in
theorem hasForm_any (r : RulesD) (p : PlaceD) (vp vs ve vc v0 v1 : Value) (w : World) (hr : IsRules w r vp vs ve) (hp : PlaceIn w p vc v0 v1) (hz : rulesE r = 0) :
    Calls Try.prog 31 #[RulesV r vp vs ve, PlaceV p vc v0 v1] w (BelPost (.bool (formB r p)) w) := by
  obtain ⟨n, hn⟩ : ∃ n : Nat, n = r.pieces.length := ⟨_, rfl⟩
  obtain ⟨m, hm⟩ : ∃ m : Nat, m = p.cells.length := ⟨_, rfl⟩
  obtain ⟨k0, hk0⟩ : ∃ m : Nat, m = p.h0.length := ⟨_, rfl⟩
  obtain ⟨k1, hk1⟩ : ∃ m : Nat, m = p.h1.length := ⟨_, rfl⟩
  obtain ⟨A, hA⟩ : ∃ A : Int, A = r.width * r.height := ⟨_, rfl⟩
  obtain ⟨_, hw, hh, _⟩ := rulesE_ok hz
  rw [inB_iff] at hw hh
  have hA1 : 1 ≤ A := by rw [hA]; have := Int.mul_le_mul hw.1 hh.1 (by omega) (by omega); simpa using this
  have hA2 : A ≤ 64 := by rw [hA]; have := Int.mul_le_mul hw.2 hh.2 (by omega) (by omega); simpa using this
  have HF : Hid (formB r p = (decide ((m : Int) = A) && (decide (k0 = n) && decide (k1 = n)))) := Lib.hid (by rw [formB, hm, hk0, hk1, hn, hA])
  have hmul : r.width * r.height = A := hA.symm
  obtain ⟨ap, cp, rfl, _, _⟩ := hr.1.shape hn
  obtain ⟨ca, cc, rfl, _, _⟩ := hp.c.shape hm
  obtain ⟨a0, c0, rfl, _, _⟩ := hp.a.shape hk0
  obtain ⟨a1, c1, rfl, _, _⟩ := hp.b.shape hk1
  obtain ⟨hw1, hw2⟩ := hw
  obtain ⟨hh1, hh2⟩ := hh
  have hB : Below w.heap.size w ((w.alloc (.cells (RulesCells r (.slice ap n cp) vs ve) 26)).alloc (.cells (PlaceCells p (.slice ca m cc) (.slice a0 k0 c0) (.slice a1 k1 c1)) 29)) := ((Below.refl _ _).alloc (Nat.le_refl _) _).alloc (by simp) _
  have HB : Hid _ := Lib.hid hB
  have hn6 : n ≤ 9223372036854775807 := by rw [hn]; exact hr.1.fit
  have hm6 : m ≤ 9223372036854775807 := by rw [hm]; exact hp.c.fit
  have hk06 : k0 ≤ 9223372036854775807 := by rw [hk0]; exact hp.a.fit
  have hk16 : k1 ≤ 9223372036854775807 := by rw [hk1]; exact hp.b.fit
  unfold RulesCells PlaceCells at HB
  unfold RulesV PlaceV PlaceCells
  clear hr hp hn hm hk0 hk1 hA hz hB
  by_cases h1 : (m : Int) = A
  · have e1 : ((m : Int) == A) = true := by simpa using h1
    by_cases h2 : k0 = n
    · have e2 : ((k0 : Int) == (n : Int)) = true := beq_iff_eq.2 (by omega)
      by_cases h3 : k1 = n
      · have e3 : ((k1 : Int) == (n : Int)) = true := beq_iff_eq.2 (by omega)
        have K : Hid (true = formB r p) := Lib.hid (by rw [HF.out]; simp [h1, h2, h3])
        clear h1 h2 h3 HF
        go_enter Try.func31, Try.ntmps31
        go_wp2_with fail
        go_ret
        exact ⟨ret_bool K.out, HB.out⟩
      · have e3 : ((k1 : Int) == (n : Int)) = false := by simpa using (by omega : ¬ (k1 : Int) = n)
        have K : Hid (false = formB r p) := Lib.hid (by rw [HF.out]; simp [h3])
        clear h1 h2 h3 HF
        go_enter Try.func31, Try.ntmps31
        go_wp2_with fail
        go_ret
        exact ⟨ret_bool K.out, HB.out⟩
    · have e2 : ((k0 : Int) == (n : Int)) = false := by simpa using (by omega : ¬ (k0 : Int) = n)
      have K : Hid (false = formB r p) := Lib.hid (by rw [HF.out]; simp [h2])
      clear h1 h2 HF
      go_enter Try.func31, Try.ntmps31
      go_wp2_with fail
      go_ret
      exact ⟨ret_bool K.out, HB.out⟩
  · have e1 : ((m : Int) == A) = false := by simpa using h1
    have K : Hid (false = formB r p) := Lib.hid (by rw [HF.out]; simp [h1])
    clear h1 HF
    go_enter Try.func31, Try.ntmps31
    go_wp2_with fail
    go_ret
    exact ⟨ret_bool K.out, HB.out⟩
set_option maxHeartbeats 4000000 in
theorem isInRange_any (r : RulesD) (p : PlaceD) (vp vs ve vc v0 v1 : Value) (w : World) (hr : IsRules w r vp vs ve) (hp : PlaceIn w p vc v0 v1) (hz : rulesE r = 0) (hf : formB r p = true) :
    Calls Try.prog 32 #[RulesV r vp vs ve, PlaceV p vc v0 v1] w (BelPost (.bool (rangeB r p)) w) := by
  obtain ⟨n, hn⟩ : ∃ n : Nat, n = r.pieces.length := ⟨_, rfl⟩
  obtain ⟨_, hw, hh, hps, _⟩ := rulesE_ok hz
  have hn6 : n ≤ 6 := by rw [hn]; exact (piecesE_ok hps).2
  rw [inB_iff] at hw hh
  simp only [formB, Bool.and_eq_true, decide_eq_true_eq] at hf
  obtain ⟨f0, f1, f2⟩ := hf
  have hA2 : r.width * r.height ≤ 64 := by have := Int.mul_le_mul hw.2 hh.2 (by omega) (by omega); simpa using this
  obtain ⟨b0, hb0⟩ : ∃ b, b = p.cells.all (inN (2 * (n : Int))) := ⟨_, rfl⟩
  obtain ⟨b1, hb1⟩ : ∃ b, b = p.h0.all (inN 1000) := ⟨_, rfl⟩
  obtain ⟨b2, hb2⟩ : ∃ b, b = p.h1.all (inN 1000) := ⟨_, rfl⟩
  have HF : Hid (rangeB r p = (b0 && (b1 && (b2 && (inN 1 p.turn && inN 200 p.quiet))))) := Lib.hid (by rw [rangeB, hb0, hb1, hb2, hn]; rfl)
  have C0 : Hid (∀ W, Below w.heap.size w W → Calls Try.prog 55 #[vc, .int .i64 (2 * (n : Int))] W (BelPost (.bool b0) W)) := Lib.hid (fun W h => by rw [hb0]; exact allWithin_any _ _ _ _ (hp.c.below int_keeps h (Nat.le_refl _)) (by omega))
  have C1 : Hid (∀ W, Below w.heap.size w W → Calls Try.prog 55 #[v0, .int .i64 1000] W (BelPost (.bool b1) W)) := Lib.hid (fun W h => by rw [hb1]; exact allWithin_any _ _ _ _ (hp.a.below int_keeps h (Nat.le_refl _)) (by omega))
  have C2 : Hid (∀ W, Below w.heap.size w W → Calls Try.prog 55 #[v1, .int .i64 1000] W (BelPost (.bool b2) W)) := Lib.hid (fun W h => by rw [hb2]; exact allWithin_any _ _ _ _ (hp.b.below int_keeps h (Nat.le_refl _)) (by omega))
  obtain ⟨ap, cp, rfl, _, _⟩ := hr.1.shape hn
  have hB : Below w.heap.size w ((w.alloc (.cells (RulesCells r (.slice ap n cp) vs ve) 26)).alloc (.cells (PlaceCells p vc v0 v1) 29)) := ((Below.refl _ _).alloc (Nat.le_refl _) _).alloc (by simp) _
  have HB : Hid _ := Lib.hid hB
  have hX : BoxP ((w.alloc (.cells (RulesCells r (.slice ap n cp) vs ve) 26)).alloc (.cells (PlaceCells p vc v0 v1) 29)) (w.heap.size + 1) p vc v0 v1 := by
    have h := boxP_new (w.alloc (.cells (RulesCells r (.slice ap n cp) vs ve) 26)) p vc v0 v1 29
    rwa [World.size_alloc] at h
  have HX : Hid _ := Lib.hid hX
  unfold RulesCells PlaceCells at HB HX
  unfold RulesV PlaceV PlaceCells
  clear hr hp hn hb0 hb1 hb2 hw hh hps f0 f1 f2 hA2 hB hX hz
  go_enter Try.func32, Try.ntmps32
  go_wp2_with fail
  go_at_call 55; refine (C0.out _ HB.out).mono ?_; rintro e w1 ⟨rfl, hb⟩
  have HB1 := Lib.hid (HB.out.trans (hb.mono HB.out.size))
  have HX1 := Lib.hid (HX.out.below hb (Nat.le_refl _))
  clear hb HB HX C0
  cases b0
  · have K : Hid (false = rangeB r p) := Lib.hid (by rw [HF.out]; rfl)
    go_wp2_with fail
    go_ret
    exact ⟨ret_bool K.out, HB1.out⟩
  · obtain ⟨x0, x1, x2, x3, x4⟩ := HX1.out
    go_wp2_with fail
    go_at_call 55; refine (C1.out _ HB1.out).mono ?_; rintro e w2 ⟨rfl, hb⟩
    have HB2 := Lib.hid (HB1.out.trans (hb.mono HB1.out.size))
    have HX2 := Lib.hid (HX1.out.below hb (Nat.le_refl _))
    clear hb HB1 HX1 C1 x0 x1 x2 x3 x4
    cases b1
    · have K : Hid (false = rangeB r p) := Lib.hid (by rw [HF.out]; rfl)
      go_wp2_with fail
      go_ret
      exact ⟨ret_bool K.out, HB2.out⟩
    · obtain ⟨x0, x1, x2, x3, x4⟩ := HX2.out
      go_wp2_with fail
      go_at_call 55; refine (C2.out _ HB2.out).mono ?_; rintro e w3 ⟨rfl, hb⟩
      have HB3 := Lib.hid (HB2.out.trans (hb.mono HB2.out.size))
      have HX3 := Lib.hid (HX2.out.below hb (Nat.le_refl _))
      clear hb HB2 HX2 C2 x0 x1 x2 x3 x4
      cases b2
      · have K : Hid (false = rangeB r p) := Lib.hid (by rw [HF.out]; rfl)
        go_wp2_with fail
        go_ret
        exact ⟨ret_bool K.out, HB3.out⟩
      · obtain ⟨x0, x1, x2, x3, x4⟩ := HX3.out
        obtain ⟨b3, hb3⟩ : ∃ b, b = inN 1 p.turn := ⟨_, rfl⟩
        obtain ⟨b4, hb4⟩ : ∃ b, b = inN 200 p.quiet := ⟨_, rfl⟩
        rw [← hb3, ← hb4] at HF
        have C3 : Hid (∀ W, Calls Try.prog 56 #[.int .i64 p.turn, .int .i64 1] W fun e w' => e = .returned (.bool b3) ∧ W = w') := Lib.hid (fun W => by rw [hb3]; exact turned (pWithin_any _ _ _))
        have C4 : Hid (∀ W, Calls Try.prog 56 #[.int .i64 p.quiet, .int .i64 200] W fun e w' => e = .returned (.bool b4) ∧ W = w') := Lib.hid (fun W => by rw [hb4]; exact turned (pWithin_any _ _ _))
        clear hb3 hb4
        go_wp2_with fail
        go_at_call 56; refine (C3.out _).mono ?_; rintro e w' ⟨rfl, rfl⟩
        cases b3
        · have K : Hid (false = rangeB r p) := Lib.hid (by rw [HF.out]; rfl)
          go_wp2_with fail
          go_ret
          exact ⟨ret_bool K.out, HB3.out⟩
        · go_wp2_with fail
          go_at_call 56; refine (C4.out _).mono ?_; rintro e w' ⟨rfl, rfl⟩
          have K : Hid (b4 = rangeB r p) := Lib.hid (by rw [HF.out]; cases b4 <;> rfl)
          go_wp2_with fail
          go_ret
          exact ⟨ret_bool K.out, HB3.out⟩

set_option maxHeartbeats 4000000 in
theorem pcheck_any (r : RulesD) (p : PlaceD) (vp vs ve vc v0 v1 : Value) (w : World) (hr : RulesIn w r vp vs ve) (hp : PlaceIn w p vc v0 v1) :
    Calls Try.prog 9 #[RulesV r vp vs ve, PlaceV p vc v0 v1] w (BelPost (.int .i64 (placeE r p)) w) := by
  obtain ⟨c, hc⟩ : ∃ c : Int, c = rulesE r := ⟨_, rfl⟩
  have HCK : Hid (∀ W, Below w.heap.size w W → Calls Try.prog 30 #[RulesV r vp vs ve] W (BelPost (.int .i64 c) W)) := Lib.hid (fun W h => by rw [hc]; exact check_any r vp vs ve W (hr.below h (Nat.le_refl _)))
  have HFM : Hid (c = 0 → ∀ W, Below w.heap.size w W → Calls Try.prog 31 #[RulesV r vp vs ve, PlaceV p vc v0 v1] W (BelPost (.bool (formB r p)) W)) := Lib.hid (fun h0 W h => hasForm_any r p vp vs ve vc v0 v1 W (hr.1.below h (Nat.le_refl _)) (hp.below h (Nat.le_refl _)) (by rw [← hc]; exact h0))
  have HRG : Hid (c = 0 → formB r p = true → ∀ W, Below w.heap.size w W → Calls Try.prog 32 #[RulesV r vp vs ve, PlaceV p vc v0 v1] W (BelPost (.bool (rangeB r p)) W)) := Lib.hid (fun h0 h1 W h => isInRange_any r p vp vs ve vc v0 v1 W (hr.1.below h (Nat.le_refl _)) (hp.below h (Nat.le_refl _)) (by rw [← hc]; exact h0) h1)
  have HC := Lib.hid hc
  have hB : Below w.heap.size w ((w.alloc (.cells (RulesCells r vp vs ve) 26)).alloc (.cells (PlaceCells p vc v0 v1) 29)) := ((Below.refl _ _).alloc (Nat.le_refl _) _).alloc (by simp) _
  have HB : Hid _ := Lib.hid hB
  have hX : BoxP ((w.alloc (.cells (RulesCells r vp vs ve) 26)).alloc (.cells (PlaceCells p vc v0 v1) 29)) (w.heap.size + 1) p vc v0 v1 := by
    have h := boxP_new (w.alloc (.cells (RulesCells r vp vs ve) 26)) p vc v0 v1 29
    rwa [World.size_alloc] at h
  have HX : Hid _ := Lib.hid hX
  have hY : BoxR ((w.alloc (.cells (RulesCells r vp vs ve) 26)).alloc (.cells (PlaceCells p vc v0 v1) 29)) w.heap.size r vp vs ve :=
    (boxR_new w r vp vs ve 26).below ((Below.refl _ _).alloc (Nat.le_refl _) _) (Nat.le_refl _)
  have HY : Hid _ := Lib.hid hY
  unfold RulesCells PlaceCells at HB HX HY
  unfold RulesV at HCK HFM HRG ⊢
  unfold PlaceV PlaceCells at HFM HRG ⊢
  clear hr hp hc hB hX hY
  go_enter Try.func9, Try.ntmps9
  go_wp2_with fail
  go_at_call 30; refine (HCK.out _ HB.out).mono ?_; rintro e w1 ⟨rfl, hb⟩
  have HB1 := Lib.hid (HB.out.trans (hb.mono HB.out.size))
  have HX1 := Lib.hid (HX.out.below hb (Nat.le_refl _))
  have HY1 := Lib.hid (HY.out.below hb (Nat.le_refl _))
  clear hb HB HX HY HCK
  by_cases hz : c = 0
  · have HFM1 := Lib.hid (HFM.out hz)
    have HRG1 := Lib.hid (HRG.out hz)
    have HZ : Hid (rulesE r = 0) := Lib.hid (by rw [← HC.out]; exact hz)
    subst hz
    clear HFM HRG HC
    obtain ⟨x0, x1, x2, x3, x4⟩ := HX1.out
    obtain ⟨y0, y1, y2, y3, y4, y5, y6, y7, y8, y9, y10⟩ := HY1.out
    go_wp2_with fail
    go_at_call 31; refine (HFM1.out _ HB1.out).mono ?_; rintro e w2 ⟨rfl, hb⟩
    have HB2 := Lib.hid (HB1.out.trans (hb.mono HB1.out.size))
    have HX2 := Lib.hid (HX1.out.below hb (Nat.le_refl _))
    have HY2 := Lib.hid (HY1.out.below hb (Nat.le_refl _))
    clear hb HB1 HX1 HY1 HFM1 x0 x1 x2 x3 x4 y0 y1 y2 y3 y4 y5 y6 y7 y8 y9 y10
    cases hf : formB r p
    · have K : Hid ((3 : Int) = placeE r p) := Lib.hid (placeE_form HZ.out hf).symm
      clear hf
      go_wp2_with fail
      go_ret
      exact ⟨ret_i64 K.out, HB2.out⟩
    · have HRG2 := Lib.hid (HRG1.out hf)
      have HFF := Lib.hid hf
      clear hf HRG1
      obtain ⟨x0, x1, x2, x3, x4⟩ := HX2.out
      obtain ⟨y0, y1, y2, y3, y4, y5, y6, y7, y8, y9, y10⟩ := HY2.out
      go_wp2_with fail
      go_at_call 32; refine (HRG2.out _ HB2.out).mono ?_; rintro e w3 ⟨rfl, hb⟩
      have HB3 := Lib.hid (HB2.out.trans (hb.mono HB2.out.size))
      clear hb HB2 HX2 HY2 HRG2 x0 x1 x2 x3 x4 y0 y1 y2 y3 y4 y5 y6 y7 y8 y9 y10
      cases hg : rangeB r p
      · have K : Hid ((4 : Int) = placeE r p) := Lib.hid (placeE_range HZ.out HFF.out hg).symm
        clear hg
        go_wp2_with fail
        go_ret
        exact ⟨ret_i64 K.out, HB3.out⟩
      · have K : Hid ((0 : Int) = placeE r p) := Lib.hid (placeE_good HZ.out HFF.out hg).symm
        clear hg
        go_wp2_with fail
        go_ret
        exact ⟨ret_i64 K.out, HB3.out⟩
  · have K : Hid (c = placeE r p) := Lib.hid (by rw [placeE_rules (by rw [← HC.out]; exact hz), HC.out])
    have hne : (c != 0) = true := by simpa using hz
    clear hz HC
    go_wp2_with fail
    go_ret
    exact ⟨ret_i64 K.out, HB1.out⟩
end Go.Proofs.Ythbilpgecombiaa
