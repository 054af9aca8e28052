/- The law TopHash: two ways to the same cells, hands and turn have the same key. (Written by genlawth.py.) -/
import Derived.Test.YtiligppdfldlfaaGreatDoorBrdT
import Derived.Test.YtiligppdfldlfaaGreatDoorEndN
import Derived.Test.YtiligppdfldlfaaGreatDoorSomeM
import Derived.Test.YtiligppdfldlfaaGreatDoorOpnA
set_option maxRecDepth 100000
namespace Go.Proofs.YtiligppdfldlfaaGreatDoor
open Go.ChangeShapes Go.WideShapes Go.ChangeAt Go.RowKit

theorem bool_of_ne' {c : Int} (h : c ≠ 0) : (c != 0) = true := by simpa using h
theorem put2_legal' : legalB three9 nearD (-1, 2, 0) = true := by decide +kernel
theorem mix0_ne : mixZ 0 ≠ 0#64 := by decide +kernel
theorem same_near : sameB nearD nearD = true := by decide +kernel
theorem key_self' (K : BitVec 64) : ((K.toNat : Int) == (K.toNat : Int)) = true := by simp
theorem key_self2 (K : BitVec 64) : ((K.toNat : Int) != (K.toNat : Int)) = false := by simp
set_option maxHeartbeats 16000000 in
theorem topHash_full (r : RulesD) (vp vs ve : Value) (p : PlaceD) (vc v0 v1 : Value) (xs : List Int) (xv : Value) (ys : List Int) (yv : Value) (w : World) (hr : RulesIn w r vp vs ve) (hp : PlaceIn w p vc v0 v1) (hx : IsSl IntAt 1 w xv xs) (hy : IsSl IntAt 1 w yv ys) (hT : Dir w) :
    Calls Tryz.prog 6 #[RulesV r vp vs ve, PlaceV p vc v0 v1, xv, yv] w fun e w' => e = .returned (.bool true) ∧ Below w.heap.size w w' := by
  obtain ⟨V, hV⟩ : ∃ V, V = (w.alloc (.cells (RulesCells r vp vs ve) 26)).alloc (.cells (PlaceCells p vc v0 v1) 29) := ⟨_, rfl⟩
  obtain ⟨hB, hY, hX⟩ := rp_boxes w r p vp vs ve vc v0 v1
  rw [← hV] at hB hY hX
  have HB := Lib.hid hB
  have HIR : Hid (∀ W, Below V.heap.size V W → RulesIn W r vp vs ve) := Lib.hid (fun W h => (hr.below hB (Nat.le_refl _)).below h (Nat.le_refl _))
  have HIP : Hid (∀ W, Below V.heap.size V W → PlaceIn W p vc v0 v1) := Lib.hid (fun W h => (hp.below hB (Nat.le_refl _)).below h (Nat.le_refl _))
  have HT : Hid (∀ W, Below V.heap.size V W → Dir W) := Lib.hid (fun W h => (hT.below hB (Nat.le_refl _)).below h (Nat.le_refl _))
  have HPC : Hid (∀ tb, V.heap.size ≤ tb → ∀ W, Below V.heap.size V W → IsSl (PieceIn fun k => k ≠ tb) 4 W vp r.pieces) := Lib.hid (fun tb ht W h => (((hr.below hB (Nat.le_refl _)).1.1.mono fun g o x hx => pieceIn_of hx (b := fun k => k ≠ tb) (fun b hb => by omega)).below (pieceIn_keeps _) h (Nat.le_refl _)))
  have HDT : Hid (∀ tb, V.heap.size ≤ tb → 0 ≠ tb) := Lib.hid (fun tb ht e => by have := (HT.out V (Below.refl _ _)).size; omega)
  have HX : Hid (∀ W, Below V.heap.size V W → BoxP W (w.heap.size + 1) p vc v0 v1) := Lib.hid (fun W hb => hX.below hb (Nat.le_refl _))
  have HY : Hid (∀ W, Below V.heap.size V W → BoxR W w.heap.size r vp vs ve) := Lib.hid (fun W hb => hY.below hb (Nat.le_refl _))
  obtain ⟨xa, xn, xc, rfl, hxn, hxc, hxs⟩ := hx.parts
  obtain ⟨ya, yn, yc, rfl, hyn, hyc, hys⟩ := hy.parts
  have hxm : xn ≤ maxLen := by rw [hxn]; exact hx.fit
  have hym : yn ≤ maxLen := by rw [hyn]; exact hy.fit
  have HH : Hid (∀ j : Nat, j < 2 → ∃ a n c, (∀ w, Sem.run Tryz.prog (Instr.index 27 (.agg #[.slice xa xn xc, .slice ya yn yc]) (.int .i64 (j : Int))) w = .ok (.slice a n c) w) ∧ n ≤ c ∧ n ≤ maxLen ∧ ∀ W, Below V.heap.size V W → ∀ k, k < n → ∃ g o x, a = some ⟨g, o, none⟩ ∧ W.cell? ⟨g, o + k, none⟩ = some (.int .i64 x)) := Lib.hid (fun j hj => by
    obtain ⟨a, n, c, hi, he⟩ := idx_hand (a0 := xa) (a1 := ya) (n0 := xn) (c0 := xc) (n1 := yn) (c1 := yc) hj
    refine ⟨a, n, c, hi, ?_⟩
    obtain rfl | rfl : j = 0 ∨ j = 1 := by omega
    · obtain ⟨rfl, rfl, rfl⟩ := he
      refine ⟨hxc, hxm, fun W h k hk => ?_⟩
      obtain ⟨g, o, x, e1, _, e3⟩ := hxs W (hB.trans (h.mono hB.size)) k hk
      exact ⟨g, o, x, e1, e3⟩
    · obtain ⟨rfl, rfl, rfl⟩ := he
      refine ⟨hyc, hym, fun W h k hk => ?_⟩
      obtain ⟨g, o, x, e1, _, e3⟩ := hys W (hB.trans (h.mono hB.size)) k hk
      exact ⟨g, o, x, e1, e3⟩)
  obtain ⟨c, hc⟩ : ∃ c, c = placeE r p := ⟨_, rfl⟩
  have HOK : Hid (c = 0 → POkay r p) := Lib.hid (fun h => placeE_iff.1 (by rw [← hc]; exact h))
  have HNB : Hid (c ≠ 0 → ∀ W, Below V.heap.size V W → Calls Tryz.prog 8 #[RulesV r vp vs ve, PlaceV p vc v0 v1] W (NewBad c W)) := Lib.hid (fun hz W h => by rw [hc]; exact new_bad r p vp vs ve vc v0 v1 W (HIR.out W h) (HIP.out W h) (by rw [← hc]; exact hz))
  have HNG : Hid (c = 0 → ∀ tb, V.heap.size ≤ tb → ∀ W, Below V.heap.size V W → tb < W.heap.size → Calls Tryz.prog 8 #[RulesV r vp vs ve, PlaceV p vc v0 v1] W fun e w' => ∃ bb, e = .returned (.tuple #[.pointer (some ⟨bb, 0, none⟩), .int .i64 0]) ∧ BAt W (fun k => k ≠ tb) w' bb r p []) := Lib.hid (fun hz tb ht W h hlt => newC tb r p vp vs ve vc v0 v1 W (HIR.out W h) (HIP.out W h) (HOK.out hz) (HT.out W h) hlt (HPC.out tb ht W h) (HDT.out tb ht))
  obtain ⟨M0, hM0⟩ : ∃ M, M = mixZ 0 := ⟨_, rfl⟩
  have HM0 : Hid (∀ W, Calls Tryz.prog 40 #[.int .i64 0] W fun e w' => e = .returned (.int .u64 (M0.toNat : Int)) ∧ W = w') := Lib.hid (fun W => by rw [hM0]; exact turned (mix_any _ W))
  have hm0 : ((M0.toNat : Int) == 0) = false := by
    have h : M0.toNat ≠ 0 := fun h => mix0_ne (by rw [← hM0]; exact BitVec.eq_of_toNat_eq h)
    simp; omega
  have hV' := hV
  unfold RulesCells PlaceCells at hV'
  unfold RulesV PlaceV PlaceCells at HNB HNG
  unfold RulesV PlaceV PlaceCells
  clear hr hp hc hB hX hY hT hxn hxs hx hyn hys hy hV hM0 hxc hyc hxm hym
  go_enter Tryz.func6, Tryz.ntmps6
  go_wp2_with fail
  rw [← hV']
  clear hV'
  go_at_call 37; refine (three_top _).mono ?_; rintro e w1 ⟨vp1, vs1, ve1, rfl, hin, hb⟩
  have HB1 := Lib.hid hb
  have HI1 := Lib.hid hin
  clear hb hin
  go_wp2_with fail
  go_at_call 38; refine (near_top _).mono ?_; rintro e w2 ⟨uc, u0, u1, rfl, hpn, hb⟩
  have HB2 := Lib.hid (HB1.out.trans (hb.mono HB1.out.size))
  have HI2 := Lib.hid (HI1.out.below hb (Nat.le_refl _))
  have HN2 := Lib.hid hpn
  clear hb hpn HB1 HI1
  go_wp2_with fail
  go_at_call 8; refine (newB three9 nearD _ _ _ _ _ _ _ HI2.out HN2.out near_ok (HT.out _ HB2.out)).mono ?_; rintro e w3 ⟨bx, W1, rfl, hba⟩
  have HA := Lib.hid hba
  clear hba HI2 HN2
  go_wp2_with fail
  go_at_call 39; refine (put_top _ _).mono ?_; rintro e w4 ⟨rfl, hb⟩
  have HD := Lib.hid ((HA.out.keep hb).doOk near_res (-1, 2, 0) put2_legal' (by simp))
  clear hb HA
  go_wp2_with fail
  go_at_call 11; refine HD.out.mono ?_; rintro e w5 ⟨rfl, hba⟩
  obtain ⟨q, hq⟩ : ∃ q, q = afterD three9 nearD (-1, 2, 0) := ⟨_, rfl⟩
  rw [← hq] at hba
  have HA5 := Lib.hid hba
  have HQO := Lib.hid hba.ok
  obtain ⟨K, hK⟩ : ∃ K, K = keyZ q := ⟨_, rfl⟩
  have hkk := key_self2 K
  have HKB : Hid (∀ W, Below w5.heap.size w5 W → Calls Tryz.prog 9 #[.pointer (some ⟨bx, 0, none⟩)] W (BelPost (.int .u64 (K.toNat : Int)) W)) := Lib.hid (fun W h => by rw [hK]; exact (HA5.out.keep h).key)
  have HKZ : Hid (∀ a1 a2 a3 b1 b2 b3 W, RulesIn W three9 a1 a2 a3 → PlaceIn W q b1 b2 b3 → Calls Tryz.prog 19 #[RulesV three9 a1 a2 a3, PlaceV q b1 b2 b3] W (KPost (K.toNat : Int) 0 W)) := Lib.hid (fun a1 a2 a3 b1 b2 b3 W h1 h2 => by
    have h := key_any three9 q a1 a2 a3 b1 b2 b3 W h1 h2
    rw [keyI, if_pos (placeE_iff.2 HQO.out), placeE_iff.2 HQO.out] at h
    rw [hK]; exact h)
  unfold PlaceV PlaceCells at HKZ
  clear hba HD hq hK
  go_wp2_with fail
  go_at_call 37; refine (three_top _).mono ?_; rintro e w6 ⟨vp1, vs1, ve1, rfl, hin, hb⟩
  have HQ6 := Lib.hid hb
  have HI6 := Lib.hid hin
  clear hb hin
  go_wp2_with fail
  go_at_call 16; refine (HA5.out.keep HQ6.out).position.mono ?_; rintro e w7 ⟨ca, cn, cc, a0, n0, c0, a1, n1, c1, rfl, hpf, hb⟩
  have HQ7 := Lib.hid (HQ6.out.trans (hb.mono HQ6.out.size))
  have HI7 := Lib.hid (HI6.out.below hb (Nat.le_refl _))
  have HP7 := Lib.hid hpf.plain
  clear hb hpf HI6 HQ6
  go_wp2_with fail
  go_at_call 19; refine (HKZ.out _ _ _ _ _ _ _ HI7.out HP7.out).mono ?_; rintro e w8 ⟨rfl, hb⟩
  have HQ8 := Lib.hid (HQ7.out.trans (hb.mono HQ7.out.size))
  clear hb HI7 HP7 HQ7 HKZ
  go_wp2_with fail
  go_at_call 9; refine (HKB.out _ HQ8.out).mono ?_; rintro e w9 ⟨rfl, hb⟩
  have HQ9 := Lib.hid (HQ8.out.trans (hb.mono HQ8.out.size))
  clear hb HQ8 HKB
  go_wp2_with fail
  go_at_call 40; refine (HM0.out _).mono ?_; rintro e w' ⟨rfl, rfl⟩
  go_wp2_with fail
  go_at_call 38; refine (near_top _).mono ?_; rintro e w10 ⟨sc, s0, s1, rfl, hpn, hb⟩
  have HQ10 := Lib.hid (HQ9.out.trans (hb.mono HQ9.out.size))
  have HN10 := Lib.hid hpn
  clear hb hpn HQ9
  go_wp2_with fail
  go_at_call 38; refine (near_top _).mono ?_; rintro e w11 ⟨tc, t0, t1, rfl, hpn, hb⟩
  have HQ11 := Lib.hid (HQ10.out.trans (hb.mono HQ10.out.size))
  have HN11 := Lib.hid (HN10.out.below hb (Nat.le_refl _))
  have HO11 := Lib.hid hpn
  clear hb hpn HQ10 HN10
  have HSN : Hid (Calls Tryz.prog 41 #[PlaceV nearD sc s0 s1, PlaceV nearD tc t0 t1] w11 (BelPost (.bool true) w11)) := Lib.hid (by
    have h := Same_any nearD nearD sc s0 s1 tc t0 t1 w11 HN11.out HO11.out near_ok.short
    rwa [same_near] at h)
  go_wp2_with fail
  go_at_call 41; refine HSN.out.mono ?_; rintro e w12 ⟨rfl, hb⟩
  have hB12 := HB2.out.trans (((HA5.out.keep (HQ11.out.trans (hb.mono HQ11.out.size))).bel).mono HB2.out.size)
  have HB12 := Lib.hid hB12
  clear hb HQ11 HN11 HO11 HSN HA5 HB2 HQO
  obtain ⟨tb, htb⟩ : ∃ tb, tb = w12.heap.size := ⟨_, rfl⟩
  have htV : V.heap.size ≤ tb := by rw [htb]; exact hB12.size
  go_wp2_with fail
  have hr0 := heap_alloc_new w12 (.cells #[.pointer none, .pointer none] 66)
  have hal := hB12.alloc hB12.size (.cells #[.pointer none, .pointer none] 66)
  rw [← htb] at hr0 ⊢
  generalize w12.alloc (.cells #[.pointer none, .pointer none] 66) = w13 at hr0 hal ⊢
  have HI0 : Hid (TbI tb r 0 w13) := Lib.hid ⟨none, none, hr0, fun h => by omega, fun h => by omega⟩
  have HB13 := Lib.hid hal
  have HTV := Lib.hid htV
  clear hr0 hal hB12 htb htV HB12
  go_loopw [14, 15, 16, 17, 19, 20, 21, 22, 69, 96] (fun _ _ _ _ _ _ _ _ i _ wr => ∃ j : Nat, j ≤ 2 ∧ i = .int .i64 (j : Int) ∧ Hid (TbI tb r j wr) ∧ Hid (Below V.heap.size V wr)) (fun _ _ _ _ _ _ _ _ i _ _ => 2 - (intOf i).toNat)
  case atStart => exact ⟨0, by omega, rfl, HI0, HB13⟩
  case round =>
    clear HI0 HB13
    obtain ⟨j, hj, rfl, hI, hbel⟩ := hrel
    by_cases hlt : j < 2
    · obtain ⟨xa', xn', xc', hix, hnc, hnm, hcell⟩ := HH.out j hlt
      have HCE := Lib.hid hcell
      have hdj : decide ((j : Int) < 2) = true := by simp; omega
      unfold maxLen at hnm
      obtain ⟨y0, y1, y2, y3, y4, y5, y6, y7, y8, y9, y10⟩ := HY.out _ hbel.out
      obtain ⟨x0, x1, x2, x3, x4⟩ := HX.out _ hbel.out
      clear hcell
      go_wp2_with fail
      by_cases hz : c = 0
      · have htl : tb < wr.heap.size := by
          obtain ⟨_, _, h1, _⟩ := hI.out
          exact (Array.getElem?_eq_some_iff.1 h1).1
        have HNG1 := Lib.hid (HNG.out hz tb HTV.out wr hbel.out htl)
        have HPO := Lib.hid (HOK.out hz)
        have HTL := Lib.hid htl
        have HLT := Lib.hid hlt
        clear hz
        go_at_call 8; refine HNG1.out.mono ?_; rintro e u2 ⟨bb, rfl, hba⟩
        have hu2 := hba.bel
        obtain ⟨P, hP, hF⟩ : ∃ P, u2.cell? ⟨tb, j, none⟩ = some (.pointer P) ∧ u2.frozen? ⟨tb, j, none⟩ = false := by
          obtain ⟨P0, P1, h1, _⟩ := hI.out
          have h2 := (hu2.block tb htl).trans h1
          have hc := cell_of_row u2 tb j _ _ (0, 0) h2
          have hf := frozen_of_row u2 tb j _ _ h2
          obtain rfl | rfl : j = 0 ∨ j = 1 := by omega
          · exact ⟨P0, hc, hf⟩
          · exact ⟨P1, hc, hf⟩
        have HU2 := Lib.hid hu2
        have HN3 := Lib.hid (BNt.off (i := j) (n0 := wr.heap.size) hba htl rfl (.pointer (some ⟨bb, 0, none⟩)))
        have HB3 : Hid (Below V.heap.size V (u2.setCell ⟨tb, j, none⟩ (.pointer (some ⟨bb, 0, none⟩)))) := Lib.hid ((hbel.out.trans (hu2.mono hbel.out.size)).setCell HTV.out _)
        obtain ⟨n0, hn0⟩ : ∃ n, n = wr.heap.size := ⟨_, rfl⟩
        rw [← hn0] at HN3
        have HN0 := Lib.hid hn0
        obtain ⟨m, hm, hmn, hmc, hmx⟩ : ∃ m : Nat, m = min xn' 10 ∧ m ≤ 10 ∧ m ≤ xc' ∧ m ≤ xn' := ⟨_, rfl, by omega, by omega, by omega⟩
        have hm1 : min (xn' : Int) 10 = (m : Int) := by omega
        have hm2 : max (m : Int) 0 = (m : Int) := by omega
        clear hba hu2 HNG1 hm hn0 htl x0 x1 x2 x3 x4 y0 y1 y2 y3 y4 y5 y6 y7 y8 y9 y10
        go_wp2_with fail
        generalize hw3 : u2.setCell ⟨tb, j, none⟩ (.pointer (some ⟨bb, 0, none⟩)) = w3' at HN3 HB3 ⊢
        have HW3 := Lib.hid hw3
        clear hw3 hP hF
        go_loopw [19, 20, 96] (fun _ _ i wi => ∃ (k : Nat) (q : PlaceD) (es : List PlaceD), k ≤ m ∧ i = .int .i64 (k : Int) ∧ Hid (BNt tb n0 wi bb r q es) ∧ Hid (Below n0 w3' wi) ∧ Hid (es.length ≤ k)) (fun _ _ i _ => m - (intOf i).toNat)
        case atStart => exact ⟨0, p, [], by omega, rfl, HN3, Lib.hid (Below.refl _ _), Lib.hid (Nat.le_refl _)⟩
        case round =>
          clear HN3
          obtain ⟨k, q, es, hk, rfl, hN, hBi, hEs⟩ := hrel
          have hvn : V.heap.size ≤ n0 := by rw [HN0.out]; exact hbel.out.size
          have HBV := Lib.hid (HB3.out.trans (hBi.out.mono hvn))
          have HVN := Lib.hid hvn
          clear hvn
          by_cases hlk : k < m
          · obtain ⟨g, o, x, rfl, c0⟩ := HCE.out _ HBV.out k (by omega)
            by_cases hres : resultD r q = 0
            · obtain ⟨⟨D, hBr, hDn⟩, hnW⟩ := hN.out
              have HOP := Lib.hid (moves_open hBr hres)
              have HNE := Lib.hid (result_open hBr.ok.1 hres)
              have HLN := Lib.hid (allD_length hBr.ok.1)
              have HRS := Lib.hid hres
              have HNW := Lib.hid hnW
              clear hres hBr hDn hnW
              go_wp2_with fail
              go_at_call 10; refine HOP.out.mono ?_; rintro e u5 ⟨la, ln, lc, rfl, hI5, hln, hb⟩
              have HN5 := Lib.hid (hN.out.keep hb)
              have HB5 := Lib.hid (hBi.out.trans (hb.mono HNW.out))
              have h1 : 1 ≤ ln := by
                rcases Nat.eq_zero_or_pos ln with h | h
                · exact absurd (List.eq_nil_of_length_eq_zero (by rw [← hln]; exact h)) HNE.out
                · exact h
              have h5 : ln ≤ 5000 := by rw [hln]; exact HLN.out
              have hne : ((ln : Int) == 0) = false := by simp; omega
              obtain ⟨a', cp', e1, hcp, hcl⟩ := hI5.shape hln
              simp only [Value.slice.injEq, true_and] at e1
              obtain ⟨rfl, rfl⟩ := e1
              obtain ⟨t, ht, ⟨t1, t2⟩, jj, hjj, hjn⟩ := some_rem x h1
              obtain ⟨lg, lo, ⟨m1, m2, m3⟩, rfl, hxm, ⟨d0, d1, d2⟩⟩ := hcl jj hjn
              dsimp only at d0 d1 d2
              have hsum : IntKind.i64.wrap (t + (ln : Int)) = t + (ln : Int) := IntWalk.i64_in _ (by omega)
              have HD := Lib.hid (HN5.out.doOk HRS.out (m1, m2, m3) (legalB_all.2 (List.mem_of_getElem? hxm)) (by have := hEs.out; omega))
              clear hI5 hln hb HOP HNE HLN c0 hcl hxm
              go_wp2_with fail
              go_at_call 11; refine HD.out.mono ?_; rintro e u7 ⟨rfl, hbn, hb⟩
              have HN7 := Lib.hid hbn
              have HB7 := Lib.hid (HB5.out.trans hb)
              have HE7 : Hid ((es ++ [q]).length ≤ k + 1) := Lib.hid (by have := hEs.out; simp; omega)
              clear hbn hb HD d0 d1 d2 ht hjj
              go_wp2_with fail
              go_roundw
              case rel => exact ⟨k + 1, _, _, by omega, by go_num, HN7, HB7, HE7⟩
              case measure => simp [intOf]; omega
            · obtain ⟨⟨D, hBr, hDn⟩, hnW⟩ := hN.out
              have HOV := Lib.hid (moves_over hBr hres)
              have HNW := Lib.hid hnW
              clear hres hBr hDn hnW
              go_wp2_with fail
              go_at_call 10; refine HOV.out.mono ?_; rintro e u5 ⟨rfl, hb⟩
              have HN5 := Lib.hid (hN.out.keep hb)
              have HB5 := Lib.hid (hBi.out.trans (hb.mono HNW.out))
              have HV5 := Lib.hid (HB3.out.trans (HB5.out.mono HVN.out))
              obtain ⟨y0, y1, y2, y3, y4, y5, y6, y7, y8, y9, y10⟩ := HY.out _ HV5.out
              clear hb HOV c0 hN hBi hEs hlk hk HBV
              go_wp2_with fail
              have HKQ : Hid (∀ W a1 a2 a3, Below u5.heap.size u5 W → PlaceIn W q a1 a2 a3 → Calls Tryz.prog 19 #[RulesV r vp vs ve, PlaceV q a1 a2 a3] W (KPost ((keyZ q).toNat : Int) 0 W)) := Lib.hid (fun W a1 a2 a3 h h2 => by
                have hok : POkay r q := (HN5.out.bd (tb := tb) (by rw [HN0.out]; exact HTL.out)).ok
                have h1 := key_any r q vp vs ve a1 a2 a3 W (HIR.out W (HV5.out.trans (h.mono HV5.out.size))) h2
                rwa [keyI, if_pos (placeE_iff.2 hok), placeE_iff.2 hok] at h1)
              have HNK := Lib.hid (fun W (h : Below u5.heap.size u5 W) => HN5.out.keep h)
              have HYK : Hid (∀ W, Below u5.heap.size u5 W → W.cell? ⟨w.heap.size, 0, none⟩ = some (.string r.name) ∧ W.cell? ⟨w.heap.size, 1, none⟩ = some (.int .i64 r.width) ∧ W.cell? ⟨w.heap.size, 2, none⟩ = some (.int .i64 r.height) ∧ W.cell? ⟨w.heap.size, 3, none⟩ = some vp ∧ W.cell? ⟨w.heap.size, 4, none⟩ = some vs ∧ W.cell? ⟨w.heap.size, 5, none⟩ = some (.bool r.falls) ∧ W.cell? ⟨w.heap.size, 6, none⟩ = some (.bool r.keeps) ∧ W.cell? ⟨w.heap.size, 7, none⟩ = some ve ∧ W.cell? ⟨w.heap.size, 8, none⟩ = some (.int .i64 r.blocked) ∧ W.cell? ⟨w.heap.size, 9, none⟩ = some (.int .i64 r.quiet) ∧ W.cell? ⟨w.heap.size, 10, none⟩ = some (.int .i64 r.rep)) := Lib.hid (fun W h => HY.out W (HV5.out.trans (h.mono HV5.out.size)))
              obtain ⟨K, hK⟩ : ∃ K, K = keyZ q := ⟨_, rfl⟩
              have hkk2 := key_self2 K
              have HPK : Hid (∀ W, Below u5.heap.size u5 W → Calls Tryz.prog 16 #[.pointer (some ⟨bb, 0, none⟩)] W (PosPost q W) ∧ Calls Tryz.prog 9 #[.pointer (some ⟨bb, 0, none⟩)] W (BelPost (.int .u64 (K.toNat : Int)) W)) := Lib.hid (fun W h => by
                obtain ⟨⟨D, hBr, _⟩, _⟩ := HNK.out W h
                exact ⟨position_any hBr, by rw [hK]; exact bkey hBr⟩)
              rw [← hK] at HKQ
              unfold RulesV PlaceV PlaceCells at HKQ
              clear hK
              have hBc : Below u5.heap.size u5 u5.drew := (Below.refl _ _).drew
              go_region_held3 (fun w' => w'.cell? ⟨w.heap.size, 0, none⟩ = some (.string r.name) ∧ w'.cell? ⟨w.heap.size, 1, none⟩ = some (.int .i64 r.width) ∧ w'.cell? ⟨w.heap.size, 2, none⟩ = some (.int .i64 r.height) ∧ w'.cell? ⟨w.heap.size, 3, none⟩ = some vp ∧ w'.cell? ⟨w.heap.size, 4, none⟩ = some vs ∧ w'.cell? ⟨w.heap.size, 5, none⟩ = some (.bool r.falls) ∧ w'.cell? ⟨w.heap.size, 6, none⟩ = some (.bool r.keeps) ∧ w'.cell? ⟨w.heap.size, 7, none⟩ = some ve ∧ w'.cell? ⟨w.heap.size, 8, none⟩ = some (.int .i64 r.blocked) ∧ w'.cell? ⟨w.heap.size, 9, none⟩ = some (.int .i64 r.quiet) ∧ w'.cell? ⟨w.heap.size, 10, none⟩ = some (.int .i64 r.rep)) (with_reducible exact HYK.out _ hBc) (first
                | (go_at_call 16; refine (HPK.out _ hBc).1.mono ?_; rintro e u6 ⟨ca, cn, cc, a0, n0', c0, a1, n1, c1, rfl, hpf, hb⟩; have hB5 : Below u5.heap.size u5 u6 := hBc.trans (hb.mono hBc.size); have hBc := hB5; have HPQ := Lib.hid hpf.plain; clear hb hpf)
                | (go_at_call 19; refine (HKQ.out _ _ _ _ hBc (by first | exact HPQ.out | exact HPQ.out.below (Below.refl _ _).drew (Nat.le_refl _))).mono ?_; rintro e u7 ⟨rfl, hb⟩; have hB5 : Below u5.heap.size u5 u7 := hBc.trans (hb.mono hBc.size); have hBc := hB5; clear hb))
              have HB7 := Lib.hid hB5
              clear hB5 hBc y0 y1 y2 y3 y4 y5 y6 y7 y8 y9 y10
              go_wp2_with fail
              go_at_call 9; refine (HPK.out _ HB7.out).2.mono ?_; rintro e u8 ⟨rfl, hb⟩
              have HB8 := Lib.hid (HB7.out.trans (hb.mono HB7.out.size))
              have HNF := Lib.hid (HNK.out _ HB8.out)
              have HBF := Lib.hid (HB5.out.trans (HB8.out.mono (by have := HN5.out.2; exact this)))
              have HVF := Lib.hid (HV5.out.trans (HB8.out.mono HV5.out.size))
              clear hb HB7 HB8 HPK HKQ HNK HYK HN5 HB5 HV5
              go_wp2_with fail
              go_roundw
              case rel =>
                first
                  | exact ⟨j + 1, by omega, by go_num, Lib.hid (hI.out.step HLT.out HU2.out (by rw [HW3.out, ← HN0.out]; exact HBF.out) (HNF.out.bd (by rw [HN0.out]; exact HTL.out))), HVF⟩
                  | ((repeat apply Exists.intro); exact ⟨⟨j + 1, by omega, by go_num, Lib.hid (hI.out.step HLT.out HU2.out (by rw [HW3.out, ← HN0.out]; exact HBF.out) (HNF.out.bd (by rw [HN0.out]; exact HTL.out))), HVF⟩, rfl⟩)
              case measure => simp [intOf]; omega
          · have HN5 := hN
            have HB5 := hBi
            have HV5 := Lib.hid (HB3.out.trans (HB5.out.mono HVN.out))
            obtain ⟨y0, y1, y2, y3, y4, y5, y6, y7, y8, y9, y10⟩ := HY.out _ HV5.out
            obtain ⟨u5, hu5⟩ : ∃ u, u = wr := ⟨_, rfl⟩
            rw [← hu5] at HN5 HB5 HV5 y0 y1 y2 y3 y4 y5 y6 y7 y8 y9 y10 ⊢
            clear hN hBi hEs hk HBV hu5
            go_wp2_with fail
            have HKQ : Hid (∀ W a1 a2 a3, Below u5.heap.size u5 W → PlaceIn W q a1 a2 a3 → Calls Tryz.prog 19 #[RulesV r vp vs ve, PlaceV q a1 a2 a3] W (KPost ((keyZ q).toNat : Int) 0 W)) := Lib.hid (fun W a1 a2 a3 h h2 => by
              have hok : POkay r q := (HN5.out.bd (tb := tb) (by rw [HN0.out]; exact HTL.out)).ok
              have h1 := key_any r q vp vs ve a1 a2 a3 W (HIR.out W (HV5.out.trans (h.mono HV5.out.size))) h2
              rwa [keyI, if_pos (placeE_iff.2 hok), placeE_iff.2 hok] at h1)
            have HNK := Lib.hid (fun W (h : Below u5.heap.size u5 W) => HN5.out.keep h)
            have HYK : Hid (∀ W, Below u5.heap.size u5 W → W.cell? ⟨w.heap.size, 0, none⟩ = some (.string r.name) ∧ W.cell? ⟨w.heap.size, 1, none⟩ = some (.int .i64 r.width) ∧ W.cell? ⟨w.heap.size, 2, none⟩ = some (.int .i64 r.height) ∧ W.cell? ⟨w.heap.size, 3, none⟩ = some vp ∧ W.cell? ⟨w.heap.size, 4, none⟩ = some vs ∧ W.cell? ⟨w.heap.size, 5, none⟩ = some (.bool r.falls) ∧ W.cell? ⟨w.heap.size, 6, none⟩ = some (.bool r.keeps) ∧ W.cell? ⟨w.heap.size, 7, none⟩ = some ve ∧ W.cell? ⟨w.heap.size, 8, none⟩ = some (.int .i64 r.blocked) ∧ W.cell? ⟨w.heap.size, 9, none⟩ = some (.int .i64 r.quiet) ∧ W.cell? ⟨w.heap.size, 10, none⟩ = some (.int .i64 r.rep)) := Lib.hid (fun W h => HY.out W (HV5.out.trans (h.mono HV5.out.size)))
            obtain ⟨K, hK⟩ : ∃ K, K = keyZ q := ⟨_, rfl⟩
            have hkk2 := key_self2 K
            have HPK : Hid (∀ W, Below u5.heap.size u5 W → Calls Tryz.prog 16 #[.pointer (some ⟨bb, 0, none⟩)] W (PosPost q W) ∧ Calls Tryz.prog 9 #[.pointer (some ⟨bb, 0, none⟩)] W (BelPost (.int .u64 (K.toNat : Int)) W)) := Lib.hid (fun W h => by
              obtain ⟨⟨D, hBr, _⟩, _⟩ := HNK.out W h
              exact ⟨position_any hBr, by rw [hK]; exact bkey hBr⟩)
            rw [← hK] at HKQ
            unfold RulesV PlaceV PlaceCells at HKQ
            clear hK
            have hBc : Below u5.heap.size u5 u5.drew := (Below.refl _ _).drew
            go_region_held3 (fun w' => w'.cell? ⟨w.heap.size, 0, none⟩ = some (.string r.name) ∧ w'.cell? ⟨w.heap.size, 1, none⟩ = some (.int .i64 r.width) ∧ w'.cell? ⟨w.heap.size, 2, none⟩ = some (.int .i64 r.height) ∧ w'.cell? ⟨w.heap.size, 3, none⟩ = some vp ∧ w'.cell? ⟨w.heap.size, 4, none⟩ = some vs ∧ w'.cell? ⟨w.heap.size, 5, none⟩ = some (.bool r.falls) ∧ w'.cell? ⟨w.heap.size, 6, none⟩ = some (.bool r.keeps) ∧ w'.cell? ⟨w.heap.size, 7, none⟩ = some ve ∧ w'.cell? ⟨w.heap.size, 8, none⟩ = some (.int .i64 r.blocked) ∧ w'.cell? ⟨w.heap.size, 9, none⟩ = some (.int .i64 r.quiet) ∧ w'.cell? ⟨w.heap.size, 10, none⟩ = some (.int .i64 r.rep)) (with_reducible exact HYK.out _ hBc) (first
              | (go_at_call 16; refine (HPK.out _ hBc).1.mono ?_; rintro e u6 ⟨ca, cn, cc, a0, n0', c0, a1, n1, c1, rfl, hpf, hb⟩; have hB5 : Below u5.heap.size u5 u6 := hBc.trans (hb.mono hBc.size); have hBc := hB5; have HPQ := Lib.hid hpf.plain; clear hb hpf)
              | (go_at_call 19; refine (HKQ.out _ _ _ _ hBc (by first | exact HPQ.out | exact HPQ.out.below (Below.refl _ _).drew (Nat.le_refl _))).mono ?_; rintro e u7 ⟨rfl, hb⟩; have hB5 : Below u5.heap.size u5 u7 := hBc.trans (hb.mono hBc.size); have hBc := hB5; clear hb))
            have HB7 := Lib.hid hB5
            clear hB5 hBc y0 y1 y2 y3 y4 y5 y6 y7 y8 y9 y10
            go_wp2_with fail
            go_at_call 9; refine (HPK.out _ HB7.out).2.mono ?_; rintro e u8 ⟨rfl, hb⟩
            have HB8 := Lib.hid (HB7.out.trans (hb.mono HB7.out.size))
            have HNF := Lib.hid (HNK.out _ HB8.out)
            have HBF := Lib.hid (HB5.out.trans (HB8.out.mono (by have := HN5.out.2; exact this)))
            have HVF := Lib.hid (HV5.out.trans (HB8.out.mono HV5.out.size))
            clear hb HB7 HB8 HPK HKQ HNK HYK HN5 HB5 HV5
            go_wp2_with fail
            go_roundw
            case rel =>
              first
                | exact ⟨j + 1, by omega, by go_num, Lib.hid (hI.out.step HLT.out HU2.out (by rw [HW3.out, ← HN0.out]; exact HBF.out) (HNF.out.bd (by rw [HN0.out]; exact HTL.out))), HVF⟩
                | ((repeat apply Exists.intro); exact ⟨⟨j + 1, by omega, by go_num, Lib.hid (hI.out.step HLT.out HU2.out (by rw [HW3.out, ← HN0.out]; exact HBF.out) (HNF.out.bd (by rw [HN0.out]; exact HTL.out))), HVF⟩, rfl⟩)
            case measure => simp [intOf]; omega
      · have HNB1 := Lib.hid (HNB.out hz)
        have hne := bool_of_ne' hz
        clear hz
        go_at_call 8; refine (HNB1.out _ hbel.out).mono ?_; rintro e u2 ⟨rfl, hb⟩
        have HBE := Lib.hid (HB.out.trans ((hbel.out.trans (hb.mono hbel.out.size)).mono HB.out.size))
        clear hb HNB1 x0 x1 x2 x3 x4 y0 y1 y2 y3 y4 y5 y6 y7 y8 y9 y10
        go_wp2_with fail
        go_ret
        exact ⟨rfl, HBE.out⟩
    · obtain rfl : j = 2 := by omega
      obtain ⟨P0, P1, hrw, h0, h1⟩ := hI.out
      obtain ⟨b0, q0, es0, rfl, hb0⟩ := h0 (by omega)
      obtain ⟨b1, q1, es1, rfl, hb1⟩ := h1 (by omega)
      obtain ⟨D0, g0, -⟩ := hb0
      obtain ⟨D1, g1, -⟩ := hb1
      have HS2 : Hid (∀ w', Below wr.heap.size wr w' → w'.cell? ⟨tb, 0, none⟩ = some (.pointer (some ⟨b0, 0, none⟩)) ∧ w'.cell? ⟨tb, 1, none⟩ = some (.pointer (some ⟨b1, 0, none⟩))) := Lib.hid (fun w' h => by
        have h2 := (h.block tb (Array.getElem?_eq_some_iff.1 hrw).1).trans hrw
        have hc : ∀ i, w'.cell? ⟨tb, i, none⟩ = (#[.pointer (some ⟨b0, 0, none⟩), .pointer (some ⟨b1, 0, none⟩)] : Array Value)[i]? := fun i => cell_of_row w' tb i _ _ (0, 0) h2
        exact ⟨hc 0, hc 1⟩)
      have HPP : Hid (∀ b q, (b = b0 ∧ q = q0) ∨ (b = b1 ∧ q = q1) → ∀ W, Below wr.heap.size wr W → Calls Tryz.prog 16 #[.pointer (some ⟨b, 0, none⟩)] W (PosPost q W)) := Lib.hid (fun b q h W hW => by
        rcases h with ⟨rfl, rfl⟩ | ⟨rfl, rfl⟩
        · exact position_any (g0.keep hW)
        · exact position_any (g1.keep hW))
      have HKK : Hid (∀ b q, (b = b0 ∧ q = q0) ∨ (b = b1 ∧ q = q1) → ∀ W, Below wr.heap.size wr W → Calls Tryz.prog 9 #[.pointer (some ⟨b, 0, none⟩)] W (BelPost (.int .u64 ((keyZ q).toNat : Int)) W)) := Lib.hid (fun b q h W hW => by
        rcases h with ⟨rfl, rfl⟩ | ⟨rfl, rfl⟩
        · exact bkey (g0.keep hW)
        · exact bkey (g1.keep hW))
      have HSM : Hid (∀ W a1 a2 a3 c1 c2 c3, PlaceIn W q0 a1 a2 a3 → PlaceIn W q1 c1 c2 c3 → Calls Tryz.prog 41 #[PlaceV q0 a1 a2 a3, PlaceV q1 c1 c2 c3] W (BelPost (.bool (sameB q0 q1)) W)) := Lib.hid (fun W a1 a2 a3 c1 c2 c3 h1 h2 => Same_any q0 q1 a1 a2 a3 c1 c2 c3 W h1 h2 g0.ok.1.short)
      unfold PlaceV PlaceCells at HSM
      have hdj : decide ((2 : Int) < 2) = false := by decide
      obtain ⟨s0, s1⟩ := HS2.out wr (Below.refl _ _)
      have HKE : Hid (sameB q0 q1 = true → keyZ q0 = keyZ q1) := Lib.hid same_key
      clear hrw h0 h1 g0 g1 hI
      have hBc : Below wr.heap.size wr wr.drew := (Below.refl _ _).drew
      have hta := True.intro
      cases hsb : sameB q0 q1
      · rw [hsb] at HSM
        clear HKE HKK hsb
        go_wp2_with fail
        refine wp_region_noPanic ?_
        refine wp_region_held_drew (S := (fun w' => w'.cell? ⟨tb, 0, none⟩ = some (.pointer (some ⟨b0, 0, none⟩)) ∧ w'.cell? ⟨tb, 1, none⟩ = some (.pointer (some ⟨b1, 0, none⟩)))) (by kernel_rfl) ?_ (fun hHeld => ?_)
        · exact HS2.out _ hBc
        refine wpAnyH_take (i := 0) (v := ?_) rfl (by kernel_rfl) (by kernel_rfl) (by kernel_rfl) (fun _ _ _ h => h) (Or.inl ⟨by rfl, ?_⟩) (by assumption) ?_
        rotate_left
        · intro w hSw
          (try dsimp only at hSw)
          go_simp
          all_goals with_reducible rfl
        simp only [Act.put, List.setIfInBounds_toArray, List.set_cons_zero, List.set_cons_succ, List.getElem_toArray, List.getElem_cons_zero]
        refine wpAnyH_take (i := 1) (v := ?_) rfl (by kernel_rfl) (by kernel_rfl) (by kernel_rfl) (fun _ _ _ h => h) (Or.inl ⟨by rfl, ?_⟩) (by assumption) ?_
        rotate_left
        · intro w hSw
          (try dsimp only at hSw)
          go_simp
          all_goals with_reducible rfl
        simp only [Act.put, List.setIfInBounds_toArray, List.set_cons_zero, List.set_cons_succ, List.getElem_toArray, List.getElem_cons_zero, List.getElem_cons_succ]
        refine wpAnyH_take (i := 3) (v := ?_) rfl (by kernel_rfl) (by kernel_rfl) (by kernel_rfl) (fun _ _ _ h => h) (Or.inl ⟨by rfl, ?_⟩) (by assumption) ?_
        rotate_left
        · intro w hSw
          (try dsimp only at hSw)
          go_simp
          all_goals with_reducible rfl
        simp only [Act.put, List.setIfInBounds_toArray, List.set_cons_zero, List.set_cons_succ, List.getElem_toArray, List.getElem_cons_zero, List.getElem_cons_succ]
        refine wpAnyH_take (i := 4) (v := ?_) rfl (by kernel_rfl) (by kernel_rfl) (by kernel_rfl) (fun _ _ _ h => h) (Or.inl ⟨by rfl, ?_⟩) (by assumption) ?_
        rotate_left
        · intro w hSw
          (try dsimp only at hSw)
          go_simp
          all_goals with_reducible rfl
        simp only [Act.put, List.setIfInBounds_toArray, List.set_cons_zero, List.set_cons_succ, List.getElem_toArray, List.getElem_cons_zero, List.getElem_cons_succ]
        refine wpAnyH_ready (rs := [2]) (by kernel_rfl) (by simp) (AllReadyH.cons rfl (fun K hK => ?_) AllReadyH.nil)
        go_simp
        go_at_call 16; refine (HPP.out b0 q0 (.inl ⟨rfl, rfl⟩) _ hBc).mono ?_; rintro e w5 ⟨da, dn, dc, d0, dn0, dc0, d1, dn1, dc1, rfl, hpd, hb⟩; have hBc := hBc.trans (hb.mono hBc.size); have HPD := Lib.hid hpd.plain; clear hpd hb
        refine hK.out _ _ ?_ (fun hHeld => ?_)
        · exact HS2.out _ hBc
        clear hK K
        try simp only [Act.put, List.setIfInBounds_toArray, List.set_cons_zero, List.set_cons_succ, List.getElem_toArray, List.getElem_cons_zero, List.getElem_cons_succ]
        refine wpAnyH_ready (rs := [5]) (by kernel_rfl) (by simp) (AllReadyH.cons rfl (fun K hK => ?_) AllReadyH.nil)
        go_simp
        go_at_call 16; refine (HPP.out b1 q1 (.inr ⟨rfl, rfl⟩) _ hBc).mono ?_; rintro e w6 ⟨fa, fn, fc, f0, fn0, fc0, f1, fn1, fc1, rfl, hpd, hb⟩; have hBc := hBc.trans (hb.mono hBc.size); have HPF := Lib.hid hpd.plain; have HPD2 := Lib.hid ((by first | exact (HPD.out.below (Below.refl _ _).drew (Nat.le_refl _)).below hb (Nat.le_refl _) | exact HPD.out.below hb (Nat.le_refl _))); clear hpd hb
        refine hK.out _ _ ?_ (fun hHeld => ?_)
        · exact HS2.out _ hBc
        clear hK K
        try simp only [Act.put, List.setIfInBounds_toArray, List.set_cons_zero, List.set_cons_succ, List.getElem_toArray, List.getElem_cons_zero, List.getElem_cons_succ]
        refine wpAnyH_ready (rs := [6]) (by kernel_rfl) (by simp) (AllReadyH.cons rfl (fun K hK => ?_) AllReadyH.nil)
        go_simp
        go_at_call 41; refine (HSM.out _ _ _ _ _ _ _ (by first | exact HPD2.out | exact HPD2.out.below (Below.refl _ _).drew (Nat.le_refl _)) (by first | exact HPF.out | exact HPF.out.below (Below.refl _ _).drew (Nat.le_refl _))).mono ?_; rintro e w7 ⟨rfl, hb⟩; have hBc := hBc.trans (hb.mono hBc.size); clear hb
        refine hK.out _ _ ?_ (fun hHeld => ?_)
        · exact HS2.out _ hBc
        clear hK K
        try simp only [Act.put, List.setIfInBounds_toArray, List.set_cons_zero, List.set_cons_succ, List.getElem_toArray, List.getElem_cons_zero, List.getElem_cons_succ]
        refine wpAnyH_take (i := 7) (v := ?_) rfl (by kernel_rfl) (by kernel_rfl) (by kernel_rfl) (fun _ _ _ h => h) (Or.inl ⟨by rfl, ?_⟩) (by assumption) ?_
        rotate_left
        · intro w hSw
          (try dsimp only at hSw)
          go_simp
          all_goals with_reducible rfl
        simp only [Act.put, List.setIfInBounds_toArray, List.set_cons_zero, List.set_cons_succ, List.getElem_toArray, List.getElem_cons_zero, List.getElem_cons_succ]
        refine wpAnyH_take (i := 8) (v := ?_) rfl (by kernel_rfl) (by kernel_rfl) (by kernel_rfl) (fun _ _ _ h => h) (Or.inl ⟨by rfl, ?_⟩) (by assumption) ?_
        rotate_left
        · intro w hSw
          (try dsimp only at hSw)
          go_simp
          all_goals with_reducible rfl
        simp only [Act.put, List.setIfInBounds_toArray, List.set_cons_zero, List.set_cons_succ, List.getElem_toArray, List.getElem_cons_zero, List.getElem_cons_succ]
        refine wpAnyH_take (i := 9) (v := undef) rfl (by kernel_rfl) (by kernel_rfl) (by kernel_rfl) (fun _ _ _ h => h) (Or.inr ⟨by rfl, rfl⟩) (by assumption) ?_
        simp only [Act.put, List.setIfInBounds_toArray, List.set_cons_zero, List.set_cons_succ, List.getElem_toArray, List.getElem_cons_zero, List.getElem_cons_succ]
        refine wpAnyH_take (i := 10) (v := undef) rfl (by kernel_rfl) (by kernel_rfl) (by kernel_rfl) (fun _ _ _ h => h) (Or.inr ⟨by rfl, rfl⟩) (by assumption) ?_
        simp only [Act.put, List.setIfInBounds_toArray, List.set_cons_zero, List.set_cons_succ, List.getElem_toArray, List.getElem_cons_zero, List.getElem_cons_succ]
        refine wpAnyH_take (i := 11) (v := undef) rfl (by kernel_rfl) (by kernel_rfl) (by kernel_rfl) (fun _ _ _ h => h) (Or.inr ⟨by rfl, rfl⟩) (by assumption) ?_
        simp only [Act.put, List.setIfInBounds_toArray, List.set_cons_zero, List.set_cons_succ, List.getElem_toArray, List.getElem_cons_zero, List.getElem_cons_succ]
        refine wpAnyH_take (i := 12) (v := undef) rfl (by kernel_rfl) (by kernel_rfl) (by kernel_rfl) (fun _ _ _ h => h) (Or.inr ⟨by rfl, rfl⟩) (by assumption) ?_
        simp only [Act.put, List.setIfInBounds_toArray, List.set_cons_zero, List.set_cons_succ, List.getElem_toArray, List.getElem_cons_zero, List.getElem_cons_succ]
        refine wpAnyH_take (i := 13) (v := undef) rfl (by kernel_rfl) (by kernel_rfl) (by kernel_rfl) (fun _ _ _ h => h) (Or.inr ⟨by rfl, rfl⟩) (by assumption) ?_
        simp only [Act.put, List.setIfInBounds_toArray, List.set_cons_zero, List.set_cons_succ, List.getElem_toArray, List.getElem_cons_zero, List.getElem_cons_succ]
        refine wpAnyH_take (i := 14) (v := undef) rfl (by kernel_rfl) (by kernel_rfl) (by kernel_rfl) (fun _ _ _ h => h) (Or.inr ⟨by rfl, rfl⟩) (by assumption) ?_
        simp only [Act.put, List.setIfInBounds_toArray, List.set_cons_zero, List.set_cons_succ, List.getElem_toArray, List.getElem_cons_zero, List.getElem_cons_succ]
        refine wpAnyH_take (i := 15) (v := undef) rfl (by kernel_rfl) (by kernel_rfl) (by kernel_rfl) (fun _ _ _ h => h) (Or.inr ⟨by rfl, rfl⟩) (by assumption) ?_
        simp only [Act.put, List.setIfInBounds_toArray, List.set_cons_zero, List.set_cons_succ, List.getElem_toArray, List.getElem_cons_zero, List.getElem_cons_succ]
        refine wpAnyH_take (i := 16) (v := ?_) rfl (by kernel_rfl) (by kernel_rfl) (by kernel_rfl) (fun _ _ _ h => h) (Or.inl ⟨by rfl, ?_⟩) (by assumption) ?_
        rotate_left
        · intro w hSw
          (try dsimp only at hSw)
          go_simp
          all_goals with_reducible rfl
        simp only [Act.put, List.setIfInBounds_toArray, List.set_cons_zero, List.set_cons_succ, List.getElem_toArray, List.getElem_cons_zero, List.getElem_cons_succ]
        refine wpAnyH_take (i := 17) (v := ?_) rfl (by kernel_rfl) (by kernel_rfl) (by kernel_rfl) (fun _ _ _ h => h) (Or.inl ⟨by rfl, ?_⟩) (by assumption) ?_
        rotate_left
        · intro w hSw
          (try dsimp only at hSw)
          go_simp
          all_goals with_reducible rfl
        simp only [Act.put, List.setIfInBounds_toArray, List.set_cons_zero, List.set_cons_succ, List.getElem_toArray, List.getElem_cons_zero, List.getElem_cons_succ]
        refine wpAnyH_done (by kernel_rfl) ?_ _
        refine NoPanic.normal ?_
        have HBE := Lib.hid (HB.out.trans ((hbel.out.trans (hBc.mono hbel.out.size)).mono HB.out.size))
        clear hBc
        go_wp2_with fail
        go_ret
        exact ⟨rfl, HBE.out⟩
      · rw [hsb] at HSM
        obtain ⟨K2, hK2⟩ : ∃ K2, K2 = keyZ q0 := ⟨_, rfl⟩
        have HK0 : Hid (∀ W, Below wr.heap.size wr W → Calls Tryz.prog 9 #[.pointer (some ⟨b0, 0, none⟩)] W (BelPost (.int .u64 (K2.toNat : Int)) W)) := Lib.hid (fun W h => by rw [hK2]; exact HKK.out b0 q0 (.inl ⟨rfl, rfl⟩) W h)
        have HK1 : Hid (∀ W, Below wr.heap.size wr W → Calls Tryz.prog 9 #[.pointer (some ⟨b1, 0, none⟩)] W (BelPost (.int .u64 (K2.toNat : Int)) W)) := Lib.hid (fun W h => by rw [hK2, HKE.out hsb]; exact HKK.out b1 q1 (.inr ⟨rfl, rfl⟩) W h)
        have hk3 := key_self' K2
        clear HKE HKK hsb hK2
        go_wp2_with fail
        refine wp_region_noPanic ?_
        refine wp_region_held_drew (S := (fun w' => w'.cell? ⟨tb, 0, none⟩ = some (.pointer (some ⟨b0, 0, none⟩)) ∧ w'.cell? ⟨tb, 1, none⟩ = some (.pointer (some ⟨b1, 0, none⟩)))) (by kernel_rfl) ?_ (fun hHeld => ?_)
        · exact HS2.out _ hBc
        refine wpAnyH_take (i := 0) (v := ?_) rfl (by kernel_rfl) (by kernel_rfl) (by kernel_rfl) (fun _ _ _ h => h) (Or.inl ⟨by rfl, ?_⟩) (by assumption) ?_
        rotate_left
        · intro w hSw
          (try dsimp only at hSw)
          go_simp
          all_goals with_reducible rfl
        simp only [Act.put, List.setIfInBounds_toArray, List.set_cons_zero, List.set_cons_succ, List.getElem_toArray, List.getElem_cons_zero]
        refine wpAnyH_take (i := 1) (v := ?_) rfl (by kernel_rfl) (by kernel_rfl) (by kernel_rfl) (fun _ _ _ h => h) (Or.inl ⟨by rfl, ?_⟩) (by assumption) ?_
        rotate_left
        · intro w hSw
          (try dsimp only at hSw)
          go_simp
          all_goals with_reducible rfl
        simp only [Act.put, List.setIfInBounds_toArray, List.set_cons_zero, List.set_cons_succ, List.getElem_toArray, List.getElem_cons_zero, List.getElem_cons_succ]
        refine wpAnyH_take (i := 3) (v := ?_) rfl (by kernel_rfl) (by kernel_rfl) (by kernel_rfl) (fun _ _ _ h => h) (Or.inl ⟨by rfl, ?_⟩) (by assumption) ?_
        rotate_left
        · intro w hSw
          (try dsimp only at hSw)
          go_simp
          all_goals with_reducible rfl
        simp only [Act.put, List.setIfInBounds_toArray, List.set_cons_zero, List.set_cons_succ, List.getElem_toArray, List.getElem_cons_zero, List.getElem_cons_succ]
        refine wpAnyH_take (i := 4) (v := ?_) rfl (by kernel_rfl) (by kernel_rfl) (by kernel_rfl) (fun _ _ _ h => h) (Or.inl ⟨by rfl, ?_⟩) (by assumption) ?_
        rotate_left
        · intro w hSw
          (try dsimp only at hSw)
          go_simp
          all_goals with_reducible rfl
        simp only [Act.put, List.setIfInBounds_toArray, List.set_cons_zero, List.set_cons_succ, List.getElem_toArray, List.getElem_cons_zero, List.getElem_cons_succ]
        refine wpAnyH_ready (rs := [2]) (by kernel_rfl) (by simp) (AllReadyH.cons rfl (fun K hK => ?_) AllReadyH.nil)
        go_simp
        go_at_call 16; refine (HPP.out b0 q0 (.inl ⟨rfl, rfl⟩) _ hBc).mono ?_; rintro e w5 ⟨da, dn, dc, d0, dn0, dc0, d1, dn1, dc1, rfl, hpd, hb⟩; have hBc := hBc.trans (hb.mono hBc.size); have HPD := Lib.hid hpd.plain; clear hpd hb
        refine hK.out _ _ ?_ (fun hHeld => ?_)
        · exact HS2.out _ hBc
        clear hK K
        try simp only [Act.put, List.setIfInBounds_toArray, List.set_cons_zero, List.set_cons_succ, List.getElem_toArray, List.getElem_cons_zero, List.getElem_cons_succ]
        refine wpAnyH_ready (rs := [5]) (by kernel_rfl) (by simp) (AllReadyH.cons rfl (fun K hK => ?_) AllReadyH.nil)
        go_simp
        go_at_call 16; refine (HPP.out b1 q1 (.inr ⟨rfl, rfl⟩) _ hBc).mono ?_; rintro e w6 ⟨fa, fn, fc, f0, fn0, fc0, f1, fn1, fc1, rfl, hpd, hb⟩; have hBc := hBc.trans (hb.mono hBc.size); have HPF := Lib.hid hpd.plain; have HPD2 := Lib.hid ((by first | exact (HPD.out.below (Below.refl _ _).drew (Nat.le_refl _)).below hb (Nat.le_refl _) | exact HPD.out.below hb (Nat.le_refl _))); clear hpd hb
        refine hK.out _ _ ?_ (fun hHeld => ?_)
        · exact HS2.out _ hBc
        clear hK K
        try simp only [Act.put, List.setIfInBounds_toArray, List.set_cons_zero, List.set_cons_succ, List.getElem_toArray, List.getElem_cons_zero, List.getElem_cons_succ]
        refine wpAnyH_ready (rs := [6]) (by kernel_rfl) (by simp) (AllReadyH.cons rfl (fun K hK => ?_) AllReadyH.nil)
        go_simp
        go_at_call 41; refine (HSM.out _ _ _ _ _ _ _ (by first | exact HPD2.out | exact HPD2.out.below (Below.refl _ _).drew (Nat.le_refl _)) (by first | exact HPF.out | exact HPF.out.below (Below.refl _ _).drew (Nat.le_refl _))).mono ?_; rintro e w7 ⟨rfl, hb⟩; have hBc := hBc.trans (hb.mono hBc.size); clear hb
        refine hK.out _ _ ?_ (fun hHeld => ?_)
        · exact HS2.out _ hBc
        clear hK K
        try simp only [Act.put, List.setIfInBounds_toArray, List.set_cons_zero, List.set_cons_succ, List.getElem_toArray, List.getElem_cons_zero, List.getElem_cons_succ]
        refine wpAnyH_take (i := 7) (v := ?_) rfl (by kernel_rfl) (by kernel_rfl) (by kernel_rfl) (fun _ _ _ h => h) (Or.inl ⟨by rfl, ?_⟩) (by assumption) ?_
        rotate_left
        · intro w hSw
          (try dsimp only at hSw)
          go_simp
          all_goals with_reducible rfl
        simp only [Act.put, List.setIfInBounds_toArray, List.set_cons_zero, List.set_cons_succ, List.getElem_toArray, List.getElem_cons_zero, List.getElem_cons_succ]
        refine wpAnyH_take (i := 8) (v := ?_) rfl (by kernel_rfl) (by kernel_rfl) (by kernel_rfl) (fun _ _ _ h => h) (Or.inl ⟨by rfl, ?_⟩) (by assumption) ?_
        rotate_left
        · intro w hSw
          (try dsimp only at hSw)
          go_simp
          all_goals with_reducible rfl
        simp only [Act.put, List.setIfInBounds_toArray, List.set_cons_zero, List.set_cons_succ, List.getElem_toArray, List.getElem_cons_zero, List.getElem_cons_succ]
        refine wpAnyH_take (i := 9) (v := ?_) rfl (by kernel_rfl) (by kernel_rfl) (by kernel_rfl) (fun _ _ _ h => h) (Or.inl ⟨by rfl, ?_⟩) (by assumption) ?_
        rotate_left
        · intro w hSw
          (try dsimp only at hSw)
          go_simp
          all_goals with_reducible rfl
        simp only [Act.put, List.setIfInBounds_toArray, List.set_cons_zero, List.set_cons_succ, List.getElem_toArray, List.getElem_cons_zero, List.getElem_cons_succ]
        refine wpAnyH_take (i := 10) (v := ?_) rfl (by kernel_rfl) (by kernel_rfl) (by kernel_rfl) (fun _ _ _ h => h) (Or.inl ⟨by rfl, ?_⟩) (by assumption) ?_
        rotate_left
        · intro w hSw
          (try dsimp only at hSw)
          go_simp
          all_goals with_reducible rfl
        simp only [Act.put, List.setIfInBounds_toArray, List.set_cons_zero, List.set_cons_succ, List.getElem_toArray, List.getElem_cons_zero, List.getElem_cons_succ]
        refine wpAnyH_take (i := 12) (v := ?_) rfl (by kernel_rfl) (by kernel_rfl) (by kernel_rfl) (fun _ _ _ h => h) (Or.inl ⟨by rfl, ?_⟩) (by assumption) ?_
        rotate_left
        · intro w hSw
          (try dsimp only at hSw)
          go_simp
          all_goals with_reducible rfl
        simp only [Act.put, List.setIfInBounds_toArray, List.set_cons_zero, List.set_cons_succ, List.getElem_toArray, List.getElem_cons_zero, List.getElem_cons_succ]
        refine wpAnyH_take (i := 13) (v := ?_) rfl (by kernel_rfl) (by kernel_rfl) (by kernel_rfl) (fun _ _ _ h => h) (Or.inl ⟨by rfl, ?_⟩) (by assumption) ?_
        rotate_left
        · intro w hSw
          (try dsimp only at hSw)
          go_simp
          all_goals with_reducible rfl
        simp only [Act.put, List.setIfInBounds_toArray, List.set_cons_zero, List.set_cons_succ, List.getElem_toArray, List.getElem_cons_zero, List.getElem_cons_succ]
        refine wpAnyH_ready (rs := [11]) (by kernel_rfl) (by simp) (AllReadyH.cons rfl (fun K hK => ?_) AllReadyH.nil)
        go_simp
        go_at_call 9; refine (HK0.out _ hBc).mono ?_; rintro e w8 ⟨rfl, hb⟩; have hBc := hBc.trans (hb.mono hBc.size); clear hb
        refine hK.out _ _ ?_ (fun hHeld => ?_)
        · exact HS2.out _ hBc
        clear hK K
        try simp only [Act.put, List.setIfInBounds_toArray, List.set_cons_zero, List.set_cons_succ, List.getElem_toArray, List.getElem_cons_zero, List.getElem_cons_succ]
        refine wpAnyH_ready (rs := [14]) (by kernel_rfl) (by simp) (AllReadyH.cons rfl (fun K hK => ?_) AllReadyH.nil)
        go_simp
        go_at_call 9; refine (HK1.out _ hBc).mono ?_; rintro e w9 ⟨rfl, hb⟩; have hBc := hBc.trans (hb.mono hBc.size); clear hb
        refine hK.out _ _ ?_ (fun hHeld => ?_)
        · exact HS2.out _ hBc
        clear hK K
        try simp only [Act.put, List.setIfInBounds_toArray, List.set_cons_zero, List.set_cons_succ, List.getElem_toArray, List.getElem_cons_zero, List.getElem_cons_succ]
        refine wpAnyH_take (i := 15) (v := ?_) rfl (by kernel_rfl) (by kernel_rfl) (by kernel_rfl) (fun _ _ _ h => h) (Or.inl ⟨by rfl, ?_⟩) (by assumption) ?_
        rotate_left
        · intro w hSw
          (try dsimp only at hSw)
          go_simp
          all_goals with_reducible rfl
        simp only [Act.put, List.setIfInBounds_toArray, List.set_cons_zero, List.set_cons_succ, List.getElem_toArray, List.getElem_cons_zero, List.getElem_cons_succ]
        refine wpAnyH_take (i := 16) (v := ?_) rfl (by kernel_rfl) (by kernel_rfl) (by kernel_rfl) (fun _ _ _ h => h) (Or.inl ⟨by rfl, ?_⟩) (by assumption) ?_
        rotate_left
        · intro w hSw
          (try dsimp only at hSw)
          go_simp
          all_goals with_reducible rfl
        simp only [Act.put, List.setIfInBounds_toArray, List.set_cons_zero, List.set_cons_succ, List.getElem_toArray, List.getElem_cons_zero, List.getElem_cons_succ]
        refine wpAnyH_take (i := 17) (v := ?_) rfl (by kernel_rfl) (by kernel_rfl) (by kernel_rfl) (fun _ _ _ h => h) (Or.inl ⟨by rfl, ?_⟩) (by assumption) ?_
        rotate_left
        · intro w hSw
          (try dsimp only at hSw)
          go_simp
          all_goals with_reducible rfl
        simp only [Act.put, List.setIfInBounds_toArray, List.set_cons_zero, List.set_cons_succ, List.getElem_toArray, List.getElem_cons_zero, List.getElem_cons_succ]
        refine wpAnyH_done (by kernel_rfl) ?_ _
        refine NoPanic.normal ?_
        have HBE := Lib.hid (HB.out.trans ((hbel.out.trans (hBc.mono hbel.out.size)).mono HB.out.size))
        clear hBc
        go_wp2_with fail
        go_ret
        exact ⟨rfl, HBE.out⟩
end Go.Proofs.YtiligppdfldlfaaGreatDoor
