/- The law PerftParts: the sequences are those of all first moves, and the tree has those of all depths. (Written by genlawpf.py.) -/
import Derived.Test.YtdhhdkbnlddnbaaGreatDoorPftK
import Derived.Test.YtdhhdkbnlddnbaaGreatDoorOpnA
set_option maxRecDepth 100000
namespace Go.Proofs.YtdhhdkbnlddnbaaGreatDoor
open Go.ChangeShapes Go.WideShapes Go.ChangeAt Go.RowKit

/-- What the calls answer together. -/
theorem parts_cases (r : RulesD) (p : PlaceD) (x : Int) :
    (pftE r p 0 x ≠ 0 ∧ pftE r p 1 x ≠ 0 ∧ treI r p 0 x = 0 ∧ cntI r p x = 0 ∧ dvdI r p 1 x = []) ∨
    (pftE r p 0 x = 0 ∧ pftE r p 1 x = 1 ∧ x = 0 ∧ treI r p 0 x = 1 ∧ cntI r p x = 1 ∧ dvdI r p 1 x = []) ∨
    (pftE r p 0 x = 0 ∧ pftE r p 1 x = 0 ∧ 1 ≤ x ∧ x ≤ 12 ∧ (sumP (dvdI r p 1 x) : Int) = cntI r p x ∧ sumP (dvdI r p 1 x) ≤ 50000 ∧ (dvdI r p 1 x).length ≤ 5000 ∧ treI r p 0 x = (treD r x.toNat p : Int) ∧ treD r x.toNat p ≤ 50000 ∧ POkay r p) := by
  by_cases h : pftE r p 0 x = 0
  · obtain ⟨hk, h0, h1, h2⟩ := pftE_in h
    have hz := placeE_iff.2 hk
    by_cases hx : x = 0
    · subst hx
      have e1 : pftE r p 1 0 = 1 := by unfold pftE; rw [if_neg (by simpa using hz), if_pos (by omega)]
      refine .inr (.inl ⟨h, e1, rfl, by rw [treI, if_pos h]; rfl, by rw [cntI, if_pos h]; rfl, dvdI_bad (by rw [e1]; decide)⟩)
    · have e1 : pftE r p 1 x = 0 := by unfold pftE; rw [if_neg (by simpa using hz), if_neg (by omega), if_neg (by omega)]
      have e2 : dvdI r p 1 x = dvdI r p 0 x := by rw [dvdI, if_pos e1, dvdI, if_pos h]
      obtain ⟨s1, s2, s3⟩ := sum_dvdI h hx
      rw [e2]
      exact .inr (.inr ⟨h, e1, by omega, h1, s1, s2, s3, by rw [treI, if_pos h], h2, hk⟩)
  · have e1 : pftE r p 1 x ≠ 0 := fun g => h (by
      obtain ⟨hk, h0, h1, h2⟩ := pftE_in g
      unfold pftE; rw [if_neg (by simpa using placeE_iff.2 hk), if_neg (by omega), if_neg (by omega)])
    exact .inl ⟨h, e1, if_neg h, if_neg h, dvdI_bad e1⟩
/-- Counts of smaller depths. -/
theorem cnt_below {r : RulesD} {p : PlaceD} {n d : Nat} (hk : POkay r p) (hn : treD r n p ≤ 50000) (h12 : n ≤ 12) (hd : d ≤ n) : pftE r p 0 (d : Int) = 0 ∧ cntI r p (d : Int) = (cntD r d p : Int) := by
  have h1 := tre_mono r d n p hd
  have e : pftE r p 0 (d : Int) = 0 := by unfold pftE; rw [if_neg (by simpa using placeE_iff.2 hk), if_neg (by omega), if_neg (by simp; omega)]
  exact ⟨e, by rw [cntI, if_pos e]; simp⟩
def cseqTo (r : RulesD) (p : PlaceD) (k : Nat) : Nat := ((List.range k).map fun i => cntD r i p).sum
theorem cseqTo_succ (r : RulesD) (p : PlaceD) (k : Nat) : cseqTo r p (k + 1) = cseqTo r p k + cntD r k p := by
  rw [cseqTo, List.range_succ]
  simp [cseqTo]
theorem cseqTo_mono (r : RulesD) (p : PlaceD) {k m : Nat} (h : k ≤ m) : cseqTo r p k ≤ cseqTo r p m := by
  induction h with
  | refl => exact Nat.le_refl _
  | step _ ih => rw [cseqTo_succ]; omega
theorem cseqTo_le (r : RulesD) (p : PlaceD) {k n : Nat} (h : k ≤ n + 1) : cseqTo r p k ≤ treD r n p := by
  rw [tre_sum]
  exact cseqTo_mono r p h
theorem cseqTo_all (r : RulesD) (p : PlaceD) (n : Nat) : cseqTo r p (n + 1) = treD r n p := (tre_sum r n p).symm
set_option maxHeartbeats 16000000 in
theorem perftParts_full (r : RulesD) (vp vs ve : Value) (p : PlaceD) (vc v0 v1 : Value) (x : Int) (w : World) (hr : RulesIn w r vp vs ve) (hp : PlaceIn w p vc v0 v1) (hT : Dir w) :
    Calls Tryz.prog 3 #[RulesV r vp vs ve, PlaceV p vc v0 v1, .int .i64 x] w fun e w' => e = .returned (.bool true) ∧ Below w.heap.size w w' := by
  obtain ⟨V, hV⟩ : ∃ V, V = (w.alloc (.cells (RulesCells r vp vs ve) 26)).alloc (.cells (PlaceCells p vc v0 v1) 29) := ⟨_, rfl⟩
  obtain ⟨hB, hY, hX⟩ := rp_boxes w r p vp vs ve vc v0 v1
  rw [← hV] at hB hY hX
  have HB := Lib.hid hB
  have HIR : Hid (∀ W, Below V.heap.size V W → RulesIn W r vp vs ve) := Lib.hid (fun W h => (hr.below hB (Nat.le_refl _)).below h (Nat.le_refl _))
  have HIP : Hid (∀ W, Below V.heap.size V W → PlaceIn W p vc v0 v1) := Lib.hid (fun W h => (hp.below hB (Nat.le_refl _)).below h (Nat.le_refl _))
  have HT : Hid (∀ W, Below V.heap.size V W → Dir W) := Lib.hid (fun W h => (hT.below hB (Nat.le_refl _)).below h (Nat.le_refl _))
  have HX : Hid (∀ W, Below V.heap.size V W → BoxP W (w.heap.size + 1) p vc v0 v1) := Lib.hid (fun W hb => hX.below hb (Nat.le_refl _))
  have HY : Hid (∀ W, Below V.heap.size V W → BoxR W w.heap.size r vp vs ve) := Lib.hid (fun W hb => hY.below hb (Nat.le_refl _))
  have HHV : Hid (∀ W, Below V.heap.size V W → Calls Tryz.prog 11 #[RulesV r vp vs ve, PlaceV p vc v0 v1, .int .i64 x] W (BelPost (.bool (heavyB r p x)) W)) := Lib.hid (fun W h => heavy_any r p vp vs ve vc v0 v1 x W (HIR.out W h) (HIP.out W h) (HT.out W h))
  have HTR : Hid (∀ W, Below V.heap.size V W → Calls Tryz.prog 12 #[RulesV r vp vs ve, PlaceV p vc v0 v1, .int .i64 x] W (BelPost (.tuple #[.int .i64 (treI r p 0 x), .int .i64 (pftE r p 0 x)]) W)) := Lib.hid (fun W h => tree_any r p vp vs ve vc v0 v1 x W (HIR.out W h) (HIP.out W h) (HT.out W h))
  have HDV : Hid (∀ W, Below V.heap.size V W → Calls Tryz.prog 6 #[RulesV r vp vs ve, PlaceV p vc v0 v1, .int .i64 x] W (DvdPost r p x W)) := Lib.hid (fun W h => divide_any r p vp vs ve vc v0 v1 x W (HIR.out W h) (HIP.out W h) (HT.out W h))
  have HCN : Hid (∀ (W : World) (y : Int), Below V.heap.size V W → Calls Tryz.prog 13 #[RulesV r vp vs ve, PlaceV p vc v0 v1, .int .i64 y] W (BelPost (.tuple #[.int .i64 (cntI r p y), .int .i64 (pftE r p 0 y)]) W)) := Lib.hid (fun W y h => count_any r p vp vs ve vc v0 v1 y W (HIR.out W h) (HIP.out W h) (HT.out W h))
  unfold DvdPost at HDV
  have HCS := Lib.hid (parts_cases r p x)
  have HCB : Hid (∀ d : Nat, POkay r p → treD r x.toNat p ≤ 50000 → x ≤ 12 → d ≤ x.toNat → pftE r p 0 (d : Int) = 0 ∧ cntI r p (d : Int) = (cntD r d p : Int)) := Lib.hid (fun d h1 h2 h3 h4 => cnt_below h1 h2 (by omega) h4)
  obtain ⟨E, hE⟩ : ∃ E, E = pftE r p 0 x := ⟨_, rfl⟩
  obtain ⟨F, hF⟩ : ∃ F, F = pftE r p 1 x := ⟨_, rfl⟩
  obtain ⟨T, hTT⟩ : ∃ T, T = treI r p 0 x := ⟨_, rfl⟩
  obtain ⟨C, hC⟩ : ∃ C, C = cntI r p x := ⟨_, rfl⟩
  obtain ⟨L, hL⟩ : ∃ L, L = dvdI r p 1 x := ⟨_, rfl⟩
  obtain ⟨H, hH⟩ : ∃ H, H = heavyB r p x := ⟨_, rfl⟩
  have HCX := Lib.hid (fun W h => HCN.out W x h)
  rw [← hE, ← hTT] at HTR
  rw [← hE, ← hC] at HCX
  rw [← hF, ← hL] at HDV
  rw [← hE, ← hF, ← hTT, ← hC, ← hL] at HCS
  rw [← hH] at HHV
  have hV' := hV
  unfold RulesCells PlaceCells at hV'
  unfold RulesV PlaceV PlaceCells at HHV HTR HDV HCN HCX
  unfold RulesV PlaceV PlaceCells
  clear hr hp hB hX hY hT hV hE hF hTT hC hL hH HIR HIP
  go_enter Tryz.func3, Tryz.ntmps3
  go_wp2_with fail
  rw [← hV']
  clear hV'
  go_at_call 7; refine (three_keep _).mono ?_; rintro e w1 ⟨vp', vs', ve', rfl, hin, hb⟩
  have HB1 := Lib.hid hb
  have HI1 := Lib.hid hin
  clear hb hin
  go_wp2_with fail
  go_at_call 8; refine (near_any _).mono ?_; rintro e w2 ⟨vc', v0', v1', rfl, hp', hb⟩
  have HB2 := Lib.hid (HB1.out.trans (hb.mono HB1.out.size))
  have HD2 := Lib.hid (divide_any three9 nearD vp' vs' ve' vc' v0' v1' 1 w2 (HI1.out.below hb (Nat.le_refl _)) hp' (HT.out w2 HB2.out))
  unfold DvdPost at HD2
  rw [near_l, near_e] at HD2
  clear hb hp' HB1 HI1
  go_wp2_with fail
  go_at_call 6; refine HD2.out.mono ?_; rintro e w3 ⟨a3, n3, c3, rfl, hI3, rfl, hb⟩
  have HB3 := Lib.hid (HB2.out.trans (hb.mono HB2.out.size))
  clear hb HB2 HD2
  rcases hI3 with ⟨h, _⟩ | ⟨g3, o3, cap3, e3, _, hc3, _, hq3⟩
  · cases h
  simp only [Value.slice.injEq] at e3
  obtain ⟨rfl, -, rfl⟩ := e3
  obtain ⟨k0, k1, k2, -⟩ := hq3 0 _ rfl
  rw [Nat.zero_mul, Nat.add_zero] at k0 k1 k2
  have HS : Hid (∀ W, Below w3.heap.size w3 W → W.cell? ⟨g3, o3, none⟩ = some (.int .i64 (-1)) ∧ W.cell? ⟨g3, o3 + 1, none⟩ = some (.int .i64 2) ∧ W.cell? ⟨g3, o3 + 2, none⟩ = some (.int .i64 0)) := by
    have h0 := Lib.hid k0
    have h1 := Lib.hid k1
    have h2 := Lib.hid k2
    exact Lib.hid (fun W h => ⟨cell_keeps h (Nat.le_refl _) h0.out, cell_keeps h (Nat.le_refl _) h1.out, cell_keeps h (Nat.le_refl _) h2.out⟩)
  have hlc3 : 5 ≤ c3 := by simpa using hc3
  clear hq3 hc3
  simp only [List.length_cons, List.length_nil]
  go_wp2_with fail
  have hBc : Below w3.heap.size w3 w3.drew := (Below.refl _ _).drew
  go_region_held3 (fun w' => w'.cell? ⟨g3, o3, none⟩ = some (.int .i64 (-1)) ∧ w'.cell? ⟨g3, o3 + 1, none⟩ = some (.int .i64 2) ∧ w'.cell? ⟨g3, o3 + 2, none⟩ = some (.int .i64 0)) (with_reducible exact HS.out _ hBc) (first
    | (go_at_call 9; refine (put_any _ _).mono ?_; rintro e w5 ⟨rfl, hb⟩; have hB5 := hBc.trans (hb.mono hBc.size); have hBc := hB5; clear hb hB5)
    | (go_at_call 10; refine (counted_keep _ (HT.out _ (HB3.out.trans (hBc.mono HB3.out.size)))).mono ?_; rintro e w5 ⟨rfl, hb⟩; have hB5 := hBc.trans (hb.mono hBc.size); have hBc := hB5; clear hb hB5))
  all_goals
    have HB5 := Lib.hid (HB3.out.trans (hBc.mono HB3.out.size))
    clear hBc k0 k1 k2 HS
    obtain ⟨x0, x1, x2, x3, x4⟩ := HX.out _ HB5.out
    obtain ⟨y0, y1, y2, y3, y4, y5, y6, y7, y8, y9, y10⟩ := HY.out _ HB5.out
    go_wp2_with fail
    go_at_call 11; refine (HHV.out _ HB5.out).mono ?_; rintro e w6 ⟨rfl, hb⟩
    have HB6 := Lib.hid (HB5.out.trans (hb.mono HB5.out.size))
    clear hb HB5 HHV x0 x1 x2 x3 x4 y0 y1 y2 y3 y4 y5 y6 y7 y8 y9 y10
    cases H
    · obtain ⟨x0, x1, x2, x3, x4⟩ := HX.out _ HB6.out
      obtain ⟨y0, y1, y2, y3, y4, y5, y6, y7, y8, y9, y10⟩ := HY.out _ HB6.out
      go_wp2_with fail
      go_at_call 12; refine (HTR.out _ HB6.out).mono ?_; rintro e w7 ⟨rfl, hb⟩
      have HB7 := Lib.hid (HB6.out.trans (hb.mono HB6.out.size))
      clear hb HB6 HTR x0 x1 x2 x3 x4 y0 y1 y2 y3 y4 y5 y6 y7 y8 y9 y10
      obtain ⟨x0, x1, x2, x3, x4⟩ := HX.out _ HB7.out
      obtain ⟨y0, y1, y2, y3, y4, y5, y6, y7, y8, y9, y10⟩ := HY.out _ HB7.out
      go_wp2_with fail
      go_at_call 6; refine (HDV.out _ HB7.out).mono ?_; rintro e w8 ⟨la, ln, lc, rfl, hI, hln, hb⟩
      have HB8 := Lib.hid (HB7.out.trans (hb.mono HB7.out.size))
      have HI8 := Lib.hid hI
      have HLN := Lib.hid hln
      clear hb HB7 HDV x0 x1 x2 x3 x4 y0 y1 y2 y3 y4 y5 y6 y7 y8 y9 y10 hI hln
      obtain ⟨x0, x1, x2, x3, x4⟩ := HX.out _ HB8.out
      obtain ⟨y0, y1, y2, y3, y4, y5, y6, y7, y8, y9, y10⟩ := HY.out _ HB8.out
      go_wp2_with fail
      go_at_call 13; refine (HCX.out _ HB8.out).mono ?_; rintro e w9 ⟨rfl, hb⟩
      have HB9 := Lib.hid (HB8.out.trans (hb.mono HB8.out.size))
      have HI9 := Lib.hid (HI8.out.below part_keeps hb (Nat.le_refl _))
      clear hb HB8 HI8 HCX x0 x1 x2 x3 x4 y0 y1 y2 y3 y4 y5 y6 y7 y8 y9 y10
      go_wp2_with fail
      go_at_call 14; refine (fine3_x E F E w9 _ rfl).mono ?_; rintro e w10 ⟨rfl, hb⟩
      have HB10 := Lib.hid (HB9.out.trans (hb.mono HB9.out.size))
      have HI10 := Lib.hid (HI9.out.below part_keeps hb (Nat.le_refl _))
      have HB := Lib.hid (HB.out.trans (HB10.out.mono HB.out.size))
      clear hb HB9 HI9
      rcases HCS.out with ⟨hE, hF, rfl, rfl, rfl⟩ | ⟨rfl, rfl, rfl, rfl, rfl, rfl⟩ | ⟨rfl, rfl, h1, h12, hsum, hs5, hl5, hT2, ht5, hok⟩
      · clear HCS
        have hE1 : (E != 0) = true := by simpa using hE
        have hE2 : (E == 0) = false := by simpa using hE
        obtain rfl : ln = 0 := by simpa using HLN.out
        rw [hE2]
        go_wp2_with fail
        go_ret
        exact ⟨rfl, HB.out⟩
      · clear HCS
        obtain rfl : ln = 0 := by simpa using HLN.out
        go_wp2_with fail
        go_ret
        exact ⟨rfl, HB.out⟩
      · clear HCS
        obtain ⟨a', lc', e1, hlc, hls⟩ := HI10.out.shape HLN.out
        simp only [Value.slice.injEq, true_and] at e1
        obtain ⟨rfl, rfl⟩ := e1
        have HLS : Hid (∀ W, Below w10.heap.size w10 W → ∀ k, k < ln → ∃ g o m1 m2 m3, ∃ c : Nat, la = some ⟨g, o, none⟩ ∧ L[k]? = some ((m1, m2, m3), c) ∧ W.cell? ⟨g, o + k * 4, none⟩ = some (.int .i64 m1) ∧ W.cell? ⟨g, o + k * 4 + 1, none⟩ = some (.int .i64 m2) ∧ W.cell? ⟨g, o + k * 4 + 2, none⟩ = some (.int .i64 m3) ∧ W.cell? ⟨g, o + k * 4 + 3, none⟩ = some (.int .i64 (c : Int))) := Lib.hid (fun W h k hk => by
          obtain ⟨g, o, ⟨⟨m1, m2, m3⟩, c⟩, i1, i2, i3⟩ := hls k hk
          obtain ⟨c0, c1, c2, c3⟩ := part_keeps _ _ _ _ _ _ h (Nat.le_refl _) i3
          exact ⟨g, o, m1, m2, m3, c, i1, i2, c0, c1, c2, c3⟩)
        have HTK : Hid (∀ k, sumP (L.take k) ≤ 50000) := Lib.hid (fun k => Nat.le_trans (sumP_take_le L k) hs5)
        have hln5 : ln ≤ 5000 := by rw [HLN.out]; exact hl5
        have HSUM := Lib.hid hsum
        have HT2 := Lib.hid hT2
        have HCD : Hid (∀ d : Nat, d ≤ x.toNat → pftE r p 0 (d : Int) = 0 ∧ cntI r p (d : Int) = (cntD r d p : Int)) := Lib.hid (fun d hd => HCB.out d hok ht5 h12 hd)
        have HCT : Hid (∀ k, k ≤ x.toNat + 1 → cseqTo r p k ≤ 50000) := Lib.hid (fun k hk => Nat.le_trans (cseqTo_le r p hk) ht5)
        obtain ⟨n, hnx⟩ : ∃ n : Nat, n = x.toNat := ⟨_, rfl⟩
        rw [← hnx] at HT2 HCD HCT
        have hxn : x = (n : Int) := by omega
        have hn12 : n ≤ 12 := by omega
        clear hls hsum hs5 hl5 hT2 ht5 hok HCB HI10 hnx
        subst hxn
        clear h1 h12
        go_wp2_with fail
        go_loopw [15, 17, 111] (fun s _ i wr => ∃ k : Nat, k ≤ ln ∧ s = .int .i64 (sumP (L.take k) : Int) ∧ i = .int .i64 (k : Int) ∧ Hid (Below w10.heap.size w10 wr)) (fun _ _ i _ => ln - (intOf i).toNat)
        case atStart => exact ⟨0, by omega, by simp [sumP], rfl, Lib.hid (Below.refl _ _)⟩
        case round =>
          obtain ⟨k, hk, rfl, rfl, hBr⟩ := hrel
          by_cases hlt : k < ln
          · obtain ⟨g, o, m1, m2, m3, c, rfl, hm, c0, c1, c2, c3⟩ := HLS.out wr hBr.out k hlt
            have hal := (Below.refl wr.heap.size wr).alloc (Nat.le_refl _) (.cells #[.int .i64 m1, .int .i64 m2, .int .i64 m3, .int .i64 (c : Int)] 39)
            have HBr2 := Lib.hid (hBr.out.trans (hal.mono hBr.out.size))
            have HTK1 : Hid (sumP (L.take (k + 1)) = sumP (L.take k) + c) := Lib.hid (sumP_take hm)
            have ht1 := HTK.out (k + 1)
            rw [HTK1.out] at ht1
            generalize sumP (L.take k) = s at ht1 HTK1 ⊢
            clear hal hm
            go_wp2_with fail
            go_roundw
            case rel => exact ⟨k + 1, by omega, by rw [HTK1.out]; go_num, by go_num, HBr2⟩
            case measure => simp [intOf]; omega
          · obtain rfl : k = ln := by omega
            have htk : L.take k = L := List.take_of_length_le (by rw [HLN.out]; exact Nat.le_refl _)
            rw [htk, HSUM.out]
            have HB11 := Lib.hid (HB10.out.trans (hBr.out.mono HB10.out.size))
            have HBw := Lib.hid (HB.out.trans (hBr.out.mono (by have := HB.out.size; omega)))
            clear htk HLS HTK hlt hk hBr
            go_wp2_with fail
            go_loopw [18, 19, 20, 21, 122] (fun s _ _ _ i ws => ∃ k : Nat, k ≤ n + 1 ∧ s = .int .i64 (cseqTo r p k : Int) ∧ i = .int .i64 (k : Int) ∧ Hid (Below wr.heap.size wr ws)) (fun _ _ _ _ i _ => n + 1 - (intOf i).toNat)
            case atStart => exact ⟨0, by omega, rfl, rfl, Lib.hid (Below.refl _ _)⟩
            case round =>
              obtain ⟨k, hk, rfl, rfl, hBs⟩ := hrel
              have HBV := Lib.hid (HB11.out.trans (hBs.out.mono HB11.out.size))
              by_cases hlt : k < n + 1
              · obtain ⟨x0, x1, x2, x3, x4⟩ := HX.out _ HBV.out
                obtain ⟨y0, y1, y2, y3, y4, y5, y6, y7, y8, y9, y10⟩ := HY.out _ HBV.out
                have HCK := Lib.hid (HCN.out _ (k : Int) HBV.out)
                obtain ⟨z1, z2⟩ := HCD.out k (by omega)
                rw [z1, z2] at HCK
                have HTK1 := Lib.hid (cseqTo_succ r p k)
                have ht1 := HCT.out (k + 1) (by omega)
                rw [HTK1.out] at ht1
                have HS0 : Hid (cseqTo r p k = cseqTo r p k) := Lib.hid rfl
                clear z1 z2
                generalize cseqTo r p k = s at ht1 HTK1 HS0 ⊢
                generalize cntD r k p = c at ht1 HTK1 HCK ⊢
                go_wp2_with fail
                go_at_call 13; refine HCK.out.mono ?_; rintro e w13 ⟨rfl, hb⟩
                have HB13 := Lib.hid (hBs.out.trans (hb.mono hBs.out.size))
                clear hb HCK x0 x1 x2 x3 x4 y0 y1 y2 y3 y4 y5 y6 y7 y8 y9 y10
                go_wp2_with fail
                go_roundw
                case rel => exact ⟨k + 1, by omega, by rw [HTK1.out]; go_num, by go_num, HB13⟩
                case measure => simp [intOf]; omega
              · obtain rfl : k = n + 1 := by omega
                rw [cseqTo_all, HT2.out]
                have hd1 : (C == C) = true := by simp
                have HBE := Lib.hid (HBw.out.trans (hBs.out.mono (by have := HBw.out.size; omega)))
                generalize treD r n p = tt
                have hd2 : (((tt : Nat) : Int) == (tt : Int)) = true := by simp
                go_wp2_with fail
                go_ret
                exact ⟨rfl, HBE.out⟩
    · go_wp2_with fail
      go_ret
      exact ⟨rfl, HB.out.trans (HB6.out.mono HB.out.size)⟩
end Go.Proofs.YtdhhdkbnlddnbaaGreatDoor
