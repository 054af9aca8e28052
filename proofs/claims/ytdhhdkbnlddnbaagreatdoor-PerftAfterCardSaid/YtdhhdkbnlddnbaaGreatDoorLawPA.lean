/- The law PerftAfter: the sequences that begin with a move are those of the position after it. (Written by genlawpf.py.) -/
import Derived.Test.YtdhhdkbnlddnbaaGreatDoorPftK
import Derived.Test.YtdhhdkbnlddnbaaGreatDoorOpnA
set_option maxRecDepth 100000
namespace Go.Proofs.YtdhhdkbnlddnbaaGreatDoor
open Go.ChangeShapes Go.WideShapes Go.ChangeAt Go.RowKit

theorem dvd_after {r : RulesD} {p : PlaceD} {x : Int} (h : pftE r p 1 x = 0) : ∃ d : Nat, x = (d : Int) + 1 ∧ d ≤ 11 ∧ POkay r p ∧ (dvdI r p 1 x).length ≤ 5000 ∧ ∀ (m : MoveD) (c : Nat), (m, c) ∈ dvdI r p 1 x → legalB r p m = true ∧ c ≤ 50000 ∧ pftE r (afterD r p m) 0 (d : Int) = 0 ∧ cntI r (afterD r p m) (d : Int) = (c : Int) := by
  obtain ⟨hk, h0, h1, h2⟩ := pftE_in h
  obtain ⟨d, hd⟩ : ∃ d : Nat, x.toNat = d + 1 := ⟨x.toNat - 1, by omega⟩
  rw [hd] at h2
  have e : dvdI r p 1 x = partsD r d p := by rw [dvdI, if_pos h, hd]; rfl
  rw [e]
  refine ⟨d, by omega, by omega, hk, by rw [partsD, List.length_map]; exact steps_length hk, fun m c hm => ?_⟩
  obtain ⟨y, hy, e2⟩ := List.mem_map.1 hm
  simp only [Prod.mk.injEq] at e2
  obtain ⟨rfl, rfl⟩ := e2
  have h3 := tre_after (d := d) hy
  have h4 := cnt_tre r d d (afterD r p y) (Nat.le_refl _)
  have e3 : pftE r (afterD r p y) 0 (d : Int) = 0 := by
    unfold pftE
    rw [if_neg (by simpa using placeE_iff.2 (steps_okay hk hy)), if_neg (by omega), if_neg (by simp; omega)]
  exact ⟨(steps_legal hy).2, by omega, e3, by rw [cntI, if_pos e3]; simp⟩
set_option maxHeartbeats 16000000 in
theorem perftAfter_full (r : RulesD) (vp vs ve : Value) (p : PlaceD) (vc v0 v1 : Value) (x n : Int) (w : World) (hr : RulesIn w r vp vs ve) (hp : PlaceIn w p vc v0 v1) (hT : Dir w) :
    Calls Tryz.prog 4 #[RulesV r vp vs ve, PlaceV p vc v0 v1, .int .i64 x, .int .i64 n] w fun e w' => e = .returned (.bool true) ∧ Below w.heap.size w w' := by
  obtain ⟨V, hV⟩ : ∃ V, V = (w.alloc (.cells (RulesCells r vp vs ve) 26)).alloc (.cells (PlaceCells p vc v0 v1) 29) := ⟨_, rfl⟩
  obtain ⟨hB, hY, hX⟩ := rp_boxes w r p vp vs ve vc v0 v1
  rw [← hV] at hB hY hX
  have HB := Lib.hid hB
  have HIR : Hid (∀ W, Below V.heap.size V W → RulesIn W r vp vs ve) := Lib.hid (fun W h => (hr.below hB (Nat.le_refl _)).below h (Nat.le_refl _))
  have HIP : Hid (∀ W, Below V.heap.size V W → PlaceIn W p vc v0 v1) := Lib.hid (fun W h => (hp.below hB (Nat.le_refl _)).below h (Nat.le_refl _))
  have HT : Hid (∀ W, Below V.heap.size V W → Dir W) := Lib.hid (fun W h => (hT.below hB (Nat.le_refl _)).below h (Nat.le_refl _))
  have HX : Hid (∀ W, Below V.heap.size V W → BoxP W (w.heap.size + 1) p vc v0 v1) := Lib.hid (fun W hb => hX.below hb (Nat.le_refl _))
  have HY : Hid (∀ W, Below V.heap.size V W → BoxR W w.heap.size r vp vs ve) := Lib.hid (fun W hb => hY.below hb (Nat.le_refl _))
  have HHV : Hid (∀ W, Below V.heap.size V W → Calls Tryz.prog 11 #[RulesV r vp vs ve, PlaceV p vc v0 v1, .int .i64 x] W (BelPost (.bool (heavyB r p x)) W)) := Lib.hid (fun W h => heavy_any r p vp vs ve vc v0 v1 x W (HIR.out W h) (HIP.out W h) (HT.out W h))
  have HDV : Hid (∀ W, Below V.heap.size V W → Calls Tryz.prog 6 #[RulesV r vp vs ve, PlaceV p vc v0 v1, .int .i64 x] W (DvdPost r p x W)) := Lib.hid (fun W h => divide_any r p vp vs ve vc v0 v1 x W (HIR.out W h) (HIP.out W h) (HT.out W h))
  unfold DvdPost at HDV
  have HAF : Hid (∀ (W : World) (m : MoveD), Below V.heap.size V W → POkay r p → legalB r p m = true → Calls Tryz.prog 17 #[RulesV r vp vs ve, PlaceV p vc v0 v1, moveV m] W (MadeP (afterD r p m) W)) := Lib.hid (fun W m h hk hl => (After_any r p vp vs ve vc v0 v1 m W (HIR.out W h) (HIP.out W h)).mono fun _ _ h2 => by
    have he : afterE r p m = 0 := by rw [afterE, if_pos (placeE_iff.2 hk), if_pos hl]
    rcases h2 with ⟨_, h2⟩ | ⟨h2, _⟩
    · exact h2
    · exact absurd he h2)
  have HDA := Lib.hid (fun h => dvd_after (r := r) (p := p) (x := x) h)
  have HDB := Lib.hid (fun h => dvdI_bad (r := r) (p := p) (least := 1) (x := x) h)
  obtain ⟨F, hF⟩ : ∃ F, F = pftE r p 1 x := ⟨_, rfl⟩
  obtain ⟨L, hL⟩ : ∃ L, L = dvdI r p 1 x := ⟨_, rfl⟩
  obtain ⟨H, hH⟩ : ∃ H, H = heavyB r p x := ⟨_, rfl⟩
  rw [← hF, ← hL] at HDV HDA HDB
  rw [← hH] at HHV
  have hV' := hV
  unfold RulesCells PlaceCells at hV'
  unfold RulesV PlaceV PlaceCells at HHV HDV HAF
  unfold moveV at HAF
  unfold RulesV PlaceV PlaceCells
  clear hr hp hB hX hY hT hV hF hL hH HIP
  go_enter Tryz.func4, Tryz.ntmps4
  go_wp2_with fail
  rw [← hV']
  clear hV'
  go_at_call 10; refine (counted_keep _ (HT.out _ (Below.refl _ _))).mono ?_; rintro e wa ⟨rfl, hb⟩
  have HBa := Lib.hid hb
  clear hb
  go_wp2_with fail
  go_at_call 15; refine (plays_any _).mono ?_; rintro e wb ⟨rfl, hb⟩
  have HBb := Lib.hid (HBa.out.trans (hb.mono HBa.out.size))
  clear hb HBa
  go_wp2_with fail
  go_at_call 7; refine (three_keep _).mono ?_; rintro e w1 ⟨vp', vs', ve', rfl, hin, hb⟩
  have HB1 := Lib.hid (HBb.out.trans (hb.mono HBb.out.size))
  have HI1 := Lib.hid hin
  clear hb hin HBb
  go_wp2_with fail
  go_at_call 8; refine (near_any _).mono ?_; rintro e w2 ⟨vc', v0', v1', rfl, hp', hb⟩
  have HB2 := Lib.hid (HB1.out.trans (hb.mono HB1.out.size))
  have HD2 := Lib.hid (divide_any three9 nearD vp' vs' ve' vc' v0' v1' 1 w2 (HI1.out.below hb (Nat.le_refl _)) hp' (HT.out w2 HB2.out))
  unfold DvdPost at HD2
  rw [near_l, near_e] at HD2
  clear hb hp' HB1 HI1
  go_wp2_with fail
  go_at_call 6; refine HD2.out.mono ?_; rintro e w3 ⟨a3, n3, c3, rfl, hI3, rfl, hb⟩
  have HB3 := Lib.hid (HB2.out.trans (hb.mono HB2.out.size))
  clear hb HB2 HD2
  simp only [List.length_cons, List.length_nil]
  clear hI3
  obtain ⟨x0, x1, x2, x3, x4⟩ := HX.out _ HB3.out
  obtain ⟨y0, y1, y2, y3, y4, y5, y6, y7, y8, y9, y10⟩ := HY.out _ HB3.out
  go_wp2_with fail
  go_at_call 11; refine (HHV.out _ HB3.out).mono ?_; rintro e w6 ⟨rfl, hb⟩
  have HB6 := Lib.hid (HB3.out.trans (hb.mono HB3.out.size))
  clear hb HB3 HHV x0 x1 x2 x3 x4 y0 y1 y2 y3 y4 y5 y6 y7 y8 y9 y10
  cases H
  · obtain ⟨x0, x1, x2, x3, x4⟩ := HX.out _ HB6.out
    obtain ⟨y0, y1, y2, y3, y4, y5, y6, y7, y8, y9, y10⟩ := HY.out _ HB6.out
    go_wp2_with fail
    go_at_call 6; refine (HDV.out _ HB6.out).mono ?_; rintro e w8 ⟨la, ln, lc, rfl, hI, hln, hb⟩
    have HB8 := Lib.hid (HB6.out.trans (hb.mono HB6.out.size))
    have HI8 := Lib.hid hI
    have HLN := Lib.hid hln
    clear hb HB6 HDV x0 x1 x2 x3 x4 y0 y1 y2 y3 y4 y5 y6 y7 y8 y9 y10 hI hln
    by_cases hF : F = 0
    · obtain ⟨d, rfl, hd11, hok, hl5, hmem⟩ := HDA.out hF
      have hln5 : ln ≤ 5000 := by rw [HLN.out]; exact hl5
      have HOK := Lib.hid hok
      have HMM := Lib.hid hmem
      clear HDA HDB hok hl5 hmem
      subst hF
      by_cases h0 : ln = 0
      · subst h0
        go_wp2_with fail
        go_ret
        exact ⟨rfl, HB.out.trans (HB8.out.mono HB.out.size)⟩
      · have hd0 : ((ln : Int) == 0) = false := by simp; omega
        have HSM := Lib.hid (someP_any L la ln lc n w8 HI8.out HLN.out (by omega) hln5)
        go_wp2_with fail
        go_at_call 16; refine HSM.out.mono ?_; rintro e w9 ⟨m1, m2, m3, c, hm, rfl, hb⟩
        have HB9 := Lib.hid (HB8.out.trans (hb.mono HB8.out.size))
        obtain ⟨hl, hc5, hE, hC⟩ := HMM.out _ _ hm
        have HL := Lib.hid hl
        have HEC := Lib.hid (And.intro hE hC)
        clear hb HB8 HSM HI8 hm hl hE hC HMM hd0 h0
        have hal := (Below.refl w9.heap.size w9).alloc (Nat.le_refl _) (.cells #[.int .i64 m1, .int .i64 m2, .int .i64 m3, .int .i64 (c : Int)] 39)
        have hmb := heap_alloc_new w9 (.cells #[.int .i64 m1, .int .i64 m2, .int .i64 m3, .int .i64 (c : Int)] 39)
        obtain ⟨wm, hwm⟩ : ∃ wm, wm = w9.alloc (.cells #[.int .i64 m1, .int .i64 m2, .int .i64 m3, .int .i64 (c : Int)] 39) := ⟨_, rfl⟩
        rw [← hwm] at hal hmb
        have HBm := Lib.hid (HB9.out.trans (hal.mono HB9.out.size))
        have HMB : Hid (∀ W, Below wm.heap.size wm W → W.cell? ⟨w9.heap.size, 0, none⟩ = some (.int .i64 m1) ∧ W.cell? ⟨w9.heap.size, 1, none⟩ = some (.int .i64 m2) ∧ W.cell? ⟨w9.heap.size, 2, none⟩ = some (.int .i64 m3) ∧ W.cell? ⟨w9.heap.size, 3, none⟩ = some (.int .i64 (c : Int))) := Lib.hid (fun W h => by
          have h1 := bkeep hmb h
          exact ⟨cell_of_row W _ 0 _ _ (0, 0) h1, cell_of_row W _ 1 _ _ (0, 0) h1, cell_of_row W _ 2 _ _ (0, 0) h1, cell_of_row W _ 3 _ _ (0, 0) h1⟩)
        obtain ⟨x0, x1, x2, x3, x4⟩ := HX.out _ HBm.out
        obtain ⟨y0, y1, y2, y3, y4, y5, y6, y7, y8, y9, y10⟩ := HY.out _ HBm.out
        obtain ⟨n0, n1, n2, n3⟩ := HMB.out _ (Below.refl _ _)
        have hwm' := hwm
        rw [hwm] at x0 x1 x2 x3 x4 y0 y1 y2 y3 y4 y5 y6 y7 y8 y9 y10 n0 n1 n2 n3
        obtain ⟨q2, hq2⟩ : ∃ q2, q2 = afterD r p (m1, m2, m3) := ⟨_, rfl⟩
        have HAQ := Lib.hid (HAF.out wm (m1, m2, m3) HBm.out HOK.out HL.out)
        rw [← hq2] at HAQ HEC
        clear hal hmb hwm HAF HL hq2
        go_wp2_with fail
        rw [← hwm']
        clear hwm' x0 x1 x2 x3 x4 y0 y1 y2 y3 y4 y5 y6 y7 y8 y9 y10 n0 n1 n2 n3
        go_at_call 17; refine HAQ.out.mono ?_; rintro e w10 ⟨ca, cn, cc, a0, an0, ac0, a1, an1, ac1, rfl, hpf, hb⟩
        have hB10 := HBm.out.trans (hb.mono HBm.out.size)
        have hm10 := hb
        have hpl : PlaceIn w10 q2 (.slice ca cn cc) (.slice a0 an0 ac0) (.slice a1 an1 ac1) := hpf.plain
        have hal := (Below.refl w10.heap.size w10).alloc (Nat.le_refl _) (.cells (PlaceCells q2 (.slice ca cn cc) (.slice a0 an0 ac0) (.slice a1 an1 ac1)) 29)
        have hbx := PBox.new w10 29 q2 (.slice ca cn cc) (.slice a0 an0 ac0) (.slice a1 an1 ac1)
        obtain ⟨wq, hwq⟩ : ∃ wq, wq = w10.alloc (.cells (PlaceCells q2 (.slice ca cn cc) (.slice a0 an0 ac0) (.slice a1 an1 ac1)) 29) := ⟨_, rfl⟩
        rw [← hwq] at hal hbx
        have hBq := hB10.trans (hal.mono hB10.size)
        have HBq := Lib.hid hBq
        have HMQ := Lib.hid (hm10.trans (hal.mono hm10.size))
        have HCQ : Hid (∀ y : Int, y = (d : Int) → Calls Tryz.prog 13 #[RulesV r vp vs ve, PlaceV q2 (.slice ca cn cc) (.slice a0 an0 ac0) (.slice a1 an1 ac1), .int .i64 y] wq (BelPost (.tuple #[.int .i64 (c : Int), .int .i64 0]) wq)) := Lib.hid (fun y hy => by
          have h1 := count_any r q2 vp vs ve (.slice ca cn cc) (.slice a0 an0 ac0) (.slice a1 an1 ac1) y wq (HIR.out _ hBq) (hpl.below hal (Nat.le_refl _)) (HT.out _ hBq)
          rw [hy, HEC.out.1, HEC.out.2] at h1
          rw [hy]; exact h1)
        unfold RulesV PlaceV PlaceCells at HCQ
        obtain ⟨⟨p0, p1, p2, p3, p4⟩, -⟩ := hbx.facts
        obtain ⟨y0, y1, y2, y3, y4, y5, y6, y7, y8, y9, y10⟩ := HY.out _ hBq
        have hwq' := hwq
        unfold PlaceCells at hwq'
        rw [hwq'] at p0 p1 p2 p3 p4 y0 y1 y2 y3 y4 y5 y6 y7 y8 y9 y10
        clear hb hB10 hm10 hpf hpl hal hbx hBq hwq HAQ HBm
        go_wp2_with fail
        rw [← hwq']
        clear hwq' p0 p1 p2 p3 p4 y0 y1 y2 y3 y4 y5 y6 y7 y8 y9 y10
        go_at_call 13; refine (HCQ.out _ (by first | omega | (rw [IntKind.wrap_i64]; omega))).mono ?_; rintro e w11 ⟨rfl, hb⟩
        have HB11 := Lib.hid (HBq.out.trans (hb.mono HBq.out.size))
        have HM11 := Lib.hid (HMQ.out.trans (hb.mono HMQ.out.size))
        clear hb HBq HMQ HCQ
        go_wp2_with fail
        go_at_call 14; refine (fine2 w11 _ rfl).mono ?_; rintro e w12 ⟨rfl, hb⟩
        have HB12 := Lib.hid (HB11.out.trans (hb.mono HB11.out.size))
        obtain ⟨-, -, -, n3⟩ := HMB.out _ (HM11.out.trans (hb.mono HM11.out.size))
        have hcc : ((c : Int) == (c : Int)) = true := by simp
        clear hb HB11 HM11
        go_wp2_with fail
        go_ret
        exact ⟨rfl, HB.out.trans (HB12.out.mono HB.out.size)⟩
    · have hLN : ln = 0 := by rw [HLN.out, HDB.out hF]; rfl
      subst hLN
      have hne : (F != 0) = true := by simpa using hF
      clear HDA HDB
      go_wp2_with fail
      go_ret
      exact ⟨rfl, HB.out.trans (HB8.out.mono HB.out.size)⟩
  · go_wp2_with fail
    go_ret
    exact ⟨rfl, HB.out.trans (HB6.out.mono HB.out.size)⟩
end Go.Proofs.YtdhhdkbnlddnbaaGreatDoor
