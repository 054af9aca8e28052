/- Package perft, as the statements of gamehalllaw1 use it. (Written by genpftl.py.) -/
import Derived.Test.YtdhhdkbnlddnbaaGreatDoorPftF
import Derived.Test.YtdhhdkbnlddnbaaGreatDoorPlayD
import Derived.Test.YtdhhdkbnlddnbaaGreatDoorRefT
import Derived.Test.YtdhhdkbnlddnbaaGreatDoorRefE
import Derived.Test.YtdhhdkbnlddnbaaGreatDoorPutL
import Derived.Test.YtdhhdkbnlddnbaaGreatDoorOthA
set_option maxRecDepth 100000
namespace Go.Proofs.YtdhhdkbnlddnbaaGreatDoor
open Go.ChangeShapes Go.WideShapes Go.ChangeAt Go.RowKit

theorem nearL_e : pftE three9 nearD 1 1 = 0 := by decide +kernel
theorem nearL_l : dvdI three9 nearD 1 1 = [((-1, 2, 0), 1), ((-1, 5, 0), 1), ((-1, 6, 0), 1), ((-1, 7, 0), 1), ((-1, 8, 0), 1)] := by decide +kernel
theorem b9_pe : pftE three9 b9 0 2 = 0 := by decide +kernel
theorem b9_pc : cntI three9 b9 2 = 72 := by decide +kernel
theorem b9_pt : treI three9 b9 0 2 = 82 := by decide +kernel
set_option maxHeartbeats 2000000 in
theorem near_law (w : World) : Calls Tryz.prog 19 #[] w (PlacePost nearD w) := by
  go_enter Tryz.func19, Tryz.ntmps19
  go_wp2_with fail
  refine bodyPost_ret (v := PlaceV nearD (.slice (some ⟨w.heap.size + 1, 0, none⟩) 9 9) (.slice (some ⟨w.heap.size + 1 + 1, 0, none⟩) 1 1) (.slice (some ⟨w.heap.size + 1 + 1 + 1, 0, none⟩) 1 1)) (by simp [results, Tryz.results19, go_sem, PlaceV, PlaceCells, nearD]) rfl ⟨_, _, _, rfl, ⟨?_, ?_, ?_⟩, ?_⟩
  · refine .inr ⟨_, 0, 9, rfl, by simp [nearD], by simp [nearD], by decide, fun i x hx => ?_⟩
    have hi : i < 9 := (List.getElem?_eq_some_iff.1 hx).1
    match i, hi, hx with
    | 0, _, hx | 1, _, hx | 2, _, hx | 3, _, hx | 4, _, hx | 5, _, hx | 6, _, hx | 7, _, hx | 8, _, hx => obtain rfl := Option.some.inj hx; simp [IntAt, go_sem]
  · refine .inr ⟨_, 0, 1, rfl, by simp [nearD], by simp [nearD], by decide, fun i x hx => ?_⟩
    have hi : i < 1 := (List.getElem?_eq_some_iff.1 hx).1
    match i, hi, hx with
    | 0, _, hx => obtain rfl := Option.some.inj hx; simp [IntAt, go_sem]
  · refine .inr ⟨_, 0, 1, rfl, by simp [nearD], by simp [nearD], by decide, fun i x hx => ?_⟩
    have hi : i < 1 := (List.getElem?_eq_some_iff.1 hx).1
    match i, hi, hx with
    | 0, _, hx => obtain rfl := Option.some.inj hx; simp [IntAt, go_sem]
  · simp only [World.alloc]
    exact ((((Below.refl _ _).alloc (by simp) _).alloc (by simp <;> omega) _).alloc (by simp <;> omega) _).alloc (by simp <;> omega) _

/-! ### counted -/
def BegPL (w : World) (e : Ending) (w' : World) : Prop := ∃ ca cn cc a0 n0 c0 a1 n1 c1, e = .returned (.tuple #[.agg #[.slice ca cn cc, .slice a0 n0 c0, .slice a1 n1 c1, .int .i64 0, .int .i64 0], .int .i64 0]) ∧ PlaceIn w' b9 (.slice ca cn cc) (.slice a0 n0 c0) (.slice a1 n1 c1) ∧ Below w.heap.size w w'
theorem begin9L (vp vs ve : Value) (w : World) (hr : RulesIn w three9 vp vs ve) : Calls Tryz.prog 33 #[RulesV three9 vp vs ve] w (BegPL w) := by
  refine (begin_ok three9 vp vs ve w hr three9_ok).mono ?_
  rintro e w' ⟨vc, v0, v1, rfl, hi, hb⟩
  rw [b9_eq] at hi
  obtain ⟨ca, cn, cc, rfl⟩ := hi.c.form
  obtain ⟨a0, n0, c0, rfl⟩ := hi.a.form
  obtain ⟨a1, n1, c1, rfl⟩ := hi.b.form
  exact ⟨ca, cn, cc, a0, n0, c0, a1, n1, c1, rfl, hi, hb⟩
set_option maxHeartbeats 8000000 in
theorem counted_law (w : World) (hT : Dir w) : Calls Tryz.prog 21 #[] w (BelPost (.bool true) w) := by
  have HT : Hid (∀ W, Below w.heap.size w W → Dir W) := Lib.hid (fun W h => hT.below h (Nat.le_refl _))
  clear hT
  go_enter Tryz.func21, Tryz.ntmps21
  go_wp2_with fail
  go_at_call 18; refine (three_law _).mono ?_; rintro e w1 ⟨vp, vs, ve, rfl, hin, hb⟩
  have HB1 := Lib.hid hb
  have HBG := Lib.hid (begin9L vp vs ve w1 hin)
  clear hb hin
  go_wp2_with fail
  go_at_call 33; refine HBG.out.mono ?_; rintro e w2 ⟨ca, cn, cc, a0, an0, ac0, a1, an1, ac1, rfl, hp, hb⟩
  have hB2 := HB1.out.trans (hb.mono HB1.out.size)
  have hal := (Below.refl w2.heap.size w2).alloc (Nat.le_refl _) (.cells (PlaceCells b9 (.slice ca cn cc) (.slice a0 an0 ac0) (.slice a1 an1 ac1)) 29)
  have hbx := PBox.new w2 29 b9 (.slice ca cn cc) (.slice a0 an0 ac0) (.slice a1 an1 ac1)
  obtain ⟨wq, hwq⟩ : ∃ wq, wq = w2.alloc (.cells (PlaceCells b9 (.slice ca cn cc) (.slice a0 an0 ac0) (.slice a1 an1 ac1)) 29) := ⟨_, rfl⟩
  rw [← hwq] at hal hbx
  obtain ⟨pb, hpb⟩ : ∃ pb, pb = w2.heap.size := ⟨_, rfl⟩
  rw [← hpb] at hbx
  have HBX := Lib.hid hbx
  have HP : Hid (∀ W, Below wq.heap.size wq W → PlaceIn W b9 (.slice ca cn cc) (.slice a0 an0 ac0) (.slice a1 an1 ac1)) := Lib.hid (fun W h => (hp.below hal (Nat.le_refl _)).below h (Nat.le_refl _))
  have HBQ := Lib.hid (hB2.trans (hal.mono hB2.size))
  have HS : Hid (∀ W, Below wq.heap.size wq W → W.cell? ⟨pb, 0, none⟩ = some (.slice ca cn cc) ∧ W.cell? ⟨pb, 1, none⟩ = some (.slice a0 an0 ac0) ∧ W.cell? ⟨pb, 2, none⟩ = some (.slice a1 an1 ac1) ∧ W.cell? ⟨pb, 3, none⟩ = some (.int .i64 0) ∧ W.cell? ⟨pb, 4, none⟩ = some (.int .i64 0)) := Lib.hid (fun W h => by
    obtain ⟨h1, -⟩ := (HBX.out.below h HBX.out.lt).facts
    exact h1)
  have hwq' := hwq
  unfold PlaceCells at hwq'
  clear hb hB2 hal hbx hwq hp HBG HB1
  go_wp2_with fail
  rw [show b9.turn = 0 from rfl, show b9.quiet = 0 from rfl] at hwq'
  rw [← hwq', ← hpb]
  clear hwq' hpb
  have hBc : Below wq.heap.size wq wq.drew := (Below.refl wq.heap.size wq).drew
  obtain ⟨p0, p1, p2, p3, p4⟩ := HS.out _ (Below.refl wq.heap.size wq)
  go_region_held3 (fun w' => w'.cell? ⟨pb, 0, none⟩ = some (.slice ca cn cc) ∧ w'.cell? ⟨pb, 1, none⟩ = some (.slice a0 an0 ac0) ∧ w'.cell? ⟨pb, 2, none⟩ = some (.slice a1 an1 ac1) ∧ w'.cell? ⟨pb, 3, none⟩ = some (.int .i64 0) ∧ w'.cell? ⟨pb, 4, none⟩ = some (.int .i64 0)) (with_reducible exact HS.out _ hBc) (first
    | (go_at_call 18; refine (three_law _).mono ?_; rintro e w5 ⟨vp', vs', ve', rfl, hin, hb⟩; have hB5 := hBc.trans (hb.mono hBc.size); have hCN := count_any three9 b9 vp' vs' ve' _ _ _ 2 w5 hin (HP.out _ hB5) (HT.out _ (HBQ.out.trans (hB5.mono HBQ.out.size))); rw [b9_pc, b9_pe] at hCN; unfold RulesV PlaceV PlaceCells at hCN; have HCN := Lib.hid hCN; have hBc := hB5; clear hb hB5 hin hCN)
    | (go_at_call 13; refine HCN.out.mono ?_; rintro e w5 ⟨rfl, hb⟩; have hB5 := hBc.trans (hb.mono hBc.size); have hBc := hB5; clear hb hB5))
  have HBD := Lib.hid hBc
  clear hBc p0 p1 p2 p3 p4 HCN
  go_wp2_with fail
  have hBc : Below wq.heap.size wq w5.drew := HBD.out.drew
  obtain ⟨p0, p1, p2, p3, p4⟩ := HS.out _ HBD.out
  go_region_held3 (fun w' => w'.cell? ⟨pb, 0, none⟩ = some (.slice ca cn cc) ∧ w'.cell? ⟨pb, 1, none⟩ = some (.slice a0 an0 ac0) ∧ w'.cell? ⟨pb, 2, none⟩ = some (.slice a1 an1 ac1) ∧ w'.cell? ⟨pb, 3, none⟩ = some (.int .i64 0) ∧ w'.cell? ⟨pb, 4, none⟩ = some (.int .i64 0)) (with_reducible exact HS.out _ hBc) (first
    | (go_at_call 18; refine (three_law _).mono ?_; rintro e w5 ⟨vp', vs', ve', rfl, hin, hb⟩; have hB5 := hBc.trans (hb.mono hBc.size); have hCN := tree_any three9 b9 vp' vs' ve' _ _ _ 2 w5 hin (HP.out _ hB5) (HT.out _ (HBQ.out.trans (hB5.mono HBQ.out.size))); rw [b9_pt, b9_pe] at hCN; unfold RulesV PlaceV PlaceCells at hCN; have HCN := Lib.hid hCN; have hBc := hB5; clear hb hB5 hin hCN)
    | (go_at_call 12; refine HCN.out.mono ?_; rintro e w5 ⟨rfl, hb⟩; have hB5 := hBc.trans (hb.mono hBc.size); have hBc := hB5; clear hb hB5))
  have HBD := Lib.hid hBc
  clear hBc p0 p1 p2 p3 p4 HCN
  go_wp2_with fail
  go_ret
  exact ⟨rfl, HBQ.out.trans (HBD.out.mono HBQ.out.size)⟩

/-! ### light -/
def lightB (r : RulesD) (p : PlaceD) (x : Int) : Bool := placeE r p != 0 || (!inB x 0 12 || (decide ((p.cells.length : Int) ≤ 20) && decide (treD r x.toNat p ≤ 1200)))
set_option maxHeartbeats 8000000 in
theorem light_any (r : RulesD) (p : PlaceD) (vp vs ve vc v0 v1 : Value) (x : Int) (w : World) (hr : RulesIn w r vp vs ve) (hf : LettersFit r.pieces) (hp : PlaceIn w p vc v0 v1) :
    Calls Tryz.prog 22 #[RulesV r vp vs ve, PlaceV p vc v0 v1, .int .i64 x] w (BelPost (.bool (lightB r p x)) w) := by
  obtain ⟨m, hm⟩ : ∃ m, m = p.cells.length := ⟨_, rfl⟩
  obtain ⟨ca, cc, rfl, hcc, _⟩ := hp.c.shape hm
  obtain ⟨hB, hY, hX⟩ := rp_boxes w r p vp vs ve (.slice ca m cc) v0 v1
  obtain ⟨V, hV⟩ : ∃ V, V = (w.alloc (.cells (RulesCells r vp vs ve) 26)).alloc (.cells (PlaceCells p (.slice ca m cc) v0 v1) 29) := ⟨_, rfl⟩
  rw [← hV] at hB hY hX
  have HB := Lib.hid hB
  have HIR : Hid (∀ W, Below V.heap.size V W → RulesIn W r vp vs ve) := Lib.hid (fun W h => (hr.below hB (Nat.le_refl _)).below h (Nat.le_refl _))
  have HIP : Hid (∀ W, Below V.heap.size V W → PlaceIn W p (.slice ca m cc) v0 v1) := Lib.hid (fun W h => (hp.below hB (Nat.le_refl _)).below h (Nat.le_refl _))
  have HX : Hid (∀ W, Below V.heap.size V W → BoxP W (w.heap.size + 1) p (.slice ca m cc) v0 v1) := Lib.hid (fun W hb => hX.below hb (Nat.le_refl _))
  have HY : Hid (∀ W, Below V.heap.size V W → BoxR W w.heap.size r vp vs ve) := Lib.hid (fun W hb => hY.below hb (Nat.le_refl _))
  have HPE : Hid (∀ W, Below V.heap.size V W → Calls Tryz.prog 39 #[RulesV r vp vs ve, PlaceV p (.slice ca m cc) v0 v1] W (BelPost (.int .i64 (placeE r p)) W)) := Lib.hid (fun W h => placeErr_any r p vp vs ve (.slice ca m cc) v0 v1 W (HIR.out W h) hf (HIP.out W h))
  have HFT : Hid (placeE r p = 0 → inB x 0 12 = true → ∀ W, Below V.heap.size V W → Calls Tryz.prog 41 #[RulesV r vp vs ve, PlaceV p (.slice ca m cc) v0 v1, .int .i64 x, .int .i64 1200] W (BelPost (.bool (decide (treD r x.toNat p ≤ 1200))) W)) := Lib.hid (fun hz hi W h => by
    rw [inB_iff] at hi
    have h1 := fits_any r p vp vs ve (.slice ca m cc) v0 v1 x.toNat 1200 W (HIR.out W h).1 (HIP.out W h) (placeE_iff.1 hz) (by omega) (by omega)
    have e : ((x.toNat : Nat) : Int) = x := by omega
    rw [e] at h1
    exact h1)
  have HH : Hid (lightB r p x = (placeE r p != 0 || (!inB x 0 12 || (decide ((m : Int) ≤ 20) && decide (treD r x.toNat p ≤ 1200))))) := Lib.hid (by rw [lightB, hm])
  generalize decide (treD r x.toNat p ≤ 1200) = tl at HFT HH
  obtain ⟨E, hE⟩ : ∃ E, E = placeE r p := ⟨_, rfl⟩
  rw [← hE] at HPE HH HFT
  have hV' := hV
  unfold RulesCells PlaceCells at hV'
  unfold RulesV PlaceV PlaceCells at HPE HFT ⊢
  obtain ⟨x0, x1, x2, x3, x4⟩ := HX.out _ (Below.refl _ _)
  obtain ⟨y0, y1, y2, y3, y4, y5, y6, y7, y8, y9, y10⟩ := HY.out _ (Below.refl _ _)
  rw [hV] at x0 x1 x2 x3 x4 y0 y1 y2 y3 y4 y5 y6 y7 y8 y9 y10
  clear hr hf hp hB hX hY hm hE hV HIR HIP
  go_enter Tryz.func22, Tryz.ntmps22
  go_wp2_with fail
  rw [← hV']
  clear hV' x0 x1 x2 x3 x4 y0 y1 y2 y3 y4 y5 y6 y7 y8 y9 y10
  go_at_call 39; refine (HPE.out _ (Below.refl _ _)).mono ?_; rintro e w1 ⟨rfl, hb⟩
  have HB1 := Lib.hid hb
  clear hb HPE
  by_cases h1 : E = 0
  · subst h1
    go_wp2_with fail
    go_at_call 40; refine (turned (in_any x 0 12 _)).mono ?_; rintro e w2 ⟨rfl, rfl⟩
    cases hi : inB x 0 12
    · rw [hi] at HH
      go_wp2_with fail
      go_ret
      exact ⟨by rw [HH.out]; rfl, HB.out.trans (HB1.out.mono HB.out.size)⟩
    · have HFQ := Lib.hid (HFT.out (by trivial) hi)
      rw [hi] at HH
      clear HFT hi
      obtain ⟨x0, x1, x2, x3, x4⟩ := HX.out _ HB1.out
      obtain ⟨y0, y1, y2, y3, y4, y5, y6, y7, y8, y9, y10⟩ := HY.out _ HB1.out
      cases h20 : decide ((m : Int) ≤ 20)
      · rw [h20] at HH
        go_wp2_with fail
        go_ret
        exact ⟨by rw [HH.out]; rfl, HB.out.trans (HB1.out.mono HB.out.size)⟩
      · rw [h20] at HH
        go_wp2_with fail
        go_at_call 41; refine (HFQ.out _ HB1.out).mono ?_; rintro e w3 ⟨rfl, hb⟩
        have HB3 := Lib.hid (HB1.out.trans (hb.mono HB1.out.size))
        clear hb HFQ x0 x1 x2 x3 x4 y0 y1 y2 y3 y4 y5 y6 y7 y8 y9 y10
        go_wp2_with fail
        go_ret
        exact ⟨by rw [HH.out]; cases tl <;> rfl, HB.out.trans (HB3.out.mono HB.out.size)⟩
  · have hne : (E != 0) = true := by simpa using h1
    go_wp2_with fail
    go_ret
    exact ⟨by rw [HH.out, hne]; rfl, HB.out.trans (HB1.out.mono HB.out.size)⟩

/-! ### treeError -/
set_option maxHeartbeats 8000000 in
theorem treeErr_any (r : RulesD) (p : PlaceD) (vp vs ve vc v0 v1 : Value) (x : Int) (w : World) (hr : RulesIn w r vp vs ve) (hf : LettersFit r.pieces) (hp : PlaceIn w p vc v0 v1) (hl : lightB r p x = true) :
    Calls Tryz.prog 23 #[RulesV r vp vs ve, PlaceV p vc v0 v1, .int .i64 x] w (BelPost (.int .i64 (pftE r p 0 x)) w) := by
  obtain ⟨hB, hY, hX⟩ := rp_boxes w r p vp vs ve vc v0 v1
  obtain ⟨V, hV⟩ : ∃ V, V = (w.alloc (.cells (RulesCells r vp vs ve) 26)).alloc (.cells (PlaceCells p vc v0 v1) 29) := ⟨_, rfl⟩
  rw [← hV] at hB hY hX
  have HB := Lib.hid hB
  have HIR : Hid (∀ W, Below V.heap.size V W → RulesIn W r vp vs ve) := Lib.hid (fun W h => (hr.below hB (Nat.le_refl _)).below h (Nat.le_refl _))
  have HIP : Hid (∀ W, Below V.heap.size V W → PlaceIn W p vc v0 v1) := Lib.hid (fun W h => (hp.below hB (Nat.le_refl _)).below h (Nat.le_refl _))
  have HX : Hid (∀ W, Below V.heap.size V W → BoxP W (w.heap.size + 1) p vc v0 v1) := Lib.hid (fun W hb => hX.below hb (Nat.le_refl _))
  have HY : Hid (∀ W, Below V.heap.size V W → BoxR W w.heap.size r vp vs ve) := Lib.hid (fun W hb => hY.below hb (Nat.le_refl _))
  have HPE : Hid (∀ W, Below V.heap.size V W → Calls Tryz.prog 39 #[RulesV r vp vs ve, PlaceV p vc v0 v1] W (BelPost (.int .i64 (placeE r p)) W)) := Lib.hid (fun W h => placeErr_any r p vp vs ve vc v0 v1 W (HIR.out W h) hf (HIP.out W h))
  have HFT : Hid (placeE r p = 0 → inB x 0 12 = true → treD r x.toNat p ≤ 1200 ∧ ∀ W, Below V.heap.size V W → Calls Tryz.prog 25 #[RulesV r vp vs ve, PlaceV p vc v0 v1, .int .i64 x] W (BelPost (.int .i64 (treD r x.toNat p : Int)) W)) := Lib.hid (fun hz hi => by
    rw [lightB, hz, hi] at hl
    have h12 : treD r x.toNat p ≤ 1200 := by simpa using (by simpa using hl : (p.cells.length : Int) ≤ 20 ∧ treD r x.toNat p ≤ 1200).2
    rw [inB_iff] at hi
    exact ⟨h12, fun W h => reftre_all x.toNat (by omega) r p vp vs ve vc v0 v1 x W (by omega) (HIR.out W h).1 (HIP.out W h) (placeE_iff.1 hz) (by omega)⟩)
  have HH : Hid (pftE r p 0 x = if placeE r p ≠ 0 then placeE r p else if x < 0 ∨ 12 < x then 1 else if 50000 < treD r x.toNat p then 17 else 0) := Lib.hid (by rw [pftE])
  have HIN : Hid (inB x 0 12 = true ↔ 0 ≤ x ∧ x ≤ 12) := Lib.hid inB_iff
  generalize treD r x.toNat p = tt at HFT HH
  obtain ⟨E, hE⟩ : ∃ E, E = placeE r p := ⟨_, rfl⟩
  rw [← hE] at HPE HH HFT
  have hV' := hV
  unfold RulesCells PlaceCells at hV'
  unfold RulesV PlaceV PlaceCells at HPE HFT ⊢
  obtain ⟨x0, x1, x2, x3, x4⟩ := HX.out _ (Below.refl _ _)
  obtain ⟨y0, y1, y2, y3, y4, y5, y6, y7, y8, y9, y10⟩ := HY.out _ (Below.refl _ _)
  rw [hV] at x0 x1 x2 x3 x4 y0 y1 y2 y3 y4 y5 y6 y7 y8 y9 y10
  clear hr hf hp hB hX hY hE hV HIR HIP hl
  go_enter Tryz.func23, Tryz.ntmps23
  go_wp2_with fail
  rw [← hV']
  clear hV' x0 x1 x2 x3 x4 y0 y1 y2 y3 y4 y5 y6 y7 y8 y9 y10
  go_at_call 39; refine (HPE.out _ (Below.refl _ _)).mono ?_; rintro e w1 ⟨rfl, hb⟩
  have HB1 := Lib.hid hb
  clear hb HPE
  by_cases h1 : E = 0
  · subst h1
    go_wp2_with fail
    go_at_call 40; refine (turned (in_any x 0 12 _)).mono ?_; rintro e w2 ⟨rfl, rfl⟩
    cases hi : inB x 0 12
    · have HV : Hid (pftE r p 0 x = 1) := Lib.hid (by
        rw [HH.out, if_neg (by simp), if_pos (by
          have h2 : ¬ (0 ≤ x ∧ x ≤ 12) := fun g => by rw [HIN.out.2 g] at hi; cases hi
          omega)])
      go_wp2_with fail
      go_ret
      exact ⟨by rw [HV.out]; rfl, HB.out.trans (HB1.out.mono HB.out.size)⟩
    · obtain ⟨ht, hq⟩ := HFT.out (by trivial) hi
      have HFQ := Lib.hid hq
      have HV : Hid (pftE r p 0 x = 0) := Lib.hid (by
        have h2 := HIN.out.1 hi
        rw [HH.out, if_neg (by simp), if_neg (by omega), if_neg (by omega)])
      have hd : decide ((tt : Int) > 50000) = false := by simp; omega
      clear HFT hi hq
      obtain ⟨x0, x1, x2, x3, x4⟩ := HX.out _ HB1.out
      obtain ⟨y0, y1, y2, y3, y4, y5, y6, y7, y8, y9, y10⟩ := HY.out _ HB1.out
      go_wp2_with fail
      go_at_call 25; refine (HFQ.out _ HB1.out).mono ?_; rintro e w3 ⟨rfl, hb⟩
      have HB3 := Lib.hid (HB1.out.trans (hb.mono HB1.out.size))
      clear hb HFQ x0 x1 x2 x3 x4 y0 y1 y2 y3 y4 y5 y6 y7 y8 y9 y10
      go_wp2_with fail
      go_ret
      exact ⟨by rw [HV.out]; rfl, HB.out.trans (HB3.out.mono HB.out.size)⟩
  · have hne : (E != 0) = true := by simpa using h1
    have HV : Hid (pftE r p 0 x = E) := Lib.hid (by rw [HH.out, if_pos h1])
    go_wp2_with fail
    go_ret
    exact ⟨by rw [HV.out]; rfl, HB.out.trans (HB1.out.mono HB.out.size)⟩
end Go.Proofs.YtdhhdkbnlddnbaaGreatDoor
