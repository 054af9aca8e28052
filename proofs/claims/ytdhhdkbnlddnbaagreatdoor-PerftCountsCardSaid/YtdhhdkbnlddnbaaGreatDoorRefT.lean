/- The reference's Count, Tree and Fits. (Written by genreft.py.) -/
import Derived.Test.YtdhhdkbnlddnbaaGreatDoorPftD
import Derived.Test.YtdhhdkbnlddnbaaGreatDoorRefA
import Derived.Test.YtdhhdkbnlddnbaaGreatDoorRefS
import Derived.Deep.RegionHeld3
set_option maxRecDepth 100000
namespace Go.Proofs.YtdhhdkbnlddnbaaGreatDoor
open Go.ChangeShapes Go.WideShapes Go.ChangeAt Go.RowKit

def cnuTo (r : RulesD) (d : Nat) (p : PlaceD) (k : Nat) : Nat := (((stepsD r p).take k).map fun m => cntD r d (afterD r p m)).sum
theorem cnuTo_succ {r : RulesD} {d : Nat} {p : PlaceD} {k : Nat} {m : MoveD} (h : (stepsD r p)[k]? = some m) : cnuTo r d p (k + 1) = cnuTo r d p k + cntD r d (afterD r p m) := by
  rw [cnuTo, List.take_add_one, h]
  simp [cnuTo]
theorem cnuTo_all (r : RulesD) (d : Nat) (p : PlaceD) : cnuTo r d p (stepsD r p).length = cntD r (d + 1) p := by
  rw [cnuTo, List.take_length, cntD]
theorem cnuTo_le (r : RulesD) (d : Nat) (p : PlaceD) (k : Nat) : cnuTo r d p k ≤ treTo r d p k := sum_le _ _ _ fun _ _ => cnt_tre r d d _ (Nat.le_refl _)
theorem sum_take_le {α : Type} (f : α → Nat) : ∀ (l : List α) (k : Nat), ((l.take k).map f).sum ≤ (l.map f).sum
  | [], k => by simp
  | a :: l, 0 => by simp
  | a :: l, k + 1 => by
    have := sum_take_le f l k
    simp only [List.take_succ_cons, List.map_cons, List.sum_cons]
    omega
theorem treTo_le (r : RulesD) (d : Nat) (p : PlaceD) (k : Nat) : 1 + treTo r d p k ≤ treD r (d + 1) p := by
  rw [treD]
  have := sum_take_le (fun m => treD r d (afterD r p m)) (stepsD r p) k
  unfold treTo
  omega
theorem steps_over {r : RulesD} {p : PlaceD} (h : resultD r p ≠ 0) : stepsD r p = [] := if_neg h
theorem steps_open {r : RulesD} {p : PlaceD} (h : resultD r p = 0) : stepsD r p = allD r p := if_pos h
theorem over_cnt {r : RulesD} {p : PlaceD} (d : Nat) (h : resultD r p ≠ 0) : cntD r (d + 1) p = 0 := by rw [cntD, steps_over h]; rfl
theorem over_tre {r : RulesD} {p : PlaceD} (d : Nat) (h : resultD r p ≠ 0) : treD r (d + 1) p = 1 := by rw [treD, steps_over h]; rfl
/-- How many are left. -/
def fitI (T l : Nat) : Int := if T ≤ l then (l : Int) - (T : Int) else -1

/-! ### Count -/
def Refcnt (d : Nat) : Prop := ∀ (r : RulesD) (p : PlaceD) (vp vs ve vc v0 v1 : Value) (x : Int) (w : World), x = (d : Int) → IsRules w r vp vs ve → PlaceIn w p vc v0 v1 → POkay r p → treD r d p ≤ 60000 →
  Calls Tryz.prog 24 #[RulesV r vp vs ve, PlaceV p vc v0 v1, .int .i64 x] w (BelPost (.int .i64 (cntD r d p : Int)) w)
set_option maxHeartbeats 4000000 in
theorem refcnt_zero : Refcnt 0 := by
  intro r p vp vs ve vc v0 v1 x w hx hr hp hk hle
  obtain rfl : x = 0 := by simpa using hx
  have hB := (rp_boxes w r p vp vs ve vc v0 v1).1
  have HB := Lib.hid hB
  unfold RulesV PlaceV PlaceCells
  unfold RulesCells PlaceCells at HB
  clear hx hr hp hk hle hB
  go_enter Tryz.func24, Tryz.ntmps24
  go_wp2_with fail
  go_ret
  exact ⟨rfl, HB.out⟩
set_option maxHeartbeats 16000000 in
theorem refcnt_succ (d : Nat) (hd40 : d ≤ 40) (hR : Refcnt d) : Refcnt (d + 1) := by
  intro r p vp vs ve vc v0 v1 x w hx hr hp hk hle
  obtain ⟨hB, hY, hX⟩ := rp_boxes w r p vp vs ve vc v0 v1
  obtain ⟨V, hV⟩ : ∃ V, V = (w.alloc (.cells (RulesCells r vp vs ve) 26)).alloc (.cells (PlaceCells p vc v0 v1) 29) := ⟨_, rfl⟩
  rw [← hV] at hB hY hX
  have HB := Lib.hid hB
  have HIR : Hid (∀ W, Below V.heap.size V W → IsRules W r vp vs ve) := Lib.hid (fun W h => (hr.below hB (Nat.le_refl _)).below h (Nat.le_refl _))
  have HIP : Hid (∀ W, Below V.heap.size V W → PlaceIn W p vc v0 v1) := Lib.hid (fun W h => (hp.below hB (Nat.le_refl _)).below h (Nat.le_refl _))
  have HX : Hid (∀ W, Below V.heap.size V W → BoxP W (w.heap.size + 1) p vc v0 v1) := Lib.hid (fun W hb => hX.below hb (Nat.le_refl _))
  have HY : Hid (∀ W, Below V.heap.size V W → BoxR W w.heap.size r vp vs ve) := Lib.hid (fun W hb => hY.below hb (Nat.le_refl _))
  have HRS : Hid (∀ W, Below V.heap.size V W → Calls Tryz.prog 26 #[RulesV r vp vs ve, PlaceV p vc v0 v1] W (BelPost (.int .i64 (resultD r p)) W)) := Lib.hid (fun W h => result_any r p vp vs ve vc v0 v1 W (HIR.out W h) (HIP.out W h) hk)
  have HMV : Hid (∀ W, Below V.heap.size V W → Calls Tryz.prog 27 #[RulesV r vp vs ve, PlaceV p vc v0 v1] W (MovesPost (allD r p) W)) := Lib.hid (fun W h => refMoves_any r p vp vs ve vc v0 v1 W (HIR.out W h) (HIP.out W h) hk)
  have HAF : Hid (∀ (W : World) (m : MoveD), Below V.heap.size V W → legalB r p m = true → Calls Tryz.prog 28 #[RulesV r vp vs ve, PlaceV p vc v0 v1, moveV m] W (RefAft (afterD r p m) W)) := Lib.hid (fun W m h hl => refAfter_any r p vp vs ve vc v0 v1 m W (HIP.out W h) hk hl)
  have HRC : Hid (∀ (W : World) (m : MoveD) (uc u0 u1 : Value) (y : Int), Below V.heap.size V W → m ∈ stepsD r p → y = (d : Int) → PlaceIn W (afterD r p m) uc u0 u1 → Calls Tryz.prog 24 #[RulesV r vp vs ve, PlaceV (afterD r p m) uc u0 u1, .int .i64 y] W (BelPost (.int .i64 (cntD r d (afterD r p m) : Int)) W)) := Lib.hid (fun W m uc u0 u1 y h hm hy hi => hR r (afterD r p m) vp vs ve uc u0 u1 y W hy (HIR.out W h) hi (steps_okay hk hm) (by have := tre_after (d := d) hm; omega))
  have hx1 : 1 ≤ x := by omega
  have hx2 : x ≤ 100 := by omega
  have hxz : (x == 0) = false := by simp; omega
  have HXD := Lib.hid hx
  have HK := Lib.hid hk
  have HLE := Lib.hid hle
  obtain ⟨e, he⟩ : ∃ e, e = resultD r p := ⟨_, rfl⟩
  have HE := Lib.hid he
  rw [← he] at HRS
  unfold RulesV PlaceV PlaceCells at HRS HMV HAF HRC
  unfold moveV at HAF
  have hV' := hV
  unfold RulesCells PlaceCells at hV'
  obtain ⟨x0, x1, x2, x3, x4⟩ := HX.out _ (Below.refl _ _)
  obtain ⟨y0, y1, y2, y3, y4, y5, y6, y7, y8, y9, y10⟩ := HY.out _ (Below.refl _ _)
  rw [hV] at x0 x1 x2 x3 x4 y0 y1 y2 y3 y4 y5 y6 y7 y8 y9 y10
  unfold RulesV PlaceV PlaceCells
  clear hr hp hB hX hY hx hk he hV HIR HIP hR
  go_enter Tryz.func24, Tryz.ntmps24
  go_wp2_with fail
  rw [← hV']
  clear hV' x0 x1 x2 x3 x4 y0 y1 y2 y3 y4 y5 y6 y7 y8 y9 y10
  go_at_call 26; refine (HRS.out _ (Below.refl _ _)).mono ?_; rintro e1 w1 ⟨rfl, hb⟩
  have HB1 := Lib.hid hb
  clear hb HRS
  by_cases h0 : e = 0
  · subst h0
    have HL : Hid (stepsD r p = allD r p) := Lib.hid (steps_open HE.out.symm)
    rw [← HL.out] at HMV
    have HLL := Lib.hid (steps_length HK.out)
    obtain ⟨ms, hms⟩ : ∃ ms, ms = stepsD r p := ⟨_, rfl⟩
    rw [← hms] at HMV HLL
    have HMS := Lib.hid hms
    clear hms HL HE
    obtain ⟨x0, x1, x2, x3, x4⟩ := HX.out _ HB1.out
    obtain ⟨y0, y1, y2, y3, y4, y5, y6, y7, y8, y9, y10⟩ := HY.out _ HB1.out
    go_wp2_with fail
    go_at_call 27; refine (HMV.out _ HB1.out).mono ?_; rintro e2 w2 ⟨la, ln, lc, rfl, hI, hb⟩
    have HB2 := Lib.hid (HB1.out.trans (hb.mono HB1.out.size))
    obtain ⟨a', lc', e1, hlc, hls⟩ := hI.shape hI.len
    simp only [Value.slice.injEq, true_and] at e1
    obtain ⟨rfl, rfl⟩ := e1
    have HLN := Lib.hid hI.len
    have hln5 : ln ≤ 5000 := by rw [HLN.out]; exact HLL.out
    have HLS : Hid (∀ W, Below w2.heap.size w2 W → ∀ k, k < ln → ∃ g o m1 m2 m3, la = some ⟨g, o, none⟩ ∧ ms[k]? = some (m1, m2, m3) ∧ W.cell? ⟨g, o + k * 3, none⟩ = some (.int .i64 m1) ∧ W.cell? ⟨g, o + k * 3 + 1, none⟩ = some (.int .i64 m2) ∧ W.cell? ⟨g, o + k * 3 + 2, none⟩ = some (.int .i64 m3)) := Lib.hid (fun W h k hk => by
      obtain ⟨g, o, ⟨m1, m2, m3⟩, i1, i2, i3⟩ := hls k hk
      obtain ⟨c0, c1, c2⟩ := move_keeps _ _ _ _ _ _ h (Nat.le_refl _) i3
      exact ⟨g, o, m1, m2, m3, i1, i2, c0, c1, c2⟩)
    have HTT : Hid (∀ k, 1 + treTo r d p k ≤ treD r (d + 1) p) := Lib.hid (treTo_le r d p)
    clear hI hls hb HMV HB1 x0 x1 x2 x3 x4 y0 y1 y2 y3 y4 y5 y6 y7 y8 y9 y10
    go_wp2_with fail
    go_loopw [7, 9, 20] (fun s _ i wr => ∃ k : Nat, k ≤ ln ∧ s = .int .i64 (cnuTo r d p k : Int) ∧ i = .int .i64 (k : Int) ∧ Hid (Below w2.heap.size w2 wr)) (fun _ _ i _ => ln - (intOf i).toNat)
    case atStart => exact ⟨0, by omega, rfl, rfl, Lib.hid (Below.refl _ _)⟩
    case round =>
      obtain ⟨k, hk, rfl, rfl, hBr⟩ := hrel
      have HBV := Lib.hid (HB2.out.trans (hBr.out.mono HB2.out.size))
      by_cases hlt : k < ln
      · obtain ⟨g, o, m1, m2, m3, rfl, hm, c0, c1, c2⟩ := HLS.out wr hBr.out k hlt
        have HMK : Hid ((stepsD r p)[k]? = some (m1, m2, m3)) := Lib.hid (by rw [← HMS.out]; exact hm)
        have hal := (Below.refl wr.heap.size wr).alloc (Nat.le_refl _) (.cells #[.int .i64 m1, .int .i64 m2, .int .i64 m3] 37)
        have hmb := heap_alloc_new wr (.cells #[.int .i64 m1, .int .i64 m2, .int .i64 m3] 37)
        obtain ⟨mb, hmbe⟩ : ∃ mb, mb = wr.heap.size := ⟨_, rfl⟩
        obtain ⟨w3, hw3⟩ : ∃ w3, w3 = wr.alloc (.cells #[.int .i64 m1, .int .i64 m2, .int .i64 m3] 37) := ⟨_, rfl⟩
        rw [← hw3] at hal hmb
        rw [← hmbe] at hmb
        have hBV3 := HBV.out.trans (hal.mono HBV.out.size)
        have HBV3 := Lib.hid hBV3
        have HBr3 := Lib.hid (hBr.out.trans (hal.mono hBr.out.size))
        have HG : Hid (∀ w' : World, Below w3.heap.size w3 w' → w'.cell? ⟨w.heap.size, 0, none⟩ = some (.string r.name) ∧ w'.cell? ⟨w.heap.size, 1, none⟩ = some (.int .i64 r.width) ∧ w'.cell? ⟨w.heap.size, 2, none⟩ = some (.int .i64 r.height) ∧ w'.cell? ⟨w.heap.size, 3, none⟩ = some vp ∧ w'.cell? ⟨w.heap.size, 4, none⟩ = some vs ∧ w'.cell? ⟨w.heap.size, 5, none⟩ = some (.bool r.falls) ∧ w'.cell? ⟨w.heap.size, 6, none⟩ = some (.bool r.keeps) ∧ w'.cell? ⟨w.heap.size, 7, none⟩ = some ve ∧ w'.cell? ⟨w.heap.size, 8, none⟩ = some (.int .i64 r.blocked) ∧ w'.cell? ⟨w.heap.size, 9, none⟩ = some (.int .i64 r.quiet) ∧ w'.cell? ⟨w.heap.size, 10, none⟩ = some (.int .i64 r.rep) ∧ w'.cell? ⟨w.heap.size + 1, 0, none⟩ = some vc ∧ w'.cell? ⟨w.heap.size + 1, 1, none⟩ = some v0 ∧ w'.cell? ⟨w.heap.size + 1, 2, none⟩ = some v1 ∧ w'.cell? ⟨w.heap.size + 1, 3, none⟩ = some (.int .i64 p.turn) ∧ w'.cell? ⟨w.heap.size + 1, 4, none⟩ = some (.int .i64 p.quiet) ∧ w'.cell? ⟨mb, 0, none⟩ = some (.int .i64 m1) ∧ w'.cell? ⟨mb, 1, none⟩ = some (.int .i64 m2) ∧ w'.cell? ⟨mb, 2, none⟩ = some (.int .i64 m3)) := Lib.hid (fun w' h => by
          have hv := HBV3.out.trans (h.mono HBV3.out.size)
          obtain ⟨x0, x1, x2, x3, x4⟩ := HX.out w' hv
          obtain ⟨y0, y1, y2, y3, y4, y5, y6, y7, y8, y9, y10⟩ := HY.out w' hv
          have h1 := (h.block mb (Array.getElem?_eq_some_iff.1 hmb).1).trans hmb
          exact ⟨y0, y1, y2, y3, y4, y5, y6, y7, y8, y9, y10, x0, x1, x2, x3, x4, cell_of_row w' _ 0 _ _ (0, 0) h1, cell_of_row w' _ 1 _ _ (0, 0) h1, cell_of_row w' _ 2 _ _ (0, 0) h1⟩)
        obtain ⟨y0, y1, y2, y3, y4, y5, y6, y7, y8, y9, y10, x0, x1, x2, x3, x4, n0, n1, n2⟩ := HG.out w3 (Below.refl _ _)
        have HML : Hid ((m1, m2, m3) ∈ stepsD r p) := Lib.hid (List.mem_of_getElem? HMK.out)
        have HAQ : Hid (∀ W, Below w3.heap.size w3 W → Calls Tryz.prog 28 #[.agg #[.string r.name, .int .i64 r.width, .int .i64 r.height, vp, vs, .bool r.falls, .bool r.keeps, ve, .int .i64 r.blocked, .int .i64 r.quiet, .int .i64 r.rep], .agg #[vc, v0, v1, .int .i64 p.turn, .int .i64 p.quiet], .agg #[.int .i64 m1, .int .i64 m2, .int .i64 m3]] W (RefAft (afterD r p (m1, m2, m3)) W)) := Lib.hid (fun W h => HAF.out W (m1, m2, m3) (HBV3.out.trans (h.mono HBV3.out.size)) (steps_legal HML.out).2)
        have HRQ := Lib.hid (fun (W : World) (uc u0 u1 : Value) (y : Int) (h : Below w3.heap.size w3 W) => HRC.out W (m1, m2, m3) uc u0 u1 y (HBV3.out.trans (h.mono HBV3.out.size)) HML.out)
        obtain ⟨q2, hq2⟩ : ∃ q2, q2 = afterD r p (m1, m2, m3) := ⟨_, rfl⟩
        have HQ2 := Lib.hid hq2
        rw [← hq2] at HAQ HRQ
        have HTS : Hid (cnuTo r d p (k + 1) = cnuTo r d p k + cntD r d q2) := Lib.hid (by rw [HQ2.out]; exact cnuTo_succ HMK.out)
        have ht1 : cnuTo r d p (k + 1) ≤ 60000 := by have h1 := cnuTo_le r d p (k + 1); have h2 := HTT.out (k + 1); have h3 := HLE.out; omega
        rw [HTS.out] at ht1
        generalize cnuTo r d p k = s at ht1 HTS ⊢
        generalize cntD r d q2 = z at ht1 HTS HRQ
        clear hal hm HAF HRC hq2 hmb hBV3
        rw [hw3] at y0 y1 y2 y3 y4 y5 y6 y7 y8 y9 y10 x0 x1 x2 x3 x4 n0 n1 n2
        rw [hmbe] at n0 n1 n2
        go_wp2_with fail
        rw [← hw3, ← hmbe]
        rw [← hw3] at y0 y1 y2 y3 y4 y5 y6 y7 y8 y9 y10 x0 x1 x2 x3 x4 n0 n1 n2
        rw [← hmbe] at n0 n1 n2
        clear hw3 hmbe c0 c1 c2
        have hBc : Below w3.heap.size w3 w3.drew := (Below.refl _ _).drew
        go_region_held3 (fun w' => w'.cell? ⟨w.heap.size, 0, none⟩ = some (.string r.name) ∧ w'.cell? ⟨w.heap.size, 1, none⟩ = some (.int .i64 r.width) ∧ w'.cell? ⟨w.heap.size, 2, none⟩ = some (.int .i64 r.height) ∧ w'.cell? ⟨w.heap.size, 3, none⟩ = some vp ∧ w'.cell? ⟨w.heap.size, 4, none⟩ = some vs ∧ w'.cell? ⟨w.heap.size, 5, none⟩ = some (.bool r.falls) ∧ w'.cell? ⟨w.heap.size, 6, none⟩ = some (.bool r.keeps) ∧ w'.cell? ⟨w.heap.size, 7, none⟩ = some ve ∧ w'.cell? ⟨w.heap.size, 8, none⟩ = some (.int .i64 r.blocked) ∧ w'.cell? ⟨w.heap.size, 9, none⟩ = some (.int .i64 r.quiet) ∧ w'.cell? ⟨w.heap.size, 10, none⟩ = some (.int .i64 r.rep) ∧ w'.cell? ⟨w.heap.size + 1, 0, none⟩ = some vc ∧ w'.cell? ⟨w.heap.size + 1, 1, none⟩ = some v0 ∧ w'.cell? ⟨w.heap.size + 1, 2, none⟩ = some v1 ∧ w'.cell? ⟨w.heap.size + 1, 3, none⟩ = some (.int .i64 p.turn) ∧ w'.cell? ⟨w.heap.size + 1, 4, none⟩ = some (.int .i64 p.quiet) ∧ w'.cell? ⟨mb, 0, none⟩ = some (.int .i64 m1) ∧ w'.cell? ⟨mb, 1, none⟩ = some (.int .i64 m2) ∧ w'.cell? ⟨mb, 2, none⟩ = some (.int .i64 m3)) (with_reducible exact HG.out _ hBc) (first
          | (go_at_call 28; refine (HAQ.out _ hBc).mono ?_; rintro e w5 ⟨ca, cn, cc, a0, an0, ac0, a1, an1, ac1, rfl, hi2, hb⟩; have hB5 := hBc.trans (hb.mono hBc.size); have hBc := hB5; clear hb hB5)
          | (go_at_call 24; refine (HRQ.out _ _ _ _ _ hBc (by have h := HXD.out; rw [IntKind.wrap_i64]; omega) hi2).mono ?_; rintro e w5 ⟨rfl, hb⟩; have hB5 := hBc.trans (hb.mono hBc.size); have hBc := hB5; clear hb hB5))
        have HB5 := Lib.hid (HBr3.out.trans (hBc.mono HBr3.out.size))
        clear hBc hi2 HAQ HRQ HG y0 y1 y2 y3 y4 y5 y6 y7 y8 y9 y10 x0 x1 x2 x3 x4 n0 n1 n2
        have hw : IntKind.i64.wrap ((s : Int) + (z : Int)) = ((s + z : Nat) : Int) := by rw [IntWalk.i64_in _ (by omega)]; omega
        have HWR := Lib.hid hw
        clear hw
        go_wp2_with fail
        go_roundw
        case rel => exact ⟨k + 1, by omega, by rw [HTS.out, ← HWR.out], by go_num, HB5⟩
        case measure => simp [intOf]; omega
      · obtain rfl : k = ln := by omega
        have HFI : Hid (cnuTo r d p k = cntD r (d + 1) p) := Lib.hid (by rw [HLN.out, HMS.out]; exact cnuTo_all r d p)
        rw [HFI.out]
        go_wp2_with fail
        go_ret
        exact ⟨rfl, HB.out.trans (HBV.out.mono HB.out.size)⟩
  · have hne : (e != 0) = true := by simpa using h0
    have HF : Hid (cntD r (d + 1) p = 0) := Lib.hid (over_cnt d (by rw [← HE.out]; exact h0))
    clear h0
    go_wp2_with fail
    go_ret
    exact ⟨by rw [HF.out]; rfl, HB.out.trans (HB1.out.mono HB.out.size)⟩
theorem refcnt_all : ∀ d, d ≤ 40 → Refcnt d
  | 0, _ => refcnt_zero
  | d + 1, h => refcnt_succ d (by omega) (refcnt_all d (by omega))

/-! ### Tree -/
def Reftre (d : Nat) : Prop := ∀ (r : RulesD) (p : PlaceD) (vp vs ve vc v0 v1 : Value) (x : Int) (w : World), x = (d : Int) → IsRules w r vp vs ve → PlaceIn w p vc v0 v1 → POkay r p → treD r d p ≤ 50000 →
  Calls Tryz.prog 25 #[RulesV r vp vs ve, PlaceV p vc v0 v1, .int .i64 x] w (BelPost (.int .i64 (treD r d p : Int)) w)
set_option maxHeartbeats 4000000 in
theorem reftre_zero : Reftre 0 := by
  intro r p vp vs ve vc v0 v1 x w hx hr hp hk hle
  obtain rfl : x = 0 := by simpa using hx
  have hB := (rp_boxes w r p vp vs ve vc v0 v1).1
  have HB := Lib.hid hB
  unfold RulesV PlaceV PlaceCells
  unfold RulesCells PlaceCells at HB
  clear hx hr hp hk hle hB
  go_enter Tryz.func25, Tryz.ntmps25
  go_wp2_with fail
  go_ret
  exact ⟨rfl, HB.out⟩
set_option maxHeartbeats 16000000 in
theorem reftre_succ (d : Nat) (hd40 : d ≤ 40) (hR : Reftre d) : Reftre (d + 1) := by
  intro r p vp vs ve vc v0 v1 x w hx hr hp hk hle
  obtain ⟨hB, hY, hX⟩ := rp_boxes w r p vp vs ve vc v0 v1
  obtain ⟨V, hV⟩ : ∃ V, V = (w.alloc (.cells (RulesCells r vp vs ve) 26)).alloc (.cells (PlaceCells p vc v0 v1) 29) := ⟨_, rfl⟩
  rw [← hV] at hB hY hX
  have HB := Lib.hid hB
  have HIR : Hid (∀ W, Below V.heap.size V W → IsRules W r vp vs ve) := Lib.hid (fun W h => (hr.below hB (Nat.le_refl _)).below h (Nat.le_refl _))
  have HIP : Hid (∀ W, Below V.heap.size V W → PlaceIn W p vc v0 v1) := Lib.hid (fun W h => (hp.below hB (Nat.le_refl _)).below h (Nat.le_refl _))
  have HX : Hid (∀ W, Below V.heap.size V W → BoxP W (w.heap.size + 1) p vc v0 v1) := Lib.hid (fun W hb => hX.below hb (Nat.le_refl _))
  have HY : Hid (∀ W, Below V.heap.size V W → BoxR W w.heap.size r vp vs ve) := Lib.hid (fun W hb => hY.below hb (Nat.le_refl _))
  have HRS : Hid (∀ W, Below V.heap.size V W → Calls Tryz.prog 26 #[RulesV r vp vs ve, PlaceV p vc v0 v1] W (BelPost (.int .i64 (resultD r p)) W)) := Lib.hid (fun W h => result_any r p vp vs ve vc v0 v1 W (HIR.out W h) (HIP.out W h) hk)
  have HMV : Hid (∀ W, Below V.heap.size V W → Calls Tryz.prog 27 #[RulesV r vp vs ve, PlaceV p vc v0 v1] W (MovesPost (allD r p) W)) := Lib.hid (fun W h => refMoves_any r p vp vs ve vc v0 v1 W (HIR.out W h) (HIP.out W h) hk)
  have HAF : Hid (∀ (W : World) (m : MoveD), Below V.heap.size V W → legalB r p m = true → Calls Tryz.prog 28 #[RulesV r vp vs ve, PlaceV p vc v0 v1, moveV m] W (RefAft (afterD r p m) W)) := Lib.hid (fun W m h hl => refAfter_any r p vp vs ve vc v0 v1 m W (HIP.out W h) hk hl)
  have HRC : Hid (∀ (W : World) (m : MoveD) (uc u0 u1 : Value) (y : Int), Below V.heap.size V W → m ∈ stepsD r p → y = (d : Int) → PlaceIn W (afterD r p m) uc u0 u1 → Calls Tryz.prog 25 #[RulesV r vp vs ve, PlaceV (afterD r p m) uc u0 u1, .int .i64 y] W (BelPost (.int .i64 (treD r d (afterD r p m) : Int)) W)) := Lib.hid (fun W m uc u0 u1 y h hm hy hi => hR r (afterD r p m) vp vs ve uc u0 u1 y W hy (HIR.out W h) hi (steps_okay hk hm) (by have := tre_after (d := d) hm; omega))
  have hx1 : 1 ≤ x := by omega
  have hx2 : x ≤ 100 := by omega
  have hxz : (x == 0) = false := by simp; omega
  have HXD := Lib.hid hx
  have HK := Lib.hid hk
  have HLE := Lib.hid hle
  obtain ⟨e, he⟩ : ∃ e, e = resultD r p := ⟨_, rfl⟩
  have HE := Lib.hid he
  rw [← he] at HRS
  unfold RulesV PlaceV PlaceCells at HRS HMV HAF HRC
  unfold moveV at HAF
  have hV' := hV
  unfold RulesCells PlaceCells at hV'
  obtain ⟨x0, x1, x2, x3, x4⟩ := HX.out _ (Below.refl _ _)
  obtain ⟨y0, y1, y2, y3, y4, y5, y6, y7, y8, y9, y10⟩ := HY.out _ (Below.refl _ _)
  rw [hV] at x0 x1 x2 x3 x4 y0 y1 y2 y3 y4 y5 y6 y7 y8 y9 y10
  unfold RulesV PlaceV PlaceCells
  clear hr hp hB hX hY hx hk he hV HIR HIP hR
  go_enter Tryz.func25, Tryz.ntmps25
  go_wp2_with fail
  rw [← hV']
  clear hV' x0 x1 x2 x3 x4 y0 y1 y2 y3 y4 y5 y6 y7 y8 y9 y10
  go_at_call 26; refine (HRS.out _ (Below.refl _ _)).mono ?_; rintro e1 w1 ⟨rfl, hb⟩
  have HB1 := Lib.hid hb
  clear hb HRS
  by_cases h0 : e = 0
  · subst h0
    have HL : Hid (stepsD r p = allD r p) := Lib.hid (steps_open HE.out.symm)
    rw [← HL.out] at HMV
    have HLL := Lib.hid (steps_length HK.out)
    obtain ⟨ms, hms⟩ : ∃ ms, ms = stepsD r p := ⟨_, rfl⟩
    rw [← hms] at HMV HLL
    have HMS := Lib.hid hms
    clear hms HL HE
    obtain ⟨x0, x1, x2, x3, x4⟩ := HX.out _ HB1.out
    obtain ⟨y0, y1, y2, y3, y4, y5, y6, y7, y8, y9, y10⟩ := HY.out _ HB1.out
    go_wp2_with fail
    go_at_call 27; refine (HMV.out _ HB1.out).mono ?_; rintro e2 w2 ⟨la, ln, lc, rfl, hI, hb⟩
    have HB2 := Lib.hid (HB1.out.trans (hb.mono HB1.out.size))
    obtain ⟨a', lc', e1, hlc, hls⟩ := hI.shape hI.len
    simp only [Value.slice.injEq, true_and] at e1
    obtain ⟨rfl, rfl⟩ := e1
    have HLN := Lib.hid hI.len
    have hln5 : ln ≤ 5000 := by rw [HLN.out]; exact HLL.out
    have HLS : Hid (∀ W, Below w2.heap.size w2 W → ∀ k, k < ln → ∃ g o m1 m2 m3, la = some ⟨g, o, none⟩ ∧ ms[k]? = some (m1, m2, m3) ∧ W.cell? ⟨g, o + k * 3, none⟩ = some (.int .i64 m1) ∧ W.cell? ⟨g, o + k * 3 + 1, none⟩ = some (.int .i64 m2) ∧ W.cell? ⟨g, o + k * 3 + 2, none⟩ = some (.int .i64 m3)) := Lib.hid (fun W h k hk => by
      obtain ⟨g, o, ⟨m1, m2, m3⟩, i1, i2, i3⟩ := hls k hk
      obtain ⟨c0, c1, c2⟩ := move_keeps _ _ _ _ _ _ h (Nat.le_refl _) i3
      exact ⟨g, o, m1, m2, m3, i1, i2, c0, c1, c2⟩)
    have HTT : Hid (∀ k, 1 + treTo r d p k ≤ treD r (d + 1) p) := Lib.hid (treTo_le r d p)
    clear hI hls hb HMV HB1 x0 x1 x2 x3 x4 y0 y1 y2 y3 y4 y5 y6 y7 y8 y9 y10
    go_wp2_with fail
    go_loopw [7, 9, 23] (fun s _ i wr => ∃ k : Nat, k ≤ ln ∧ s = .int .i64 ((1 + treTo r d p k : Nat) : Int) ∧ i = .int .i64 (k : Int) ∧ Hid (Below w2.heap.size w2 wr)) (fun _ _ i _ => ln - (intOf i).toNat)
    case atStart => exact ⟨0, by omega, rfl, rfl, Lib.hid (Below.refl _ _)⟩
    case round =>
      obtain ⟨k, hk, rfl, rfl, hBr⟩ := hrel
      have HBV := Lib.hid (HB2.out.trans (hBr.out.mono HB2.out.size))
      by_cases hlt : k < ln
      · obtain ⟨g, o, m1, m2, m3, rfl, hm, c0, c1, c2⟩ := HLS.out wr hBr.out k hlt
        have HMK : Hid ((stepsD r p)[k]? = some (m1, m2, m3)) := Lib.hid (by rw [← HMS.out]; exact hm)
        have hal := (Below.refl wr.heap.size wr).alloc (Nat.le_refl _) (.cells #[.int .i64 m1, .int .i64 m2, .int .i64 m3] 37)
        have hmb := heap_alloc_new wr (.cells #[.int .i64 m1, .int .i64 m2, .int .i64 m3] 37)
        obtain ⟨mb, hmbe⟩ : ∃ mb, mb = wr.heap.size := ⟨_, rfl⟩
        obtain ⟨w3, hw3⟩ : ∃ w3, w3 = wr.alloc (.cells #[.int .i64 m1, .int .i64 m2, .int .i64 m3] 37) := ⟨_, rfl⟩
        rw [← hw3] at hal hmb
        rw [← hmbe] at hmb
        have hBV3 := HBV.out.trans (hal.mono HBV.out.size)
        have HBV3 := Lib.hid hBV3
        have HBr3 := Lib.hid (hBr.out.trans (hal.mono hBr.out.size))
        have HG : Hid (∀ w' : World, Below w3.heap.size w3 w' → w'.cell? ⟨w.heap.size, 0, none⟩ = some (.string r.name) ∧ w'.cell? ⟨w.heap.size, 1, none⟩ = some (.int .i64 r.width) ∧ w'.cell? ⟨w.heap.size, 2, none⟩ = some (.int .i64 r.height) ∧ w'.cell? ⟨w.heap.size, 3, none⟩ = some vp ∧ w'.cell? ⟨w.heap.size, 4, none⟩ = some vs ∧ w'.cell? ⟨w.heap.size, 5, none⟩ = some (.bool r.falls) ∧ w'.cell? ⟨w.heap.size, 6, none⟩ = some (.bool r.keeps) ∧ w'.cell? ⟨w.heap.size, 7, none⟩ = some ve ∧ w'.cell? ⟨w.heap.size, 8, none⟩ = some (.int .i64 r.blocked) ∧ w'.cell? ⟨w.heap.size, 9, none⟩ = some (.int .i64 r.quiet) ∧ w'.cell? ⟨w.heap.size, 10, none⟩ = some (.int .i64 r.rep) ∧ w'.cell? ⟨w.heap.size + 1, 0, none⟩ = some vc ∧ w'.cell? ⟨w.heap.size + 1, 1, none⟩ = some v0 ∧ w'.cell? ⟨w.heap.size + 1, 2, none⟩ = some v1 ∧ w'.cell? ⟨w.heap.size + 1, 3, none⟩ = some (.int .i64 p.turn) ∧ w'.cell? ⟨w.heap.size + 1, 4, none⟩ = some (.int .i64 p.quiet) ∧ w'.cell? ⟨mb, 0, none⟩ = some (.int .i64 m1) ∧ w'.cell? ⟨mb, 1, none⟩ = some (.int .i64 m2) ∧ w'.cell? ⟨mb, 2, none⟩ = some (.int .i64 m3)) := Lib.hid (fun w' h => by
          have hv := HBV3.out.trans (h.mono HBV3.out.size)
          obtain ⟨x0, x1, x2, x3, x4⟩ := HX.out w' hv
          obtain ⟨y0, y1, y2, y3, y4, y5, y6, y7, y8, y9, y10⟩ := HY.out w' hv
          have h1 := (h.block mb (Array.getElem?_eq_some_iff.1 hmb).1).trans hmb
          exact ⟨y0, y1, y2, y3, y4, y5, y6, y7, y8, y9, y10, x0, x1, x2, x3, x4, cell_of_row w' _ 0 _ _ (0, 0) h1, cell_of_row w' _ 1 _ _ (0, 0) h1, cell_of_row w' _ 2 _ _ (0, 0) h1⟩)
        obtain ⟨y0, y1, y2, y3, y4, y5, y6, y7, y8, y9, y10, x0, x1, x2, x3, x4, n0, n1, n2⟩ := HG.out w3 (Below.refl _ _)
        have HML : Hid ((m1, m2, m3) ∈ stepsD r p) := Lib.hid (List.mem_of_getElem? HMK.out)
        have HAQ : Hid (∀ W, Below w3.heap.size w3 W → Calls Tryz.prog 28 #[.agg #[.string r.name, .int .i64 r.width, .int .i64 r.height, vp, vs, .bool r.falls, .bool r.keeps, ve, .int .i64 r.blocked, .int .i64 r.quiet, .int .i64 r.rep], .agg #[vc, v0, v1, .int .i64 p.turn, .int .i64 p.quiet], .agg #[.int .i64 m1, .int .i64 m2, .int .i64 m3]] W (RefAft (afterD r p (m1, m2, m3)) W)) := Lib.hid (fun W h => HAF.out W (m1, m2, m3) (HBV3.out.trans (h.mono HBV3.out.size)) (steps_legal HML.out).2)
        have HRQ := Lib.hid (fun (W : World) (uc u0 u1 : Value) (y : Int) (h : Below w3.heap.size w3 W) => HRC.out W (m1, m2, m3) uc u0 u1 y (HBV3.out.trans (h.mono HBV3.out.size)) HML.out)
        obtain ⟨q2, hq2⟩ : ∃ q2, q2 = afterD r p (m1, m2, m3) := ⟨_, rfl⟩
        have HQ2 := Lib.hid hq2
        rw [← hq2] at HAQ HRQ
        have HTS : Hid (1 + treTo r d p (k + 1) = 1 + treTo r d p k + treD r d q2) := Lib.hid (by rw [HQ2.out]; have := treTo_succ (d := d) HMK.out; omega)
        have ht1 : 1 + treTo r d p (k + 1) ≤ 50000 := by have h2 := HTT.out (k + 1); have h3 := HLE.out; omega
        rw [HTS.out] at ht1
        generalize 1 + treTo r d p k = s at ht1 HTS ⊢
        generalize treD r d q2 = z at ht1 HTS HRQ
        have hd5 : decide (((s : Int) + (z : Int)) > 50000) = false := by simp; omega
        clear hal hm HAF HRC hq2 hmb hBV3
        rw [hw3] at y0 y1 y2 y3 y4 y5 y6 y7 y8 y9 y10 x0 x1 x2 x3 x4 n0 n1 n2
        rw [hmbe] at n0 n1 n2
        go_wp2_with fail
        rw [← hw3, ← hmbe]
        rw [← hw3] at y0 y1 y2 y3 y4 y5 y6 y7 y8 y9 y10 x0 x1 x2 x3 x4 n0 n1 n2
        rw [← hmbe] at n0 n1 n2
        clear hw3 hmbe c0 c1 c2
        have hBc : Below w3.heap.size w3 w3.drew := (Below.refl _ _).drew
        go_region_held3 (fun w' => w'.cell? ⟨w.heap.size, 0, none⟩ = some (.string r.name) ∧ w'.cell? ⟨w.heap.size, 1, none⟩ = some (.int .i64 r.width) ∧ w'.cell? ⟨w.heap.size, 2, none⟩ = some (.int .i64 r.height) ∧ w'.cell? ⟨w.heap.size, 3, none⟩ = some vp ∧ w'.cell? ⟨w.heap.size, 4, none⟩ = some vs ∧ w'.cell? ⟨w.heap.size, 5, none⟩ = some (.bool r.falls) ∧ w'.cell? ⟨w.heap.size, 6, none⟩ = some (.bool r.keeps) ∧ w'.cell? ⟨w.heap.size, 7, none⟩ = some ve ∧ w'.cell? ⟨w.heap.size, 8, none⟩ = some (.int .i64 r.blocked) ∧ w'.cell? ⟨w.heap.size, 9, none⟩ = some (.int .i64 r.quiet) ∧ w'.cell? ⟨w.heap.size, 10, none⟩ = some (.int .i64 r.rep) ∧ w'.cell? ⟨w.heap.size + 1, 0, none⟩ = some vc ∧ w'.cell? ⟨w.heap.size + 1, 1, none⟩ = some v0 ∧ w'.cell? ⟨w.heap.size + 1, 2, none⟩ = some v1 ∧ w'.cell? ⟨w.heap.size + 1, 3, none⟩ = some (.int .i64 p.turn) ∧ w'.cell? ⟨w.heap.size + 1, 4, none⟩ = some (.int .i64 p.quiet) ∧ w'.cell? ⟨mb, 0, none⟩ = some (.int .i64 m1) ∧ w'.cell? ⟨mb, 1, none⟩ = some (.int .i64 m2) ∧ w'.cell? ⟨mb, 2, none⟩ = some (.int .i64 m3)) (with_reducible exact HG.out _ hBc) (first
          | (go_at_call 28; refine (HAQ.out _ hBc).mono ?_; rintro e w5 ⟨ca, cn, cc, a0, an0, ac0, a1, an1, ac1, rfl, hi2, hb⟩; have hB5 := hBc.trans (hb.mono hBc.size); have hBc := hB5; clear hb hB5)
          | (go_at_call 25; refine (HRQ.out _ _ _ _ _ hBc (by have h := HXD.out; rw [IntKind.wrap_i64]; omega) hi2).mono ?_; rintro e w5 ⟨rfl, hb⟩; have hB5 := hBc.trans (hb.mono hBc.size); have hBc := hB5; clear hb hB5))
        have HB5 := Lib.hid (HBr3.out.trans (hBc.mono HBr3.out.size))
        clear hBc hi2 HAQ HRQ HG y0 y1 y2 y3 y4 y5 y6 y7 y8 y9 y10 x0 x1 x2 x3 x4 n0 n1 n2
        have hw : IntKind.i64.wrap ((s : Int) + (z : Int)) = ((s + z : Nat) : Int) := by rw [IntWalk.i64_in _ (by omega)]; omega
        have HWR := Lib.hid hw
        clear hw
        go_wp2_with fail
        go_roundw
        case rel => exact ⟨k + 1, by omega, by rw [HTS.out, ← HWR.out], by go_num, HB5⟩
        case measure => simp [intOf]; omega
      · obtain rfl : k = ln := by omega
        have HFI : Hid (1 + treTo r d p k = treD r (d + 1) p) := Lib.hid (by rw [HLN.out, HMS.out]; exact treTo_all r d p)
        rw [HFI.out]
        go_wp2_with fail
        go_ret
        exact ⟨rfl, HB.out.trans (HBV.out.mono HB.out.size)⟩
  · have hne : (e != 0) = true := by simpa using h0
    have HF : Hid (treD r (d + 1) p = 1) := Lib.hid (over_tre d (by rw [← HE.out]; exact h0))
    clear h0
    go_wp2_with fail
    go_ret
    exact ⟨by rw [HF.out]; rfl, HB.out.trans (HB1.out.mono HB.out.size)⟩
theorem reftre_all : ∀ d, d ≤ 40 → Reftre d
  | 0, _ => reftre_zero
  | d + 1, h => reftre_succ d (by omega) (reftre_all d (by omega))

/-! ### fits -/
def Reffit (d : Nat) : Prop := ∀ (r : RulesD) (p : PlaceD) (vp vs ve vc v0 v1 : Value) (x : Int) (l : Nat) (w : World), x = (d : Int) → IsRules w r vp vs ve → PlaceIn w p vc v0 v1 → POkay r p → l ≤ 100000 →
  Calls Tryz.prog 58 #[RulesV r vp vs ve, PlaceV p vc v0 v1, .int .i64 x, .int .i64 (l : Int)] w (BelPost (.int .i64 (fitI (treD r d p) l)) w)
set_option maxHeartbeats 4000000 in
theorem reffit_zero : Reffit 0 := by
  intro r p vp vs ve vc v0 v1 x l w hx hr hp hk hle
  obtain rfl : x = 0 := by simpa using hx
  have hB := (rp_boxes w r p vp vs ve vc v0 v1).1
  have HB := Lib.hid hB
  have HF : Hid (fitI (treD r 0 p) l = (l : Int) - 1) := Lib.hid (by
    show fitI 1 l = _
    unfold fitI
    split <;> omega)
  unfold RulesV PlaceV PlaceCells
  unfold RulesCells PlaceCells at HB
  clear hx hr hp hk hB
  by_cases h0 : l = 0
  · subst h0
    go_enter Tryz.func58, Tryz.ntmps58
    go_wp2_with fail
    go_ret
    exact ⟨by rw [HF.out]; rfl, HB.out⟩
  · have hd : decide ((l : Int) - 1 < 0) = false := by simp; omega
    have hl1 : 1 ≤ l := by omega
    go_enter Tryz.func58, Tryz.ntmps58
    go_wp2_with fail
    go_ret
    exact ⟨by rw [HF.out]; rfl, HB.out⟩
set_option maxHeartbeats 16000000 in
theorem reffit_succ (d : Nat) (hd40 : d ≤ 40) (hR : Reffit d) : Reffit (d + 1) := by
  intro r p vp vs ve vc v0 v1 x l w hx hr hp hk hle
  obtain ⟨hB, hY, hX⟩ := rp_boxes w r p vp vs ve vc v0 v1
  obtain ⟨V, hV⟩ : ∃ V, V = (w.alloc (.cells (RulesCells r vp vs ve) 26)).alloc (.cells (PlaceCells p vc v0 v1) 29) := ⟨_, rfl⟩
  rw [← hV] at hB hY hX
  have HB := Lib.hid hB
  have HIR : Hid (∀ W, Below V.heap.size V W → IsRules W r vp vs ve) := Lib.hid (fun W h => (hr.below hB (Nat.le_refl _)).below h (Nat.le_refl _))
  have HIP : Hid (∀ W, Below V.heap.size V W → PlaceIn W p vc v0 v1) := Lib.hid (fun W h => (hp.below hB (Nat.le_refl _)).below h (Nat.le_refl _))
  have HX : Hid (∀ W, Below V.heap.size V W → BoxP W (w.heap.size + 1) p vc v0 v1) := Lib.hid (fun W hb => hX.below hb (Nat.le_refl _))
  have HY : Hid (∀ W, Below V.heap.size V W → BoxR W w.heap.size r vp vs ve) := Lib.hid (fun W hb => hY.below hb (Nat.le_refl _))
  have HRS : Hid (∀ W, Below V.heap.size V W → Calls Tryz.prog 26 #[RulesV r vp vs ve, PlaceV p vc v0 v1] W (BelPost (.int .i64 (resultD r p)) W)) := Lib.hid (fun W h => result_any r p vp vs ve vc v0 v1 W (HIR.out W h) (HIP.out W h) hk)
  have HMV : Hid (∀ W, Below V.heap.size V W → Calls Tryz.prog 27 #[RulesV r vp vs ve, PlaceV p vc v0 v1] W (MovesPost (allD r p) W)) := Lib.hid (fun W h => refMoves_any r p vp vs ve vc v0 v1 W (HIR.out W h) (HIP.out W h) hk)
  have HAF : Hid (∀ (W : World) (m : MoveD), Below V.heap.size V W → legalB r p m = true → Calls Tryz.prog 28 #[RulesV r vp vs ve, PlaceV p vc v0 v1, moveV m] W (RefAft (afterD r p m) W)) := Lib.hid (fun W m h hl => refAfter_any r p vp vs ve vc v0 v1 m W (HIP.out W h) hk hl)
  have HRC : Hid (∀ (W : World) (m : MoveD) (uc u0 u1 : Value) (y : Int) (l : Nat), Below V.heap.size V W → m ∈ stepsD r p → y = (d : Int) → PlaceIn W (afterD r p m) uc u0 u1 → l ≤ 100000 → Calls Tryz.prog 58 #[RulesV r vp vs ve, PlaceV (afterD r p m) uc u0 u1, .int .i64 y, .int .i64 (l : Int)] W (BelPost (.int .i64 (fitI (treD r d (afterD r p m)) l)) W)) := Lib.hid (fun W m uc u0 u1 y l h hm hy hi hl => hR r (afterD r p m) vp vs ve uc u0 u1 y l W hy (HIR.out W h) hi (steps_okay hk hm) hl)
  have hx1 : 1 ≤ x := by omega
  have hx2 : x ≤ 100 := by omega
  have hxz : (x == 0) = false := by simp; omega
  have HXD := Lib.hid hx
  have HK := Lib.hid hk
  have HLE := Lib.hid hle
  obtain ⟨e, he⟩ : ∃ e, e = resultD r p := ⟨_, rfl⟩
  have HE := Lib.hid he
  rw [← he] at HRS
  unfold RulesV PlaceV PlaceCells at HRS HMV HAF HRC
  unfold moveV at HAF
  have hV' := hV
  unfold RulesCells PlaceCells at hV'
  obtain ⟨x0, x1, x2, x3, x4⟩ := HX.out _ (Below.refl _ _)
  obtain ⟨y0, y1, y2, y3, y4, y5, y6, y7, y8, y9, y10⟩ := HY.out _ (Below.refl _ _)
  rw [hV] at x0 x1 x2 x3 x4 y0 y1 y2 y3 y4 y5 y6 y7 y8 y9 y10
  unfold RulesV PlaceV PlaceCells
  clear hr hp hB hX hY hx hk he hV HIR HIP hR
  by_cases h0 : l = 0
  · subst h0
    have HF : Hid (fitI (treD r (d + 1) p) 0 = -1) := Lib.hid (by
      have := tre_pos r (d + 1) p
      unfold fitI
      rw [if_neg (by omega)])
    go_enter Tryz.func58, Tryz.ntmps58
    go_wp2_with fail
    go_ret
    rw [hV'] at HB
    exact ⟨by rw [HF.out]; rfl, HB.out⟩
  have hl1 : 1 ≤ l := by omega
  have hdl : decide ((l : Int) - 1 < 0) = false := by simp; omega
  clear h0
  go_enter Tryz.func58, Tryz.ntmps58
  go_wp2_with fail
  rw [← hV']
  clear hV' x0 x1 x2 x3 x4 y0 y1 y2 y3 y4 y5 y6 y7 y8 y9 y10
  go_at_call 26; refine (HRS.out _ (Below.refl _ _)).mono ?_; rintro e1 w1 ⟨rfl, hb⟩
  have HB1 := Lib.hid hb
  clear hb HRS
  by_cases h0 : e = 0
  · subst h0
    have HL : Hid (stepsD r p = allD r p) := Lib.hid (steps_open HE.out.symm)
    rw [← HL.out] at HMV
    have HLL := Lib.hid (steps_length HK.out)
    obtain ⟨ms, hms⟩ : ∃ ms, ms = stepsD r p := ⟨_, rfl⟩
    rw [← hms] at HMV HLL
    have HMS := Lib.hid hms
    clear hms HL HE
    obtain ⟨x0, x1, x2, x3, x4⟩ := HX.out _ HB1.out
    obtain ⟨y0, y1, y2, y3, y4, y5, y6, y7, y8, y9, y10⟩ := HY.out _ HB1.out
    go_wp2_with fail
    go_at_call 27; refine (HMV.out _ HB1.out).mono ?_; rintro e2 w2 ⟨la, ln, lc, rfl, hI, hb⟩
    have HB2 := Lib.hid (HB1.out.trans (hb.mono HB1.out.size))
    obtain ⟨a', lc', e1, hlc, hls⟩ := hI.shape hI.len
    simp only [Value.slice.injEq, true_and] at e1
    obtain ⟨rfl, rfl⟩ := e1
    have HLN := Lib.hid hI.len
    have hln5 : ln ≤ 5000 := by rw [HLN.out]; exact HLL.out
    have HLS : Hid (∀ W, Below w2.heap.size w2 W → ∀ k, k < ln → ∃ g o m1 m2 m3, la = some ⟨g, o, none⟩ ∧ ms[k]? = some (m1, m2, m3) ∧ W.cell? ⟨g, o + k * 3, none⟩ = some (.int .i64 m1) ∧ W.cell? ⟨g, o + k * 3 + 1, none⟩ = some (.int .i64 m2) ∧ W.cell? ⟨g, o + k * 3 + 2, none⟩ = some (.int .i64 m3)) := Lib.hid (fun W h k hk => by
      obtain ⟨g, o, ⟨m1, m2, m3⟩, i1, i2, i3⟩ := hls k hk
      obtain ⟨c0, c1, c2⟩ := move_keeps _ _ _ _ _ _ h (Nat.le_refl _) i3
      exact ⟨g, o, m1, m2, m3, i1, i2, c0, c1, c2⟩)
    have HTT : Hid (∀ k, 1 + treTo r d p k ≤ treD r (d + 1) p) := Lib.hid (treTo_le r d p)
    clear hI hls hb HMV HB1 x0 x1 x2 x3 x4 y0 y1 y2 y3 y4 y5 y6 y7 y8 y9 y10
    go_wp2_with fail
    go_loopw [3, 10, 30] (fun s _ i wr => ∃ k : Nat, k ≤ ln ∧ s = .int .i64 ((l : Int) - 1 - (treTo r d p k : Int)) ∧ i = .int .i64 (k : Int) ∧ Hid (Below w2.heap.size w2 wr) ∧ Hid (1 + treTo r d p k ≤ l)) (fun _ _ i _ => ln - (intOf i).toNat)
    case atStart => exact ⟨0, by omega, by simp [treTo], rfl, Lib.hid (Below.refl _ _), Lib.hid (by simp [treTo]; omega)⟩
    case round =>
      obtain ⟨k, hk, rfl, rfl, hBr, hUl⟩ := hrel
      have HBV := Lib.hid (HB2.out.trans (hBr.out.mono HB2.out.size))
      by_cases hlt : k < ln
      · obtain ⟨g, o, m1, m2, m3, rfl, hm, c0, c1, c2⟩ := HLS.out wr hBr.out k hlt
        have HMK : Hid ((stepsD r p)[k]? = some (m1, m2, m3)) := Lib.hid (by rw [← HMS.out]; exact hm)
        have hal := (Below.refl wr.heap.size wr).alloc (Nat.le_refl _) (.cells #[.int .i64 m1, .int .i64 m2, .int .i64 m3] 37)
        have hmb := heap_alloc_new wr (.cells #[.int .i64 m1, .int .i64 m2, .int .i64 m3] 37)
        obtain ⟨mb, hmbe⟩ : ∃ mb, mb = wr.heap.size := ⟨_, rfl⟩
        obtain ⟨w3, hw3⟩ : ∃ w3, w3 = wr.alloc (.cells #[.int .i64 m1, .int .i64 m2, .int .i64 m3] 37) := ⟨_, rfl⟩
        rw [← hw3] at hal hmb
        rw [← hmbe] at hmb
        have hBV3 := HBV.out.trans (hal.mono HBV.out.size)
        have HBV3 := Lib.hid hBV3
        have HBr3 := Lib.hid (hBr.out.trans (hal.mono hBr.out.size))
        have HG : Hid (∀ w' : World, Below w3.heap.size w3 w' → w'.cell? ⟨w.heap.size, 0, none⟩ = some (.string r.name) ∧ w'.cell? ⟨w.heap.size, 1, none⟩ = some (.int .i64 r.width) ∧ w'.cell? ⟨w.heap.size, 2, none⟩ = some (.int .i64 r.height) ∧ w'.cell? ⟨w.heap.size, 3, none⟩ = some vp ∧ w'.cell? ⟨w.heap.size, 4, none⟩ = some vs ∧ w'.cell? ⟨w.heap.size, 5, none⟩ = some (.bool r.falls) ∧ w'.cell? ⟨w.heap.size, 6, none⟩ = some (.bool r.keeps) ∧ w'.cell? ⟨w.heap.size, 7, none⟩ = some ve ∧ w'.cell? ⟨w.heap.size, 8, none⟩ = some (.int .i64 r.blocked) ∧ w'.cell? ⟨w.heap.size, 9, none⟩ = some (.int .i64 r.quiet) ∧ w'.cell? ⟨w.heap.size, 10, none⟩ = some (.int .i64 r.rep) ∧ w'.cell? ⟨w.heap.size + 1, 0, none⟩ = some vc ∧ w'.cell? ⟨w.heap.size + 1, 1, none⟩ = some v0 ∧ w'.cell? ⟨w.heap.size + 1, 2, none⟩ = some v1 ∧ w'.cell? ⟨w.heap.size + 1, 3, none⟩ = some (.int .i64 p.turn) ∧ w'.cell? ⟨w.heap.size + 1, 4, none⟩ = some (.int .i64 p.quiet) ∧ w'.cell? ⟨mb, 0, none⟩ = some (.int .i64 m1) ∧ w'.cell? ⟨mb, 1, none⟩ = some (.int .i64 m2) ∧ w'.cell? ⟨mb, 2, none⟩ = some (.int .i64 m3)) := Lib.hid (fun w' h => by
          have hv := HBV3.out.trans (h.mono HBV3.out.size)
          obtain ⟨x0, x1, x2, x3, x4⟩ := HX.out w' hv
          obtain ⟨y0, y1, y2, y3, y4, y5, y6, y7, y8, y9, y10⟩ := HY.out w' hv
          have h1 := (h.block mb (Array.getElem?_eq_some_iff.1 hmb).1).trans hmb
          exact ⟨y0, y1, y2, y3, y4, y5, y6, y7, y8, y9, y10, x0, x1, x2, x3, x4, cell_of_row w' _ 0 _ _ (0, 0) h1, cell_of_row w' _ 1 _ _ (0, 0) h1, cell_of_row w' _ 2 _ _ (0, 0) h1⟩)
        obtain ⟨y0, y1, y2, y3, y4, y5, y6, y7, y8, y9, y10, x0, x1, x2, x3, x4, n0, n1, n2⟩ := HG.out w3 (Below.refl _ _)
        have HML : Hid ((m1, m2, m3) ∈ stepsD r p) := Lib.hid (List.mem_of_getElem? HMK.out)
        have HAQ : Hid (∀ W, Below w3.heap.size w3 W → Calls Tryz.prog 28 #[.agg #[.string r.name, .int .i64 r.width, .int .i64 r.height, vp, vs, .bool r.falls, .bool r.keeps, ve, .int .i64 r.blocked, .int .i64 r.quiet, .int .i64 r.rep], .agg #[vc, v0, v1, .int .i64 p.turn, .int .i64 p.quiet], .agg #[.int .i64 m1, .int .i64 m2, .int .i64 m3]] W (RefAft (afterD r p (m1, m2, m3)) W)) := Lib.hid (fun W h => HAF.out W (m1, m2, m3) (HBV3.out.trans (h.mono HBV3.out.size)) (steps_legal HML.out).2)
        have HRQ := Lib.hid (fun (W : World) (uc u0 u1 : Value) (y : Int) (l : Nat) (h : Below w3.heap.size w3 W) => HRC.out W (m1, m2, m3) uc u0 u1 y l (HBV3.out.trans (h.mono HBV3.out.size)) HML.out)
        obtain ⟨q2, hq2⟩ : ∃ q2, q2 = afterD r p (m1, m2, m3) := ⟨_, rfl⟩
        have HQ2 := Lib.hid hq2
        rw [← hq2] at HAQ HRQ
        have HTS : Hid (treTo r d p (k + 1) = treTo r d p k + treD r d q2) := Lib.hid (by rw [HQ2.out]; exact treTo_succ HMK.out)
        have HT1 := Lib.hid (HTT.out (k + 1))
        have hll : l ≤ 100000 := HLE.out
        have hul := hUl.out
        generalize treTo r d p k = s at HTS hul ⊢
        obtain ⟨l2, hl2⟩ : ∃ l2 : Nat, (l : Int) - 1 - (s : Int) = (l2 : Int) := ⟨l - 1 - s, by omega⟩
        have HL2 := Lib.hid hl2
        rw [hl2]
        have hl25 : l2 ≤ 100000 := by omega
        have HUL := Lib.hid hul
        clear hl2 hul
        clear hal hm HAF HRC hq2 hmb hBV3
        rw [hw3] at y0 y1 y2 y3 y4 y5 y6 y7 y8 y9 y10 x0 x1 x2 x3 x4 n0 n1 n2
        rw [hmbe] at n0 n1 n2
        go_wp2_with fail
        rw [← hw3, ← hmbe]
        rw [← hw3] at y0 y1 y2 y3 y4 y5 y6 y7 y8 y9 y10 x0 x1 x2 x3 x4 n0 n1 n2
        rw [← hmbe] at n0 n1 n2
        clear hw3 hmbe c0 c1 c2
        have hBc : Below w3.heap.size w3 w3.drew := (Below.refl _ _).drew
        go_region_held3 (fun w' => w'.cell? ⟨w.heap.size, 0, none⟩ = some (.string r.name) ∧ w'.cell? ⟨w.heap.size, 1, none⟩ = some (.int .i64 r.width) ∧ w'.cell? ⟨w.heap.size, 2, none⟩ = some (.int .i64 r.height) ∧ w'.cell? ⟨w.heap.size, 3, none⟩ = some vp ∧ w'.cell? ⟨w.heap.size, 4, none⟩ = some vs ∧ w'.cell? ⟨w.heap.size, 5, none⟩ = some (.bool r.falls) ∧ w'.cell? ⟨w.heap.size, 6, none⟩ = some (.bool r.keeps) ∧ w'.cell? ⟨w.heap.size, 7, none⟩ = some ve ∧ w'.cell? ⟨w.heap.size, 8, none⟩ = some (.int .i64 r.blocked) ∧ w'.cell? ⟨w.heap.size, 9, none⟩ = some (.int .i64 r.quiet) ∧ w'.cell? ⟨w.heap.size, 10, none⟩ = some (.int .i64 r.rep) ∧ w'.cell? ⟨w.heap.size + 1, 0, none⟩ = some vc ∧ w'.cell? ⟨w.heap.size + 1, 1, none⟩ = some v0 ∧ w'.cell? ⟨w.heap.size + 1, 2, none⟩ = some v1 ∧ w'.cell? ⟨w.heap.size + 1, 3, none⟩ = some (.int .i64 p.turn) ∧ w'.cell? ⟨w.heap.size + 1, 4, none⟩ = some (.int .i64 p.quiet) ∧ w'.cell? ⟨mb, 0, none⟩ = some (.int .i64 m1) ∧ w'.cell? ⟨mb, 1, none⟩ = some (.int .i64 m2) ∧ w'.cell? ⟨mb, 2, none⟩ = some (.int .i64 m3)) (with_reducible exact HG.out _ hBc) (first
          | (go_at_call 28; refine (HAQ.out _ hBc).mono ?_; rintro e w5 ⟨ca, cn, cc, a0, an0, ac0, a1, an1, ac1, rfl, hi2, hb⟩; have hB5 := hBc.trans (hb.mono hBc.size); have hBc := hB5; clear hb hB5)
          | (go_at_call 58; refine (HRQ.out _ _ _ _ _ l2 hBc (by have h := HXD.out; rw [IntKind.wrap_i64]; omega) hi2 hl25).mono ?_; rintro e w5 ⟨rfl, hb⟩; have hB5 := hBc.trans (hb.mono hBc.size); have hBc := hB5; clear hb hB5))
        have HB5 := Lib.hid (HBr3.out.trans (hBc.mono HBr3.out.size))
        clear hBc hi2 HAQ HRQ HG y0 y1 y2 y3 y4 y5 y6 y7 y8 y9 y10 x0 x1 x2 x3 x4 n0 n1 n2
        by_cases hfit : treD r d q2 ≤ l2
        · have HF : Hid (fitI (treD r d q2) l2 = (l : Int) - 1 - (treTo r d p (k + 1) : Int)) := Lib.hid (by
            unfold fitI
            rw [if_pos hfit, HTS.out]
            have := HL2.out
            push_cast
            omega)
          have hge : decide (fitI (treD r d q2) l2 < 0) = false := by
            unfold fitI
            rw [if_pos hfit]
            simp; omega
          have HU2 : Hid (1 + treTo r d p (k + 1) ≤ l) := Lib.hid (by have := HTS.out; have := HL2.out; have := HUL.out; omega)
          generalize fitI (treD r d q2) l2 = z at HF hge ⊢
          go_wp2_with fail
          go_roundw
          case rel => exact ⟨k + 1, by omega, by rw [HF.out], by go_num, HB5, HU2⟩
          case measure => simp [intOf]; omega
        · have HF : Hid (fitI (treD r (d + 1) p) l = -1) := Lib.hid (by
            unfold fitI
            rw [if_neg (by have := HTS.out; have := HL2.out; have := HT1.out; have := HUL.out; omega)])
          have hz : fitI (treD r d q2) l2 = -1 := by
            unfold fitI
            rw [if_neg hfit]
          rw [hz]
          clear hfit hz
          go_wp2_with fail
          go_ret
          exact ⟨by rw [HF.out]; rfl, HB.out.trans ((HB2.out.trans (HB5.out.mono HB2.out.size)).mono HB.out.size)⟩
      · obtain rfl : k = ln := by omega
        have HFI : Hid ((l : Int) - 1 - (treTo r d p k : Int) = fitI (treD r (d + 1) p) l) := Lib.hid (by
          have h1 : 1 + treTo r d p k = treD r (d + 1) p := by rw [HLN.out, HMS.out]; exact treTo_all r d p
          have h2 := hUl.out
          unfold fitI
          rw [if_pos (by omega)]
          omega)
        rw [HFI.out]
        go_wp2_with fail
        go_ret
        exact ⟨rfl, HB.out.trans (HBV.out.mono HB.out.size)⟩
  · have hne : (e != 0) = true := by simpa using h0
    have HF : Hid (fitI (treD r (d + 1) p) l = (l : Int) - 1) := Lib.hid (by
      rw [over_tre d (by rw [← HE.out]; exact h0)]
      unfold fitI
      rw [if_pos hl1]; rfl)
    clear h0
    go_wp2_with fail
    go_ret
    exact ⟨by rw [HF.out]; rfl, HB.out.trans (HB1.out.mono HB.out.size)⟩
theorem reffit_all : ∀ d, d ≤ 40 → Reffit d
  | 0, _ => reffit_zero
  | d + 1, h => reffit_succ d (by omega) (reffit_all d (by omega))

/-! ### Fits -/
set_option maxHeartbeats 4000000 in
theorem fits_any (r : RulesD) (p : PlaceD) (vp vs ve vc v0 v1 : Value) (d l : Nat) (w : World) (hr : IsRules w r vp vs ve) (hp : PlaceIn w p vc v0 v1) (hk : POkay r p) (hd : d ≤ 40) (hl : l ≤ 100000) :
    Calls Tryz.prog 41 #[RulesV r vp vs ve, PlaceV p vc v0 v1, .int .i64 (d : Int), .int .i64 (l : Int)] w (BelPost (.bool (decide (treD r d p ≤ l))) w) := by
  obtain ⟨hB, hY, hX⟩ := rp_boxes w r p vp vs ve vc v0 v1
  obtain ⟨V, hV⟩ : ∃ V, V = (w.alloc (.cells (RulesCells r vp vs ve) 26)).alloc (.cells (PlaceCells p vc v0 v1) 29) := ⟨_, rfl⟩
  rw [← hV] at hB hY hX
  have HB := Lib.hid hB
  have HNW := Lib.hid (reffit_all d hd r p vp vs ve vc v0 v1 (d : Int) l V rfl (hr.below hB (Nat.le_refl _)) (hp.below hB (Nat.le_refl _)) hk hl)
  have HF : Hid (decide (fitI (treD r d p) l ≥ 0) = decide (treD r d p ≤ l)) := Lib.hid (by
    unfold fitI
    by_cases h : treD r d p ≤ l
    · rw [if_pos h]; simp [h]
    · rw [if_neg h]; simp [h])
  obtain ⟨x0, x1, x2, x3, x4⟩ := hX
  obtain ⟨y0, y1, y2, y3, y4, y5, y6, y7, y8, y9, y10⟩ := hY
  have hV' := hV
  unfold RulesCells PlaceCells at hV'
  unfold RulesV PlaceV PlaceCells at HNW ⊢
  rw [hV] at x0 x1 x2 x3 x4 y0 y1 y2 y3 y4 y5 y6 y7 y8 y9 y10
  clear hr hp hB hV hk hd hl
  go_enter Tryz.func41, Tryz.ntmps41
  go_wp2_with fail
  rw [← hV']
  clear hV' x0 x1 x2 x3 x4 y0 y1 y2 y3 y4 y5 y6 y7 y8 y9 y10
  go_at_call 58; refine HNW.out.mono ?_; rintro e w1 ⟨rfl, hb⟩
  have HB1 := Lib.hid (HB.out.trans (hb.mono HB.out.size))
  clear hb HNW HB
  generalize fitI (treD r d p) l = z at HF ⊢
  go_wp2_with fail
  go_ret
  exact ⟨by rw [← HF.out]; rfl, HB1.out⟩
end Go.Proofs.YtdhhdkbnlddnbaaGreatDoor
