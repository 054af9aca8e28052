/- moves.After. -/
import Derived.Test.YthbilpgecombiaaMovN
import Derived.Test.YthbilpgecombiaaMovE
set_option maxRecDepth 100000
namespace Go.Proofs.Ythbilpgecombiaa
open Go.ChangeShapes Go.WideShapes Go.ChangeAt Go.RowKit

def afterE (r : RulesD) (p : PlaceD) (m : MoveD) : Int := if placeE r p = 0 then (if legalB r p m = true then 0 else 13) else placeE r p
/-- A position that was made, and no error. -/
def MadeP (q : PlaceD) (w : World) (e : Ending) (w' : World) : Prop :=
  ∃ ca cn cc a0 n0 c0 a1 n1 c1, e = .returned (.tuple #[.agg #[.slice ca cn cc, .slice a0 n0 c0, .slice a1 n1 c1, .int .i64 q.turn, .int .i64 q.quiet], .int .i64 0]) ∧ PlaceF (fun k => w.heap.size ≤ k) w' q (.slice ca cn cc) (.slice a0 n0 c0) (.slice a1 n1 c1) ∧ Below w.heap.size w w'
theorem PlaceF.plain {d : Nat → Prop} {W : World} {p : PlaceD} {vc v0 v1 : Value} (h : PlaceF d W p vc v0 v1) : PlaceIn W p vc v0 v1 := ⟨h.c.mono fun _ _ _ x => x.2, h.a.mono fun _ _ _ x => x.2, h.b.mono fun _ _ _ x => x.2⟩
theorem PlaceF.on {d e : Nat → Prop} {W W' : World} {p : PlaceD} {vc v0 v1 : Value} (h : PlaceF d W p vc v0 v1) (hs : ∀ k, d k → k < W.heap.size → W'.heap[k]? = W.heap[k]?) (hd : ∀ k, d k → e k) : PlaceF e W' p vc v0 v1 :=
  ⟨blk_weak hd (intBlk_on hs h.c), blk_weak hd (intBlk_on hs h.a), blk_weak hd (intBlk_on hs h.b)⟩
/-- What After returns: the position after the move, or an error. -/
def AftPost (r : RulesD) (p : PlaceD) (m : MoveD) (w : World) (e : Ending) (w' : World) : Prop := (afterE r p m = 0 ∧ MadeP (afterD r p m) w e w') ∨ (afterE r p m ≠ 0 ∧ PBad (afterE r p m) w e w')
set_option maxHeartbeats 8000000 in
theorem After_any (r : RulesD) (p : PlaceD) (vp vs ve vc v0 v1 : Value) (m : MoveD) (w : World) (hr : RulesIn w r vp vs ve) (hp : PlaceIn w p vc v0 v1) :
    Calls Try.prog 13 #[RulesV r vp vs ve, PlaceV p vc v0 v1, moveV m] w (AftPost r p m w) := by
  obtain ⟨V, hV, hB, hY, hX, hM, hVS⟩ := rpm_boxes w r p vp vs ve vc v0 v1 m
  obtain ⟨U, hU⟩ : ∃ U, U = V.alloc (.cells (PlaceCells zeroP (.slice none 0 0) (.slice none 0 0) (.slice none 0 0)) 29) := ⟨_, rfl⟩
  have hVU : Below V.heap.size V U := by rw [hU]; exact (Below.refl _ _).alloc (Nat.le_refl _) _
  have hRB : PBox U (w.heap.size + 3) 29 zeroP (.slice none 0 0) (.slice none 0 0) (.slice none 0 0) := by
    rw [hU, ← hVS]; exact PBox.new _ _ _ _ _ _
  have hUS : w.heap.size + 3 < U.heap.size := by rw [hU]; simp [hVS]
  have HUS := Lib.hid hUS
  have hwU := hB.trans (hVU.mono hB.size)
  obtain ⟨c, hc⟩ : ∃ c : Int, c = placeE r p := ⟨_, rfl⟩
  have HCK : Hid (Calls Try.prog 9 #[RulesV r vp vs ve, PlaceV p vc v0 v1] U (BelPost (.int .i64 c) U)) := Lib.hid (by rw [hc]; exact pcheck_any r p vp vs ve vc v0 v1 U (hr.below hwU (Nat.le_refl _)) (hp.below hwU (Nat.le_refl _)))
  obtain ⟨bb, hbb⟩ : ∃ bb, bb = legalB r p m := ⟨_, rfl⟩
  have HIL : Hid (c = 0 → ∀ W, Below w.heap.size w W → Calls Try.prog 34 #[RulesV r vp vs ve, PlaceV p vc v0 v1, moveV m] W (BelPost (.bool bb) W)) := Lib.hid (fun hz W hb => by rw [hbb]; exact isLegal_any r p vp vs ve vc v0 v1 m W (hr.1.below hb (Nat.le_refl _)) (hp.below hb (Nat.le_refl _)) (placeE_iff.1 (by rw [← hc]; exact hz)))
  have HAF : Hid (c = 0 → bb = true → ∀ W, Below w.heap.size w W → Calls Try.prog 35 #[RulesV r vp vs ve, PlaceV p vc v0 v1, moveV m] W (FreshPost (afterD r p m) W)) := Lib.hid (fun hz hl W hb => by
    have hk := placeE_iff.1 (show placeE r p = 0 by rw [← hc]; exact hz)
    exact after_any r p vp vs ve vc v0 v1 m W (hp.below hb (Nat.le_refl _)) hk (legal_ok hk (by rw [← hbb]; exact hl)))
  have HB := Lib.hid hwU
  have HRB := Lib.hid hRB
  have HX : Hid (∀ W, Below U.heap.size U W → BoxP W (w.heap.size + 1) p vc v0 v1) := Lib.hid (fun W hb => (hX.below hVU (Nat.le_refl _)).below hb (Nat.le_refl _))
  have HY : Hid (∀ W, Below U.heap.size U W → BoxR W w.heap.size r vp vs ve) := Lib.hid (fun W hb => (hY.below hVU (Nat.le_refl _)).below hb (Nat.le_refl _))
  obtain ⟨qd, hqd⟩ : ∃ qd, qd = afterD r p m := ⟨_, rfl⟩
  have HG : Hid (c = 0 → bb = true → ∀ e w', MadeP qd w e w' → AftPost r p m w e w') := Lib.hid (fun hz hl e w' h => .inl ⟨by rw [afterE, if_pos (by rw [← hc]; exact hz), if_pos (by rw [← hbb]; exact hl)], by rw [← hqd]; exact h⟩)
  have HN : Hid (c = 0 → bb = false → ∀ e w', PBad 13 w e w' → AftPost r p m w e w') := Lib.hid (fun hz hl e w' h => by
    have he : afterE r p m = 13 := by rw [afterE, if_pos (by rw [← hc]; exact hz), if_neg (by rw [← hbb, hl]; simp)]
    exact .inr ⟨by rw [he]; decide, by rw [he]; exact h⟩)
  have HE : Hid (c ≠ 0 → ∀ e w', PBad c w e w' → AftPost r p m w e w') := Lib.hid (fun hz e w' h => by
    have he : afterE r p m = c := by rw [afterE, if_neg (by rw [← hc]; exact hz), hc]
    exact .inr ⟨by rw [he]; exact hz, by rw [he]; exact h⟩)
  rw [← hqd] at HAF
  obtain ⟨m1, m2, m3⟩ := m
  have HM : Hid (∀ W, Below U.heap.size U W → W.cell? ⟨w.heap.size + 2, 0, none⟩ = some (.int .i64 m1) ∧ W.cell? ⟨w.heap.size + 2, 1, none⟩ = some (.int .i64 m2) ∧ W.cell? ⟨w.heap.size + 2, 2, none⟩ = some (.int .i64 m3)) := Lib.hid (fun W hb => MoveAt.below (MoveAt.below hM hVU (Nat.le_refl _)) hb (Nat.le_refl _))
  obtain ⟨x0, x1, x2, x3, x4⟩ := HX.out U (Below.refl _ _)
  obtain ⟨y0, y1, y2, y3, y4, y5, y6, y7, y8, y9, y10⟩ := HY.out U (Below.refl _ _)
  unfold RulesCells at hV
  unfold PlaceCells at hV hU
  unfold zeroP at hU
  unfold RulesV at HCK HIL HAF ⊢
  unfold PlaceV PlaceCells at HCK HIL ⊢
  unfold moveV at HIL HAF ⊢
  unfold PlaceV PlaceCells at HAF
  dsimp only at hV hU HIL HAF ⊢
  have w0 := x0
  rw [hU, hV] at x0 x1 x2 x3 x4 y0 y1 y2 y3 y4 y5 y6 y7 y8 y9 y10
  clear hr hp hc hB hM hbb hqd hX hY hVU hRB hwU hUS hVS w0
  go_enter Try.func13, Try.ntmps13
  go_wp2_with fail
  rw [← hV, ← hU]
  clear hV hU x0 x1 x2 x3 x4 y0 y1 y2 y3 y4 y5 y6 y7 y8 y9 y10
  go_at_call 9; refine HCK.out.mono ?_; rintro e w1 ⟨rfl, hb⟩
  have HB1 := Lib.hid (HB.out.trans (hb.mono HB.out.size))
  by_cases hz : c = 0
  · have HIL1 := Lib.hid (HIL.out hz _ HB1.out)
    have HAF1 := Lib.hid (HAF.out hz)
    have HG1 := Lib.hid (HG.out hz)
    have HN1 := Lib.hid (HN.out hz)
    subst hz
    obtain ⟨x0, x1, x2, x3, x4⟩ := HX.out w1 hb
    obtain ⟨y0, y1, y2, y3, y4, y5, y6, y7, y8, y9, y10⟩ := HY.out w1 hb
    obtain ⟨z0, z1, z2⟩ := HM.out w1 hb
    have HBU := Lib.hid hb
    clear HB HCK HIL HAF HG HN HE hb
    go_wp2_with fail
    go_at_call 34; refine HIL1.out.mono ?_; rintro e w2 ⟨rfl, hb2⟩
    have HB2 := Lib.hid (HB1.out.trans (hb2.mono HB1.out.size))
    have HBU2 := Lib.hid (HBU.out.trans (hb2.mono HBU.out.size))
    clear hb2 HB1 HIL1 HBU x0 x1 x2 x3 x4 y0 y1 y2 y3 y4 y5 y6 y7 y8 y9 y10 z0 z1 z2
    cases bb
    · have hR := HRB.out.below HBU2.out HUS.out
      have HR := Lib.hid hR
      obtain ⟨⟨r0, r1, r2, r3, r4⟩, r5, r6, r7, r8, r9⟩ := hR.facts
      unfold zeroP at r3 r4
      clear HAF1 HG1 HX HY HM HRB hR
      go_wp2_with fail
      have HR2 := pbox_fill (p := zeroP) (vc := .slice none 0 0) (v0 := .slice none 0 0) (v1 := .slice none 0 0) HR.out
      refine bodyPost_ret (results_row_tmpP rfl _ _ (w.heap.size + 3) 29 _ (0, 0) _ rfl HR2 Try.underlying29 rfl (by kernel_rfl)) rfl ?_
      exact HN1.out (by first | rfl | trivial) _ _ ⟨rfl, fillP_below HB2.out (by omega) zeroP _ _ _⟩
    · have HAF2 := Lib.hid (HAF1.out rfl _ HB2.out)
      have HG2 := Lib.hid (HG1.out rfl)
      obtain ⟨x0, x1, x2, x3, x4⟩ := HX.out w2 HBU2.out
      obtain ⟨y0, y1, y2, y3, y4, y5, y6, y7, y8, y9, y10⟩ := HY.out w2 HBU2.out
      obtain ⟨z0, z1, z2⟩ := HM.out w2 HBU2.out
      clear HAF1 HG1 HN1 HX HY HM
      go_wp2_with fail
      go_at_call 35; refine HAF2.out.mono ?_; rintro e w3 ⟨uc, u0, u1, rfl, hpi, hb3⟩
      obtain ⟨ca, cn, cc, rfl⟩ := hpi.c.form
      obtain ⟨a0, n0, c0, rfl⟩ := hpi.a.form
      obtain ⟨a1, n1, c1, rfl⟩ := hpi.b.form
      have HB3 := Lib.hid (HB2.out.trans (hb3.mono HB2.out.size))
      have HBU3 := Lib.hid (HBU2.out.trans (hb3.mono HBU2.out.size))
      have HPI := Lib.hid hpi
      have hR := HRB.out.below HBU3.out HUS.out
      have HR := Lib.hid hR
      obtain ⟨⟨r0, r1, r2, r3, r4⟩, r5, r6, r7, r8, r9⟩ := hR.facts
      unfold zeroP at r3 r4
      clear hpi hb3 HB2 hR HAF2 x0 x1 x2 x3 x4 y0 y1 y2 y3 y4 y5 y6 y7 y8 y9 y10 z0 z1 z2
      unfold PlaceV PlaceCells
      go_wp2_with fail
      have HR2 := pbox_fill (p := qd) (vc := .slice ca cn cc) (v0 := .slice a0 n0 c0) (v1 := .slice a1 n1 c1) HR.out
      have hfo := fillP_other w3 (w.heap.size + 3) qd (.slice ca cn cc) (.slice a0 n0 c0) (.slice a1 n1 c1)
      have hbf := fillP_below HB3.out (b := w.heap.size + 3) (by omega) qd (.slice ca cn cc) (.slice a0 n0 c0) (.slice a1 n1 c1)
      have hpf : PlaceF (fun k => w.heap.size ≤ k) (fillP w3 (w.heap.size + 3) qd (.slice ca cn cc) (.slice a0 n0 c0) (.slice a1 n1 c1)) qd (.slice ca cn cc) (.slice a0 n0 c0) (.slice a1 n1 c1) := by
        have hw2 : w.heap.size + 3 < w2.heap.size := by have := HUS.out; have := HBU2.out.size; omega
        exact HPI.out.on (fun k hk _ => hfo.1 k (by omega)) (fun k hk => by omega)
      refine bodyPost_ret (results_row_tmpP rfl _ _ (w.heap.size + 3) 29 _ (0, 0) _ rfl HR2 Try.underlying29 rfl (by kernel_rfl)) rfl ?_
      exact HG2.out _ _ ⟨ca, cn, cc, a0, n0, c0, a1, n1, c1, rfl, hpf, hbf⟩
  · have HE1 := Lib.hid (HE.out hz)
    have hne : (c != 0) = true := by simpa using hz
    have hR := HRB.out.below hb HUS.out
    have HR := Lib.hid hR
    obtain ⟨⟨r0, r1, r2, r3, r4⟩, r5, r6, r7, r8, r9⟩ := hR.facts
    unfold zeroP at r3 r4
    clear HB HCK HIL HAF HG HN HE hb hz HX HY HM HRB hR
    go_wp2_with fail
    have HR2 := pbox_fill (p := zeroP) (vc := .slice none 0 0) (v0 := .slice none 0 0) (v1 := .slice none 0 0) HR.out
    refine bodyPost_ret (results_row_tmpP rfl _ _ (w.heap.size + 3) 29 _ (0, 0) _ rfl HR2 Try.underlying29 rfl (by kernel_rfl)) rfl ?_
    exact HE1.out _ _ ⟨rfl, fillP_below HB1.out (by omega) zeroP _ _ _⟩
end Go.Proofs.Ythbilpgecombiaa
