/- The law EndsExchanged: without Falls, the result of the position in which the players are exchanged is the exchanged result. -/
import Derived.Test.YtbiojjhgopnjeaaDoorEndN
import Derived.Test.YtbiojjhgopnjeaaDoorEndX
import Derived.Test.YtbiojjhgopnjeaaDoorOthA
import Derived.Test.YtbiojjhgopnjeaaDoorOpnA
import Derived.Test.YtbiojjhgopnjeaaDoorFine
set_option maxRecDepth 100000
namespace Go.Proofs.YtbiojjhgopnjeaaDoor
open Go.ChangeShapes Go.WideShapes Go.ChangeAt Go.RowKit

def xList : List Int := [0, 0, 0, 1, 1, 0, 2, 2, 0]
def xD : PlaceD := ⟨xList, [3], [3], 1, 0⟩
theorem near_x : otherD three9 nearD = xD := by
  show PlaceD.mk (mirL 3 3 nearD.cells) [3] [3] (1 - 0) 0 = xD
  rw [show mirL 3 3 nearD.cells = xList by decide +kernel]
  rfl
/-- A position that was made, and its error. -/
def OthP (q : PlaceD) (n : Nat) (w : World) (e : Ending) (w' : World) : Prop :=
  ∃ ca cc a0 n0 c0 a1 n1 c1, e = .returned (.tuple #[.agg #[.slice ca n cc, .slice a0 n0 c0, .slice a1 n1 c1, .int .i64 q.turn, .int .i64 q.quiet], .int .i64 0]) ∧ PlaceIn w' q (.slice ca n cc) (.slice a0 n0 c0) (.slice a1 n1 c1) ∧ Below w.heap.size w w'
theorem othP_of {r : RulesD} {p q : PlaceD} {n : Nat} {w : World} {e : Ending} {w' : World} (h : OtherOk r p w e w') (hq : otherD r p = q) (hn : n = q.cells.length) : OthP q n w e w' := by
  subst hq
  obtain ⟨vc, v0, v1, rfl, hi, hb⟩ := h
  obtain ⟨ca, cc, rfl, _, _⟩ := hi.c.shape hn
  obtain ⟨a0, n0, c0, rfl⟩ := hi.a.form
  obtain ⟨a1, n1, c1, rfl⟩ := hi.b.form
  exact ⟨ca, cc, a0, n0, c0, a1, n1, c1, rfl, hi, hb⟩
set_option maxHeartbeats 16000000 in
theorem endsExchanged_full (r0 : RulesD) (vp vs ve : Value) (p : PlaceD) (vc v0 v1 : Value) (w : World) (hr0 : RulesIn w r0 vp vs ve) (hp : PlaceIn w p vc v0 v1) (hT : Dir w) :
    Calls Tryd.prog 3 #[RulesV r0 vp vs ve, PlaceV p vc v0 v1] w fun e w' => e = .returned (.bool true) ∧ Below w.heap.size w w' := by
  have H3O : Hid (∀ vp vs ve vc v0 v1 W, RulesIn W three9 vp vs ve → PlaceIn W nearD vc v0 v1 → Calls Tryd.prog 9 #[RulesV three9 vp vs ve, PlaceV nearD vc v0 v1] W (OthP xD 9 W)) := Lib.hid (fun vp vs ve vc v0 v1 W h1 h2 => (other_ok three9 nearD vp vs ve vc v0 v1 W h1 h2 near_ok).mono fun _ _ h => othP_of h near_x rfl)
  have H9 := Lib.hid of_won9
  obtain ⟨r, hrd⟩ : ∃ r : RulesD, r = { r0 with falls := false } := ⟨_, rfl⟩
  have hr : RulesIn w r vp vs ve := by rw [hrd]; exact hr0
  have hf : r.falls = false := by rw [hrd]
  obtain ⟨V, hV⟩ : ∃ V, V = (w.alloc (.cells #[.string r0.name, .int .i64 r0.width, .int .i64 r0.height, vp, vs, .bool false, .bool r0.keeps, ve, .int .i64 r0.blocked, .int .i64 r0.quiet, .int .i64 r0.rep] 26)).alloc (.cells (PlaceCells p vc v0 v1) 29) := ⟨_, rfl⟩
  obtain ⟨hB, hY, hX⟩ := rp_boxes w { r0 with falls := false } p vp vs ve vc v0 v1
  have hVV : (w.alloc (.cells (RulesCells { r0 with falls := false } vp vs ve) 26)).alloc (.cells (PlaceCells p vc v0 v1) 29) = V := hV.symm
  rw [hVV] at hB hY hX
  clear hVV
  rw [← hrd] at hY
  have HB := Lib.hid hB
  have HIR : Hid (∀ W, Below V.heap.size V W → RulesIn W r vp vs ve) := Lib.hid (fun W h => (hr.below hB (Nat.le_refl _)).below h (Nat.le_refl _))
  have HIP : Hid (∀ W, Below V.heap.size V W → PlaceIn W p vc v0 v1) := Lib.hid (fun W h => (hp.below hB (Nat.le_refl _)).below h (Nat.le_refl _))
  have HT : Hid (∀ W, Below V.heap.size V W → Dir W) := Lib.hid (fun W h => (hT.below hB (Nat.le_refl _)).below h (Nat.le_refl _))
  obtain ⟨c, hc⟩ : ∃ c, c = placeE r p := ⟨_, rfl⟩
  have HOK : Hid (c = 0 → POkay r p) := Lib.hid (fun h => placeE_iff.1 (by rw [← hc]; exact h))
  obtain ⟨x, hx⟩ : ∃ x, x = resultD r p := ⟨_, rfl⟩
  have HXI : Hid (c = 0 → 0 ≤ x ∧ x ≤ 3) := Lib.hid (fun h => by rw [hx]; exact result_in (HOK.out h))
  have HFB : Hid (c ≠ 0 → ∀ W, Below V.heap.size V W → Calls Tryd.prog 7 #[RulesV r vp vs ve, PlaceV p vc v0 v1] W (OfPost 0 c W)) := Lib.hid (fun hz W h => by rw [hc]; exact of_bad r p vp vs ve vc v0 v1 W (HIR.out W h) (HIP.out W h) (by rw [← hc]; exact hz))
  have HFG : Hid (c = 0 → ∀ W, Below V.heap.size V W → Calls Tryd.prog 7 #[RulesV r vp vs ve, PlaceV p vc v0 v1] W (OfPost x 0 W)) := Lib.hid (fun hz W h => by rw [hx]; exact of_ok r p vp vs ve vc v0 v1 W (HIR.out W h) (HIP.out W h) (HOK.out hz) (HT.out W h))
  obtain ⟨q, hq⟩ : ∃ q, q = otherD r p := ⟨_, rfl⟩
  obtain ⟨m, hm⟩ : ∃ m, m = q.cells.length := ⟨_, rfl⟩
  have HOG : Hid (c = 0 → ∀ W, Below V.heap.size V W → Calls Tryd.prog 9 #[RulesV r vp vs ve, PlaceV p vc v0 v1] W (OthP q m W)) := Lib.hid (fun hz W h => (other_ok r p vp vs ve vc v0 v1 W (HIR.out W h) (HIP.out W h) (HOK.out hz)).mono fun _ _ h => othP_of h hq.symm hm)
  have HFQ : Hid (c = 0 → ∀ uc u0 u1 W, Below V.heap.size V W → PlaceIn W q uc u0 u1 → Calls Tryd.prog 7 #[RulesV r vp vs ve, .agg #[uc, u0, u1, .int .i64 q.turn, .int .i64 q.quiet]] W (OfPost (swapR x) 0 W)) := Lib.hid (fun hz uc u0 u1 W h hi => by
    have h1 := of_ok r q vp vs ve uc u0 u1 W (HIR.out W h) hi (by rw [hq]; exact otherD_same (HOK.out hz)) (HT.out W h)
    have h2 : resultD r q = swapR x := by rw [hq, hx]; exact result_turn (HOK.out hz) hf
    rwa [h2] at h1)
  have HX : Hid (∀ W, Below V.heap.size V W → BoxP W (w.heap.size + 1) p vc v0 v1) := Lib.hid (fun W hb => hX.below hb (Nat.le_refl _))
  have HY : Hid (∀ W, Below V.heap.size V W → BoxR W w.heap.size r vp vs ve) := Lib.hid (fun W hb => hY.below hb (Nat.le_refl _))
  unfold PlaceCells at hV
  unfold RulesV at HFB HFG HOG HFQ ⊢
  unfold PlaceV PlaceCells at HFB HFG HOG ⊢
  unfold PlaceV PlaceCells won9 at H9
  dsimp only at H9
  clear hr0 hr hp hc hx hq hm hB hX hY hf hrd hT
  go_enter Tryd.func3, Tryd.ntmps3
  go_wp2_with fail
  rw [← hV]
  clear hV
  go_at_call 6; refine (near_own _).mono ?_; rintro e w1 ⟨g, a, b, rfl, ho⟩
  have HO := Lib.hid ho
  obtain ⟨s0, s1, s2, s3⟩ := won_store ho
  clear ho
  go_wp2_with fail
  generalize hU : ((w1.alloc (.cells #[.slice (some ⟨g, 0, none⟩) 9 9, .slice (some ⟨a, 0, none⟩) 1 1, .slice (some ⟨b, 0, none⟩) 1 1, .int .i64 0, .int .i64 0] 29)).setCell ⟨g, 2, none⟩ (.int .i64 1)).setCell ⟨w1.heap.size, 3, none⟩ (.int .i64 1) = U
  obtain ⟨hb, hbx, hpi⟩ := won_made HO.out hU.symm
  have HBU := Lib.hid hb
  have HQU := Lib.hid hbx
  have HNU := Lib.hid hpi
  unfold won9 at HQU
  unfold BoxP at HQU
  dsimp only at HQU
  clear hb hbx hpi hU s0 s1 s2 s3 HO
  generalize w1.heap.size = qb at HQU ⊢
  obtain ⟨q0, q1, q2, q3, q4⟩ := HQU.out
  have hBc : Below U.heap.size U U.drew := (Below.refl _ _).drew
  go_region_held3 (fun w' => w'.cell? ⟨qb, 0, none⟩ = some (.slice (some ⟨g, 0, none⟩) 9 9) ∧ w'.cell? ⟨qb, 1, none⟩ = some (.slice (some ⟨a, 0, none⟩) 1 1) ∧ w'.cell? ⟨qb, 2, none⟩ = some (.slice (some ⟨b, 0, none⟩) 1 1) ∧ w'.cell? ⟨qb, 3, none⟩ = some (.int .i64 1) ∧ w'.cell? ⟨qb, 4, none⟩ = some (.int .i64 0)) (exact ⟨cell_keeps hBc (Nat.le_refl _) HQU.out.1, cell_keeps hBc (Nat.le_refl _) HQU.out.2.1, cell_keeps hBc (Nat.le_refl _) HQU.out.2.2.1, cell_keeps hBc (Nat.le_refl _) HQU.out.2.2.2.1, cell_keeps hBc (Nat.le_refl _) HQU.out.2.2.2.2⟩) (first
    | (go_at_call 8; refine (three_keep _).mono ?_; rintro e w4 ⟨vp4, vs4, ve4, rfl, hin, hb⟩; have hBc := hBc.trans (hb.mono hBc.size); clear hb)
    | (go_at_call 7; refine (H9.out _ _ _ _ _ _ _ hin (HNU.out.below hBc (Nat.le_refl _)) (HT.out _ (HBU.out.trans (hBc.mono HBU.out.size)))).mono ?_; rintro e w5 ⟨rfl, hb⟩; have hBc := hBc.trans (hb.mono hBc.size); clear hb))
  have HB5 := Lib.hid (HBU.out.trans (hBc.mono HBU.out.size))
  clear hBc hin HBU HQU HNU H9 q0 q1 q2 q3 q4
  go_wp2_with fail
  go_at_call 8; refine (three_keep _).mono ?_; rintro e w6 ⟨vp1, vs1, ve1, rfl, hin, hb⟩
  have HB6 := Lib.hid (HB5.out.trans (hb.mono HB5.out.size))
  have HI6 := Lib.hid hin
  clear hb hin HB5
  go_wp2_with fail
  go_at_call 6; refine (near_any _).mono ?_; rintro e w7 ⟨uc, u0, u1, rfl, hpn, hb⟩
  have HB7 := Lib.hid (HB6.out.trans (hb.mono HB6.out.size))
  have HI7 := Lib.hid (HI6.out.below hb (Nat.le_refl _))
  have HN7 := Lib.hid hpn
  clear hb hpn HB6 HI6
  go_wp2_with fail
  go_at_call 9; refine (H3O.out _ _ _ _ _ _ _ HI7.out HN7.out).mono ?_; rintro e w8 ⟨ca, cc, a0, n0, c0, a1, n1, c1, rfl, -, hb⟩
  have hal := (Below.refl w8.heap.size w8).alloc (Nat.le_refl _) (.cells #[.slice ca 9 cc, .slice a0 n0 c0, .slice a1 n1 c1, .int .i64 1, .int .i64 0] 29)
  have HB8 := Lib.hid (HB7.out.trans ((hb.trans (hal.mono hb.size)).mono HB7.out.size))
  clear hb hal HB7 HI7 HN7 H3O
  obtain ⟨x0, x1, x2, x3, x4⟩ := HX.out _ HB8.out
  obtain ⟨y0, y1, y2, y3, y4, y5, y6, y7, y8, y9, y10⟩ := HY.out _ HB8.out
  unfold xD
  go_wp2_with fail
  by_cases hz : c = 0
  · have HFG1 := Lib.hid (HFG.out hz)
    have HOG1 := Lib.hid (HOG.out hz)
    have HFQ1 := Lib.hid (HFQ.out hz)
    obtain ⟨y, hy⟩ : ∃ y, y = swapR x := ⟨_, rfl⟩
    have HXY : Hid ((x = 0 ∧ y = 0) ∨ (x = 1 ∧ y = 2) ∨ (x = 2 ∧ y = 1) ∨ (x = 3 ∧ y = 3)) := Lib.hid (by
      have h := HXI.out hz
      obtain e | e | e | e : x = 0 ∨ x = 1 ∨ x = 2 ∨ x = 3 := by omega
      all_goals rw [e] at hy; rw [hy, e]; decide)
    rw [← hy] at HFQ1
    clear HFB HFG HOG HFQ HOK HXI hz hy
    go_at_call 7; refine (HFG1.out _ HB8.out).mono ?_; rintro e w9 ⟨rfl, hb⟩
    have HB9 := Lib.hid (HB8.out.trans (hb.mono HB8.out.size))
    clear hb HB8 HFG1 x0 x1 x2 x3 x4 y0 y1 y2 y3 y4 y5 y6 y7 y8 y9 y10
    obtain ⟨x0, x1, x2, x3, x4⟩ := HX.out _ HB9.out
    obtain ⟨y0, y1, y2, y3, y4, y5, y6, y7, y8, y9, y10⟩ := HY.out _ HB9.out
    go_wp2_with fail
    go_at_call 9; refine (HOG1.out _ HB9.out).mono ?_; rintro e w10 ⟨da, dc, e0, j0, k0, e1, j1, k1, rfl, hpi, hb⟩
    have hal := (Below.refl w10.heap.size w10).alloc (Nat.le_refl _) (.cells #[.slice da m dc, .slice e0 j0 k0, .slice e1 j1 k1, .int .i64 q.turn, .int .i64 q.quiet] 29)
    have HB10 := Lib.hid (HB9.out.trans ((hb.trans (hal.mono hb.size)).mono HB9.out.size))
    have HPI := Lib.hid (hpi.below hal (Nat.le_refl _))
    have hQ := boxP_new w10 q (.slice da m dc) (.slice e0 j0 k0) (.slice e1 j1 k1) 29
    unfold PlaceCells at hQ
    obtain ⟨z0, z1, z2, z3, z4⟩ := hQ
    clear hb hal hpi HB9 HOG1 x0 x1 x2 x3 x4 y0 y1 y2 y3 y4 y5 y6 y7 y8 y9 y10
    obtain ⟨y0, y1, y2, y3, y4, y5, y6, y7, y8, y9, y10⟩ := HY.out _ HB10.out
    go_wp2_with fail
    go_at_call 7; refine (HFQ1.out _ _ _ _ HB10.out HPI.out).mono ?_; rintro e w11 ⟨rfl, hb⟩
    have HB11 := Lib.hid (HB10.out.trans (hb.mono HB10.out.size))
    clear hb HB10 HPI HFQ1 y0 y1 y2 y3 y4 y5 y6 y7 y8 y9 y10 z0 z1 z2 z3 z4
    have HBE := Lib.hid (HB.out.trans (HB11.out.mono HB.out.size))
    clear HB11
    rcases HXY.out with ⟨rfl, rfl⟩ | ⟨rfl, rfl⟩ | ⟨rfl, rfl⟩ | ⟨rfl, rfl⟩
    all_goals
      go_wp2_with fail
      go_at_call 10; refine (fine2 w11 _ rfl).mono ?_; rintro e w12 ⟨rfl, hb⟩
      have HBF := Lib.hid (HBE.out.trans (hb.mono HBE.out.size))
      clear hb HBE
      go_wp2_with fail
      go_ret
      exact ⟨rfl, HBF.out⟩
  · have HFB1 := Lib.hid (HFB.out hz)
    have hne : (c != 0) = true := by simpa using hz
    clear HFB HFG HOG HFQ HOK HXI hz
    go_at_call 7; refine (HFB1.out _ HB8.out).mono ?_; rintro e w9 ⟨rfl, hb⟩
    have HBE := Lib.hid (HB.out.trans ((HB8.out.trans (hb.mono HB8.out.size)).mono HB.out.size))
    clear hb HB8 HFB1
    go_wp2_with fail
    go_ret
    exact ⟨rfl, HBE.out⟩
end Go.Proofs.YtbiojjhgopnjeaaDoor
