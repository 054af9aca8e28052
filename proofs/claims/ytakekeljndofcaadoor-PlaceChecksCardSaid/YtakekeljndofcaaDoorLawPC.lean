/- The law PlaceChecks: Check, Begin and Text are the reference's. -/
import Derived.Test.YtakekeljndofcaaDoorPText
import Derived.Test.YtakekeljndofcaaDoorPBegin
import Derived.Test.YtakekeljndofcaaDoorRefPTxt
import Derived.Test.YtakekeljndofcaaDoorRefBegin
import Derived.Test.YtakekeljndofcaaDoorRefPSame
import Derived.Test.YtakekeljndofcaaDoorThreeR
import Derived.Test.YtakekeljndofcaaDoorOpenP
set_option maxRecDepth 100000
namespace Go.Proofs.YtakekeljndofcaaDoor
open Go.ChangeShapes Go.WideShapes Go.ChangeAt Go.RowKit

def three9 : RulesD := threeD [0, 0, 0, 0, 0, 0, 0, 0, 0]
theorem three9_ok : rulesE three9 = 0 := by decide +kernel
def bList : List Int := [0, 0, 0, 0, 0, 0, 0, 0, 0]
def bD : PlaceD := ⟨bList, [5], [5], 0, 0⟩
theorem begin_b : beginD three9 = bD := rfl
theorem bD_ok : POkay three9 bD := placeE_iff.1 (by decide +kernel)
theorem bD_text : str (placeT three9 bD) = ⟨#[51, 47, 51, 47, 51, 32, 65, 53, 32, 65, 53, 32, 49, 32, 48]⟩ := by
  rw [show placeT three9 bD = [51, 47, 51, 47, 51, 32, 65, 53, 32, 65, 53, 32, 49, 32, 48] by decide +kernel]; rfl
theorem zero_e : placeE three9 zeroP = 3 := by decide +kernel
theorem zero_in (W : World) : PlaceIn W zeroP (.slice none 0 0) (.slice none 0 0) (.slice none 0 0) := ⟨.inl ⟨rfl, none, 0, rfl⟩, .inl ⟨rfl, none, 0, rfl⟩, .inl ⟨rfl, none, 0, rfl⟩⟩
/-- A position that was made, and its error. -/
def OthP (q : PlaceD) (w : World) (e : Ending) (w' : World) : Prop :=
  ∃ ca cn cc a0 n0 c0 a1 n1 c1, e = .returned (.tuple #[.agg #[.slice ca cn cc, .slice a0 n0 c0, .slice a1 n1 c1, .int .i64 q.turn, .int .i64 q.quiet], .int .i64 0]) ∧ PlaceIn w' q (.slice ca cn cc) (.slice a0 n0 c0) (.slice a1 n1 c1) ∧ Below w.heap.size w w'
theorem begP_of {r : RulesD} {q : PlaceD} {w : World} {e : Ending} {w' : World} (h : BeginOk r w e w') (hq : beginD r = q) : OthP q w e w' := by
  subst hq
  obtain ⟨vc, v0, v1, rfl, hi, hb⟩ := h
  obtain ⟨ca, cn, cc, rfl⟩ := hi.c.form
  obtain ⟨a0, n0, c0, rfl⟩ := hi.a.form
  obtain ⟨a1, n1, c1, rfl⟩ := hi.b.form
  exact ⟨ca, cn, cc, a0, n0, c0, a1, n1, c1, rfl, hi, hb⟩
/-- A position that was made. -/
def RefP (q : PlaceD) (w : World) (e : Ending) (w' : World) : Prop :=
  ∃ ca cn cc a0 n0 c0 a1 n1 c1, e = .returned (.agg #[.slice ca cn cc, .slice a0 n0 c0, .slice a1 n1 c1, .int .i64 q.turn, .int .i64 q.quiet]) ∧ PlaceIn w' q (.slice ca cn cc) (.slice a0 n0 c0) (.slice a1 n1 c1) ∧ Below w.heap.size w w'
theorem refP_of {r : RulesD} {q : PlaceD} {w : World} {e : Ending} {w' : World} (h : BeginRef r w e w') (hq : beginD r = q) : RefP q w e w' := by
  subst hq
  obtain ⟨vc, v0, v1, rfl, hi, hb⟩ := h
  obtain ⟨ca, cn, cc, rfl⟩ := hi.c.form
  obtain ⟨a0, n0, c0, rfl⟩ := hi.a.form
  obtain ⟨a1, n1, c1, rfl⟩ := hi.b.form
  exact ⟨ca, cn, cc, a0, n0, c0, a1, n1, c1, rfl, hi, hb⟩
theorem StrP.ret {l : List UInt8} {w : World} {e : Ending} {w' : World} (h : StrP l w e w') : e = .returned (.string (str l)) ∧ Below w.heap.size w w' := h
set_option maxHeartbeats 16000000 in
theorem placeChecks_full (r : RulesD) (p : PlaceD) (vp vs ve vc v0 v1 : Value) (w : World) (hr : RulesIn w r vp vs ve) (hf : LettersFit r.pieces) (hp : PlaceIn w p vc v0 v1) (hT : Tb w.heap.size w) :
    Calls Tryd.prog 3 #[RulesV r vp vs ve, PlaceV p vc v0 v1] w fun e w' => e = .returned (.bool true) ∧ Below w.heap.size w w' := by
  have HTB : Hid (∀ W, Below w.heap.size w W → Tb W.heap.size W) := Lib.hid (fun W h => hT.up h h.size)
  have HIR : Hid (∀ W, Below w.heap.size w W → RulesIn W r vp vs ve) := Lib.hid (fun W h => hr.below h (Nat.le_refl _))
  have HIP : Hid (∀ W, Below w.heap.size w W → PlaceIn W p vc v0 v1) := Lib.hid (fun W h => hp.below h (Nat.le_refl _))
  have H3B : Hid (∀ vp vs ve W, RulesIn W three9 vp vs ve → Calls Tryd.prog 4 #[RulesV three9 vp vs ve] W (OthP bD W)) := Lib.hid (fun vp vs ve W h => (begin_ok three9 vp vs ve W h three9_ok).mono fun _ _ h => begP_of h begin_b)
  have H3T : Hid (∀ vp vs ve vc v0 v1 W, RulesIn W three9 vp vs ve → PlaceIn W bD vc v0 v1 → Tb W.heap.size W → Calls Tryd.prog 6 #[RulesV three9 vp vs ve, .agg #[vc, v0, v1, .int .i64 0, .int .i64 0]] W (TextP ⟨#[51, 47, 51, 47, 51, 32, 65, 53, 32, 65, 53, 32, 49, 32, 48]⟩ 0 W)) := Lib.hid (fun vp vs ve vc v0 v1 W h1 h2 h3 => by
    have := text_ok three9 bD vp vs ve vc v0 v1 W h1 h2 bD_ok h3
    rwa [bD_text] at this)
  have H3C : Hid (∀ vp vs ve W, RulesIn W three9 vp vs ve → Calls Tryd.prog 7 #[RulesV three9 vp vs ve, .agg #[.slice none 0 0, .slice none 0 0, .slice none 0 0, .int .i64 0, .int .i64 0]] W (BelPost (.int .i64 3) W)) := Lib.hid (fun vp vs ve W h1 => by
    have := pcheck_any three9 zeroP vp vs ve _ _ _ W h1 (zero_in W)
    rwa [zero_e] at this)
  obtain ⟨c, hc⟩ : ∃ c, c = placeE r p := ⟨_, rfl⟩
  obtain ⟨d, hd⟩ : ∃ d, d = rulesE r := ⟨_, rfl⟩
  obtain ⟨S, hS⟩ : ∃ S, S = str (placeT r p) := ⟨_, rfl⟩
  obtain ⟨q, hq⟩ : ∃ q, q = beginD r := ⟨_, rfl⟩
  have HSH : Hid (c = 0 → d = 0) := Lib.hid (fun hz => by rw [hd]; exact (placeE_iff.1 (by rw [← hc]; exact hz)).e)
  have HPE : Hid (∀ W, Below w.heap.size w W → Calls Tryd.prog 8 #[RulesV r vp vs ve, PlaceV p vc v0 v1] W (BelPost (.int .i64 c) W)) := Lib.hid (fun W h => by rw [hc]; exact placeErr_any r p vp vs ve vc v0 v1 W (HIR.out W h) hf (HIP.out W h))
  have HCK : Hid (∀ W, Below w.heap.size w W → Calls Tryd.prog 7 #[RulesV r vp vs ve, PlaceV p vc v0 v1] W (BelPost (.int .i64 c) W)) := Lib.hid (fun W h => by rw [hc]; exact pcheck_any r p vp vs ve vc v0 v1 W (HIR.out W h) (HIP.out W h))
  have HTX0 : Hid (c ≠ 0 → ∀ W, Below w.heap.size w W → Calls Tryd.prog 6 #[RulesV r vp vs ve, PlaceV p vc v0 v1] W (TextP ⟨#[]⟩ c W)) := Lib.hid (fun hz W h => by rw [hc] at hz ⊢; exact text_bad r p vp vs ve vc v0 v1 W (HIR.out W h) (HIP.out W h) hz)
  have HTX1 : Hid (c = 0 → ∀ W, Below w.heap.size w W → Calls Tryd.prog 6 #[RulesV r vp vs ve, PlaceV p vc v0 v1] W (TextP S 0 W)) := Lib.hid (fun hz W h => by rw [hS]; exact text_ok r p vp vs ve vc v0 v1 W (HIR.out W h) (HIP.out W h) (placeE_iff.1 (by rw [← hc]; exact hz)) (HTB.out W h))
  have HPT : Hid (c = 0 → ∀ W, Below w.heap.size w W → Calls Tryd.prog 9 #[RulesV r vp vs ve, PlaceV p vc v0 v1] W (fun e w' => e = .returned (.string S) ∧ Below W.heap.size W w')) := Lib.hid (fun hz W h => by rw [hS]; exact (placeText_any r p vp vs ve vc v0 v1 W (HIR.out W h) (HIP.out W h) (placeE_iff.1 (by rw [← hc]; exact hz))).mono fun _ _ h => h)
  have HRE : Hid (∀ W, Below w.heap.size w W → Calls Tryd.prog 10 #[RulesV r vp vs ve] W (BelPost (.int .i64 d) W)) := Lib.hid (fun W h => by rw [hd]; exact rulesError_any r vp vs ve W (HIR.out W h) hf)
  have HBB : Hid (d ≠ 0 → ∀ W, Below w.heap.size w W → Calls Tryd.prog 4 #[RulesV r vp vs ve] W (PBad d W)) := Lib.hid (fun hz W h => by rw [hd] at hz ⊢; exact begin_bad r vp vs ve W (HIR.out W h) hz)
  have HBG : Hid (d = 0 → ∀ W, Below w.heap.size w W → Calls Tryd.prog 4 #[RulesV r vp vs ve] W (OthP q W)) := Lib.hid (fun hz W h => (begin_ok r vp vs ve W (HIR.out W h) (by rw [← hd]; exact hz)).mono fun _ _ h => begP_of h hq.symm)
  have HRB : Hid (d = 0 → ∀ W, Below w.heap.size w W → Calls Tryd.prog 12 #[RulesV r vp vs ve] W (RefP q W)) := Lib.hid (fun hz W h => (beginRef_ok r vp vs ve W (HIR.out W h) (by rw [← hd]; exact hz)).mono fun _ _ h => refP_of h hq.symm)
  have HSQ : Hid (d = 0 → Short q) := Lib.hid (fun hz => by rw [hq]; exact (beginD_ok (by rw [← hd]; exact hz)).short)
  have hB : Below w.heap.size w ((w.alloc (.cells (RulesCells r vp vs ve) 26)).alloc (.cells (PlaceCells p vc v0 v1) 29)) := ((Below.refl _ _).alloc (Nat.le_refl _) _).alloc (by simp) _
  have HB : Hid _ := Lib.hid hB
  have hX : BoxP ((w.alloc (.cells (RulesCells r vp vs ve) 26)).alloc (.cells (PlaceCells p vc v0 v1) 29)) (w.heap.size + 1) p vc v0 v1 := by
    have h := boxP_new (w.alloc (.cells (RulesCells r vp vs ve) 26)) p vc v0 v1 29
    rwa [World.size_alloc] at h
  have HX : Hid _ := Lib.hid hX
  have hY : BoxR ((w.alloc (.cells (RulesCells r vp vs ve) 26)).alloc (.cells (PlaceCells p vc v0 v1) 29)) w.heap.size r vp vs ve :=
    (boxR_new w r vp vs ve 26).below ((Below.refl _ _).alloc (Nat.le_refl _) _) (Nat.le_refl _)
  have HY : Hid _ := Lib.hid hY
  unfold RulesCells PlaceCells at HB HX HY
  unfold RulesV at HPE HCK HTX0 HTX1 HPT HRE HBB HBG HRB ⊢
  unfold PlaceV PlaceCells at HPE HCK HTX0 HTX1 HPT ⊢
  clear hr hf hp hc hd hB hX hY hq hT hS
  go_enter Tryd.func3, Tryd.ntmps3
  go_wp2_with fail
  go_at_call 5; refine (three_law _).mono ?_; rintro e w1 ⟨vp1, vs1, ve1, rfl, hin, hb⟩
  have HB1 := Lib.hid (HB.out.trans (hb.mono HB.out.size))
  have HX1 := Lib.hid (HX.out.below hb (Nat.le_refl _))
  have HY1 := Lib.hid (HY.out.below hb (Nat.le_refl _))
  have HI1 := Lib.hid hin
  clear hb hin HB HX HY
  go_wp2_with fail
  go_at_call 4; refine (H3B.out _ _ _ _ HI1.out).mono ?_; rintro e w2 ⟨ca, cn, cc, a0, n0, c0, a1, n1, c1, rfl, hpn, hb⟩
  have HB2 := Lib.hid (HB1.out.trans (hb.mono HB1.out.size))
  have HX2 := Lib.hid (HX1.out.below hb (Nat.le_refl _))
  have HY2 := Lib.hid (HY1.out.below hb (Nat.le_refl _))
  have HN2 := Lib.hid hpn
  clear hb hpn HB1 HX1 HY1 HI1
  unfold bD
  go_wp2_with fail
  have hal := (Below.refl w2.heap.size w2).alloc (Nat.le_refl _) (.cells #[.slice ca cn cc, .slice a0 n0 c0, .slice a1 n1 c1, .int .i64 0, .int .i64 0] 29)
  have HB3 := Lib.hid (HB2.out.trans (hal.mono HB2.out.size))
  have HX3 := Lib.hid (HX2.out.below hal (Nat.le_refl _))
  have HY3 := Lib.hid (HY2.out.below hal (Nat.le_refl _))
  have HN3 := Lib.hid (HN2.out.below hal (Nat.le_refl _))
  have HQ3 := Lib.hid (boxP_new w2 bD (.slice ca cn cc) (.slice a0 n0 c0) (.slice a1 n1 c1) 29)
  unfold PlaceCells bD at HQ3
  clear hal HB2 HX2 HY2 HN2
  generalize w2.alloc (.cells #[.slice ca cn cc, .slice a0 n0 c0, .slice a1 n1 c1, .int .i64 0, .int .i64 0] 29) = w3 at HB3 HX3 HY3 HN3 HQ3 ⊢
  generalize w2.heap.size = qb at HQ3 ⊢
  obtain ⟨q0, q1, q2, q3, q4⟩ := HQ3.out
  have hBc : Below w3.heap.size w3 w3.drew := (Below.refl _ _).drew
  go_region_held3 (fun w' => w'.cell? ⟨qb, 0, none⟩ = some (.slice ca cn cc) ∧ w'.cell? ⟨qb, 1, none⟩ = some (.slice a0 n0 c0) ∧ w'.cell? ⟨qb, 2, none⟩ = some (.slice a1 n1 c1) ∧ w'.cell? ⟨qb, 3, none⟩ = some (.int .i64 0) ∧ w'.cell? ⟨qb, 4, none⟩ = some (.int .i64 0)) (first | exact HQ3.out.below hBc (Nat.le_refl _) | go_keep) (first
    | (go_at_call 5; refine (three_law _).mono ?_; rintro e w4 ⟨vp4, vs4, ve4, rfl, hin, hb⟩; have hBc := hBc.trans (hb.mono hBc.size); clear hb)
    | (go_at_call 6; refine (H3T.out _ _ _ _ _ _ _ hin (HN3.out.below hBc (Nat.le_refl _)) (HTB.out _ (HB3.out.trans (hBc.mono HB3.out.size)))).mono ?_; rintro e w5 ⟨rfl, hb⟩; have hBc := hBc.trans (hb.mono hBc.size); clear hb))
  have HB5 := Lib.hid (HB3.out.trans (hBc.mono HB3.out.size))
  have HX5 := Lib.hid (HX3.out.below hBc (Nat.le_refl _))
  have HY5 := Lib.hid (HY3.out.below hBc (Nat.le_refl _))
  clear hBc hin HB3 HX3 HY3 HN3 HQ3 q0 q1 q2 q3 q4
  go_wp2_with fail
  go_at_call 5; refine (three_law _).mono ?_; rintro e w6 ⟨vp6, vs6, ve6, rfl, hin, hb⟩
  have HB6 := Lib.hid (HB5.out.trans (hb.mono HB5.out.size))
  have HX6 := Lib.hid (HX5.out.below hb (Nat.le_refl _))
  have HY6 := Lib.hid (HY5.out.below hb (Nat.le_refl _))
  have HI6 := Lib.hid hin
  clear hb hin HB5 HX5 HY5
  go_wp2_with fail
  go_at_call 7; refine (H3C.out _ _ _ _ HI6.out).mono ?_; rintro e w7 ⟨rfl, hb⟩
  have HB7 := Lib.hid (HB6.out.trans (hb.mono HB6.out.size))
  have HX7 := Lib.hid (HX6.out.below hb (Nat.le_refl _))
  have HY7 := Lib.hid (HY6.out.below hb (Nat.le_refl _))
  clear hb HB6 HX6 HY6 HI6
  obtain ⟨y0, y1, y2, y3, y4, y5, y6, y7, y8, y9, y10⟩ := HY7.out
  obtain ⟨x0, x1, x2, x3, x4⟩ := HX7.out
  go_wp2_with fail
  go_at_call 8; refine (HPE.out _ HB7.out).mono ?_; rintro e w8 ⟨rfl, hb⟩
  have HB8 := Lib.hid (HB7.out.trans (hb.mono HB7.out.size))
  have HX8 := Lib.hid (HX7.out.below hb (Nat.le_refl _))
  have HY8 := Lib.hid (HY7.out.below hb (Nat.le_refl _))
  clear hb HB7 HX7 HY7 y0 y1 y2 y3 y4 y5 y6 y7 y8 y9 y10 x0 x1 x2 x3 x4
  obtain ⟨y0, y1, y2, y3, y4, y5, y6, y7, y8, y9, y10⟩ := HY8.out
  obtain ⟨x0, x1, x2, x3, x4⟩ := HX8.out
  go_wp2_with fail
  by_cases hz : c = 0
  · have HTX := Lib.hid (HTX1.out hz)
    have HPT1 := Lib.hid (HPT.out hz)
    have HBG1 := Lib.hid (HBG.out (HSH.out hz))
    have HRB1 := Lib.hid (HRB.out (HSH.out hz))
    have HSQ1 := Lib.hid (HSQ.out (HSH.out hz))
    have hd0 := HSH.out hz
    subst hz hd0
    clear HTX0 HTX1 HPT HBG HRB HSQ HSH HBB
    go_at_call 6; refine (HTX.out _ HB8.out).mono ?_; rintro e w9 ⟨rfl, hb⟩
    have HB9 := Lib.hid (HB8.out.trans (hb.mono HB8.out.size))
    have HX9 := Lib.hid (HX8.out.below hb (Nat.le_refl _))
    have HY9 := Lib.hid (HY8.out.below hb (Nat.le_refl _))
    clear hb HB8 HX8 HY8 y0 y1 y2 y3 y4 y5 y6 y7 y8 y9 y10 x0 x1 x2 x3 x4
    obtain ⟨y0, y1, y2, y3, y4, y5, y6, y7, y8, y9, y10⟩ := HY9.out
    obtain ⟨x0, x1, x2, x3, x4⟩ := HX9.out
    go_wp2_with fail
    go_at_call 7; refine (HCK.out _ HB9.out).mono ?_; rintro e w10 ⟨rfl, hb⟩
    have HB10 := Lib.hid (HB9.out.trans (hb.mono HB9.out.size))
    have HX10 := Lib.hid (HX9.out.below hb (Nat.le_refl _))
    have HY10 := Lib.hid (HY9.out.below hb (Nat.le_refl _))
    clear hb HB9 HX9 HY9 y0 y1 y2 y3 y4 y5 y6 y7 y8 y9 y10 x0 x1 x2 x3 x4
    obtain ⟨y0, y1, y2, y3, y4, y5, y6, y7, y8, y9, y10⟩ := HY10.out
    obtain ⟨x0, x1, x2, x3, x4⟩ := HX10.out
    go_wp2_with fail
    go_at_call 9; refine (HPT1.out _ HB10.out).mono ?_; rintro e w11 ⟨rfl, hb⟩
    have HB11 := Lib.hid (HB10.out.trans (hb.mono HB10.out.size))
    have HX11 := Lib.hid (HX10.out.below hb (Nat.le_refl _))
    have HY11 := Lib.hid (HY10.out.below hb (Nat.le_refl _))
    clear hb HB10 HX10 HY10 y0 y1 y2 y3 y4 y5 y6 y7 y8 y9 y10 x0 x1 x2 x3 x4
    obtain ⟨y0, y1, y2, y3, y4, y5, y6, y7, y8, y9, y10⟩ := HY11.out
    obtain ⟨x0, x1, x2, x3, x4⟩ := HX11.out
    go_wp2_with fail
    go_at_call 4; refine (HBG1.out _ HB11.out).mono ?_; rintro e w20 ⟨da, dn, dc, e0, m0, f0, e1, m1, f1, rfl, hin, hb⟩
    have hal := (Below.refl w20.heap.size w20).alloc (Nat.le_refl _) (.cells #[.slice da dn dc, .slice e0 m0 f0, .slice e1 m1 f1, .int .i64 q.turn, .int .i64 q.quiet] 29)
    have hb' := hb.trans (hal.mono hb.size)
    have HB21 := Lib.hid (HB11.out.trans (hb'.mono HB11.out.size))
    have HX21 := Lib.hid (HX11.out.below hb' (Nat.le_refl _))
    have HY21 := Lib.hid (HY11.out.below hb' (Nat.le_refl _))
    have HN21 := Lib.hid (hin.below hal (Nat.le_refl _))
    have HQ21 := Lib.hid (boxP_new w20 q (.slice da dn dc) (.slice e0 m0 f0) (.slice e1 m1 f1) 29)
    unfold PlaceCells at HQ21
    clear hb hb' hal hin HB11 HX11 HY11 y0 y1 y2 y3 y4 y5 y6 y7 y8 y9 y10 x0 x1 x2 x3 x4
    obtain ⟨y0, y1, y2, y3, y4, y5, y6, y7, y8, y9, y10⟩ := HY21.out
    go_wp2_with fail
    go_at_call 10
    clear y0 y1 y2 y3 y4 y5 y6 y7 y8 y9 y10
    generalize w20.alloc (.cells #[.slice da dn dc, .slice e0 m0 f0, .slice e1 m1 f1, .int .i64 q.turn, .int .i64 q.quiet] 29) = w21 at HB21 HX21 HY21 HN21 HQ21 ⊢
    generalize w20.heap.size = bb at HQ21 ⊢
    refine (HRE.out _ HB21.out).mono ?_; rintro e w22 ⟨rfl, hb⟩
    have HB22 := Lib.hid (HB21.out.trans (hb.mono HB21.out.size))
    have HX22 := Lib.hid (HX21.out.below hb (Nat.le_refl _))
    have HY22 := Lib.hid (HY21.out.below hb (Nat.le_refl _))
    have HN22 := Lib.hid (HN21.out.below hb (Nat.le_refl _))
    have HQ22 := Lib.hid (HQ21.out.below hb (Nat.le_refl _))
    clear hb HB21 HX21 HY21 HN21 HQ21
    obtain ⟨y0, y1, y2, y3, y4, y5, y6, y7, y8, y9, y10⟩ := HY22.out
    obtain ⟨q0, q1, q2, q3, q4⟩ := HQ22.out
    go_wp2_with fail
    have HSP : Hid (∀ vc v0 v1 uc u0 u1 W, PlaceIn W q vc v0 v1 → PlaceIn W q uc u0 u1 → Calls Tryd.prog 11 #[.agg #[vc, v0, v1, .int .i64 q.turn, .int .i64 q.quiet], .agg #[uc, u0, u1, .int .i64 q.turn, .int .i64 q.quiet]] W (BelPost (.bool true) W)) := Lib.hid (fun vc v0 v1 uc u0 u1 W h1 h2 => samePlace_eq q vc v0 v1 uc u0 u1 W h1 h2 HSQ1.out)
    have hBc : Below w22.heap.size w22 w22.drew := (Below.refl _ _).drew
    clear q0 q1 q2 q3 q4 y0 y1 y2 y3 y4 y5 y6 y7 y8 y9 y10
    go_region_held3 (fun w' => (w'.cell? ⟨w.heap.size, 0, none⟩ = some (.string r.name) ∧ w'.cell? ⟨w.heap.size, 1, none⟩ = some (.int .i64 r.width) ∧ w'.cell? ⟨w.heap.size, 2, none⟩ = some (.int .i64 r.height) ∧ w'.cell? ⟨w.heap.size, 3, none⟩ = some vp ∧ w'.cell? ⟨w.heap.size, 4, none⟩ = some vs ∧ w'.cell? ⟨w.heap.size, 5, none⟩ = some (.bool r.falls) ∧ w'.cell? ⟨w.heap.size, 6, none⟩ = some (.bool r.keeps) ∧ w'.cell? ⟨w.heap.size, 7, none⟩ = some ve ∧ w'.cell? ⟨w.heap.size, 8, none⟩ = some (.int .i64 r.blocked) ∧ w'.cell? ⟨w.heap.size, 9, none⟩ = some (.int .i64 r.quiet) ∧ w'.cell? ⟨w.heap.size, 10, none⟩ = some (.int .i64 r.rep)) ∧ (w'.cell? ⟨bb, 0, none⟩ = some (.slice da dn dc) ∧ w'.cell? ⟨bb, 1, none⟩ = some (.slice e0 m0 f0) ∧ w'.cell? ⟨bb, 2, none⟩ = some (.slice e1 m1 f1) ∧ w'.cell? ⟨bb, 3, none⟩ = some (.int .i64 q.turn) ∧ w'.cell? ⟨bb, 4, none⟩ = some (.int .i64 q.quiet))) (exact ⟨HY22.out.below hBc (Nat.le_refl _), HQ22.out.below hBc (Nat.le_refl _)⟩) (first
      | (go_at_call 12; refine (HRB1.out _ (HB22.out.trans (hBc.mono HB22.out.size))).mono ?_; rintro e w23 ⟨ga, gn, gk, s0, t0, k0, s1, t1, k1, rfl, hin, hb⟩; have hBc := hBc.trans (hb.mono hBc.size); clear hb)
      | (go_at_call 11; refine (HSP.out _ _ _ _ _ _ _ (HN22.out.below hBc (Nat.le_refl _)) hin).mono ?_; rintro e w24 ⟨rfl, hb⟩; have hBc := hBc.trans (hb.mono hBc.size); clear hb))
    have HB24 := Lib.hid (HB22.out.trans (hBc.mono HB22.out.size))
    clear hBc hin
    go_wp2_with fail
    go_ret
    exact ⟨rfl, HB24.out⟩
  · have HTX := Lib.hid (HTX0.out hz)
    have hce : (c == 0) = false := by simpa using hz
    have hcn : (c != 0) = true := by simpa using hz
    clear HTX0 HTX1 HPT hz
    go_at_call 6; refine (HTX.out _ HB8.out).mono ?_; rintro e w9 ⟨rfl, hb⟩
    have HB9 := Lib.hid (HB8.out.trans (hb.mono HB8.out.size))
    have HX9 := Lib.hid (HX8.out.below hb (Nat.le_refl _))
    have HY9 := Lib.hid (HY8.out.below hb (Nat.le_refl _))
    clear hb HB8 HX8 HY8 y0 y1 y2 y3 y4 y5 y6 y7 y8 y9 y10 x0 x1 x2 x3 x4
    obtain ⟨y0, y1, y2, y3, y4, y5, y6, y7, y8, y9, y10⟩ := HY9.out
    obtain ⟨x0, x1, x2, x3, x4⟩ := HX9.out
    go_wp2_with fail
    go_at_call 7; refine (HCK.out _ HB9.out).mono ?_; rintro e w10 ⟨rfl, hb⟩
    have HB10 := Lib.hid (HB9.out.trans (hb.mono HB9.out.size))
    have HX10 := Lib.hid (HX9.out.below hb (Nat.le_refl _))
    have HY10 := Lib.hid (HY9.out.below hb (Nat.le_refl _))
    clear hb HB9 HX9 HY9 y0 y1 y2 y3 y4 y5 y6 y7 y8 y9 y10 x0 x1 x2 x3 x4
    obtain ⟨y0, y1, y2, y3, y4, y5, y6, y7, y8, y9, y10⟩ := HY10.out
    obtain ⟨x0, x1, x2, x3, x4⟩ := HX10.out
    go_wp2_with fail
    by_cases hd0 : d = 0
    · have HBG1 := Lib.hid (HBG.out hd0)
      have HRB1 := Lib.hid (HRB.out hd0)
      have HSQ1 := Lib.hid (HSQ.out hd0)
      subst hd0
      clear HBG HRB HSQ HSH HBB
      go_at_call 4; refine (HBG1.out _ HB10.out).mono ?_; rintro e w20 ⟨da, dn, dc, e0, m0, f0, e1, m1, f1, rfl, hin, hb⟩
      have hal := (Below.refl w20.heap.size w20).alloc (Nat.le_refl _) (.cells #[.slice da dn dc, .slice e0 m0 f0, .slice e1 m1 f1, .int .i64 q.turn, .int .i64 q.quiet] 29)
      have hb' := hb.trans (hal.mono hb.size)
      have HB21 := Lib.hid (HB10.out.trans (hb'.mono HB10.out.size))
      have HX21 := Lib.hid (HX10.out.below hb' (Nat.le_refl _))
      have HY21 := Lib.hid (HY10.out.below hb' (Nat.le_refl _))
      have HN21 := Lib.hid (hin.below hal (Nat.le_refl _))
      have HQ21 := Lib.hid (boxP_new w20 q (.slice da dn dc) (.slice e0 m0 f0) (.slice e1 m1 f1) 29)
      unfold PlaceCells at HQ21
      clear hb hb' hal hin HB10 HX10 HY10 y0 y1 y2 y3 y4 y5 y6 y7 y8 y9 y10 x0 x1 x2 x3 x4
      obtain ⟨y0, y1, y2, y3, y4, y5, y6, y7, y8, y9, y10⟩ := HY21.out
      go_wp2_with fail
      go_at_call 10
      clear y0 y1 y2 y3 y4 y5 y6 y7 y8 y9 y10
      generalize w20.alloc (.cells #[.slice da dn dc, .slice e0 m0 f0, .slice e1 m1 f1, .int .i64 q.turn, .int .i64 q.quiet] 29) = w21 at HB21 HX21 HY21 HN21 HQ21 ⊢
      generalize w20.heap.size = bb at HQ21 ⊢
      refine (HRE.out _ HB21.out).mono ?_; rintro e w22 ⟨rfl, hb⟩
      have HB22 := Lib.hid (HB21.out.trans (hb.mono HB21.out.size))
      have HX22 := Lib.hid (HX21.out.below hb (Nat.le_refl _))
      have HY22 := Lib.hid (HY21.out.below hb (Nat.le_refl _))
      have HN22 := Lib.hid (HN21.out.below hb (Nat.le_refl _))
      have HQ22 := Lib.hid (HQ21.out.below hb (Nat.le_refl _))
      clear hb HB21 HX21 HY21 HN21 HQ21
      obtain ⟨y0, y1, y2, y3, y4, y5, y6, y7, y8, y9, y10⟩ := HY22.out
      obtain ⟨q0, q1, q2, q3, q4⟩ := HQ22.out
      go_wp2_with fail
      have HSP : Hid (∀ vc v0 v1 uc u0 u1 W, PlaceIn W q vc v0 v1 → PlaceIn W q uc u0 u1 → Calls Tryd.prog 11 #[.agg #[vc, v0, v1, .int .i64 q.turn, .int .i64 q.quiet], .agg #[uc, u0, u1, .int .i64 q.turn, .int .i64 q.quiet]] W (BelPost (.bool true) W)) := Lib.hid (fun vc v0 v1 uc u0 u1 W h1 h2 => samePlace_eq q vc v0 v1 uc u0 u1 W h1 h2 HSQ1.out)
      have hBc : Below w22.heap.size w22 w22.drew := (Below.refl _ _).drew
      clear q0 q1 q2 q3 q4 y0 y1 y2 y3 y4 y5 y6 y7 y8 y9 y10
      go_region_held3 (fun w' => (w'.cell? ⟨w.heap.size, 0, none⟩ = some (.string r.name) ∧ w'.cell? ⟨w.heap.size, 1, none⟩ = some (.int .i64 r.width) ∧ w'.cell? ⟨w.heap.size, 2, none⟩ = some (.int .i64 r.height) ∧ w'.cell? ⟨w.heap.size, 3, none⟩ = some vp ∧ w'.cell? ⟨w.heap.size, 4, none⟩ = some vs ∧ w'.cell? ⟨w.heap.size, 5, none⟩ = some (.bool r.falls) ∧ w'.cell? ⟨w.heap.size, 6, none⟩ = some (.bool r.keeps) ∧ w'.cell? ⟨w.heap.size, 7, none⟩ = some ve ∧ w'.cell? ⟨w.heap.size, 8, none⟩ = some (.int .i64 r.blocked) ∧ w'.cell? ⟨w.heap.size, 9, none⟩ = some (.int .i64 r.quiet) ∧ w'.cell? ⟨w.heap.size, 10, none⟩ = some (.int .i64 r.rep)) ∧ (w'.cell? ⟨bb, 0, none⟩ = some (.slice da dn dc) ∧ w'.cell? ⟨bb, 1, none⟩ = some (.slice e0 m0 f0) ∧ w'.cell? ⟨bb, 2, none⟩ = some (.slice e1 m1 f1) ∧ w'.cell? ⟨bb, 3, none⟩ = some (.int .i64 q.turn) ∧ w'.cell? ⟨bb, 4, none⟩ = some (.int .i64 q.quiet))) (exact ⟨HY22.out.below hBc (Nat.le_refl _), HQ22.out.below hBc (Nat.le_refl _)⟩) (first
        | (go_at_call 12; refine (HRB1.out _ (HB22.out.trans (hBc.mono HB22.out.size))).mono ?_; rintro e w23 ⟨ga, gn, gk, s0, t0, k0, s1, t1, k1, rfl, hin, hb⟩; have hBc := hBc.trans (hb.mono hBc.size); clear hb)
        | (go_at_call 11; refine (HSP.out _ _ _ _ _ _ _ (HN22.out.below hBc (Nat.le_refl _)) hin).mono ?_; rintro e w24 ⟨rfl, hb⟩; have hBc := hBc.trans (hb.mono hBc.size); clear hb))
      have HB24 := Lib.hid (HB22.out.trans (hBc.mono HB22.out.size))
      clear hBc hin
      go_wp2_with fail
      go_ret
      exact ⟨rfl, HB24.out⟩
    · have HBB1 := Lib.hid (HBB.out hd0)
      have hde : (d == 0) = false := by simpa using hd0
      have hdn : (d != 0) = true := by simpa using hd0
      clear HBG HRB HSQ HSH HBB hd0
      go_at_call 4; refine (HBB1.out _ HB10.out).mono ?_; rintro e w20 ⟨rfl, hb⟩
      have hal := (Below.refl w20.heap.size w20).alloc (Nat.le_refl _) (.cells #[.slice none 0 0, .slice none 0 0, .slice none 0 0, .int .i64 0, .int .i64 0] 29)
      have hb' := hb.trans (hal.mono hb.size)
      have HB21 := Lib.hid (HB10.out.trans (hb'.mono HB10.out.size))
      have HY21 := Lib.hid (HY10.out.below hb' (Nat.le_refl _))
      have HQ21 := Lib.hid (boxP_new w20 zeroP (.slice none 0 0) (.slice none 0 0) (.slice none 0 0) 29)
      unfold PlaceCells zeroP at HQ21
      clear hb hb' hal HB10 HX10 HY10 y0 y1 y2 y3 y4 y5 y6 y7 y8 y9 y10 x0 x1 x2 x3 x4
      obtain ⟨y0, y1, y2, y3, y4, y5, y6, y7, y8, y9, y10⟩ := HY21.out
      go_wp2_with fail
      go_at_call 10
      clear y0 y1 y2 y3 y4 y5 y6 y7 y8 y9 y10
      generalize w20.alloc (.cells #[.slice none 0 0, .slice none 0 0, .slice none 0 0, .int .i64 0, .int .i64 0] 29) = w21 at HB21 HY21 HQ21 ⊢
      generalize w20.heap.size = bb at HQ21 ⊢
      refine (HRE.out _ HB21.out).mono ?_; rintro e w22 ⟨rfl, hb⟩
      have HB22 := Lib.hid (HB21.out.trans (hb.mono HB21.out.size))
      have HQ22 := Lib.hid (HQ21.out.below hb (Nat.le_refl _))
      clear hb HB21 HY21 HQ21
      obtain ⟨q0, q1, q2, q3, q4⟩ := HQ22.out
      go_wp2_with fail
      go_ret
      exact ⟨rfl, HB22.out⟩
end Go.Proofs.YtakekeljndofcaaDoor
