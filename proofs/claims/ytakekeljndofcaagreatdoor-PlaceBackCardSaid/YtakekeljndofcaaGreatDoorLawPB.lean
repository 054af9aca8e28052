/- The law PlaceBack: a text that was written is read back; what is read is written back. -/
import Derived.Test.YtakekeljndofcaaGreatDoorRead
import Derived.Test.YtakekeljndofcaaGreatDoorSameP
import Derived.Test.YtakekeljndofcaaGreatDoorFine
import Derived.Test.YtakekeljndofcaaGreatDoorThreeR
import Derived.Test.YtakekeljndofcaaGreatDoorOpenP
set_option maxRecDepth 100000
namespace Go.Proofs.YtakekeljndofcaaGreatDoor
open Go.ChangeShapes Go.WideShapes Go.ChangeAt Go.RowKit

def three9 : RulesD := threeD [0, 0, 0, 0, 0, 0, 0, 0, 0]
theorem three9_ok : rulesE three9 = 0 := by decide +kernel
def bList : List Int := [0, 0, 0, 0, 0, 0, 0, 0, 0]
def bD : PlaceD := ⟨bList, [5], [5], 0, 0⟩
theorem begin_b : beginD three9 = bD := rfl
theorem bD_ok : POkay three9 bD := placeE_iff.1 (by decide +kernel)
theorem bD_text : str (placeT three9 bD) = ⟨#[51, 47, 51, 47, 51, 32, 65, 53, 32, 65, 53, 32, 49, 32, 48]⟩ := by
  rw [show placeT three9 bD = [51, 47, 51, 47, 51, 32, 65, 53, 32, 65, 53, 32, 49, 32, 48] by decide +kernel]; rfl
theorem begP_of {r : RulesD} {q : PlaceD} {w : World} {e : Ending} {w' : World} (h : BeginOk r w e w') (hq : beginD r = q) : OthP q w e w' := by
  subst hq
  obtain ⟨vc, v0, v1, rfl, hi, hb⟩ := h
  obtain ⟨ca, cn, cc, rfl⟩ := hi.c.form
  obtain ⟨a0, n0, c0, rfl⟩ := hi.a.form
  obtain ⟨a1, n1, c1, rfl⟩ := hi.b.form
  exact ⟨ca, cn, cc, a0, n0, c0, a1, n1, c1, rfl, hi, hb⟩
theorem read_b : readE three9 (placeT three9 bD) = 0 := readE_text bD_ok
set_option maxHeartbeats 16000000 in
theorem begins_any (w : World) (hE : Env w.heap.size w) : Calls Tryz.prog 4 #[] w (BelPost (.bool true) w) := by
  have HEV : Hid (∀ W, Below w.heap.size w W → Env W.heap.size W) := Lib.hid (fun W h => hE.up h h.size)
  have HTB : Hid (∀ W, Below w.heap.size w W → Tb W.heap.size W) := Lib.hid (fun W h => (hE.up h h.size).1)
  have H3B : Hid (∀ vp vs ve W, RulesIn W three9 vp vs ve → Calls Tryz.prog 8 #[RulesV three9 vp vs ve] W (OthP bD W)) := Lib.hid (fun vp vs ve W h => (begin_ok three9 vp vs ve W h three9_ok).mono fun _ _ h => begP_of h begin_b)
  have H3T : Hid (∀ vp vs ve vc v0 v1 W, RulesIn W three9 vp vs ve → PlaceIn W bD vc v0 v1 → Tb W.heap.size W → Calls Tryz.prog 5 #[RulesV three9 vp vs ve, .agg #[vc, v0, v1, .int .i64 0, .int .i64 0]] W (TextP ⟨#[51, 47, 51, 47, 51, 32, 65, 53, 32, 65, 53, 32, 49, 32, 48]⟩ 0 W)) := Lib.hid (fun vp vs ve vc v0 v1 W h1 h2 h3 => by
    have := text_ok three9 bD vp vs ve vc v0 v1 W h1 h2 bD_ok h3
    rwa [bD_text] at this)
  have H3R : Hid (∀ vp vs ve W, RulesIn W three9 vp vs ve → Env W.heap.size W → Calls Tryz.prog 6 #[RulesV three9 vp vs ve, .string ⟨#[51, 47, 51, 47, 51, 32, 65, 53, 32, 65, 53, 32, 49, 32, 48]⟩] W (OthP bD W)) := Lib.hid (fun vp vs ve W h1 h2 => by
    have h3 := read_ok three9 vp vs ve (placeT three9 bD) W h1 h2 read_b
    rwa [bD_text, guess_text bD_ok] at h3)
  have HSM : Hid (∀ vc v0 v1 uc u0 u1 W, PlaceIn W bD vc v0 v1 → PlaceIn W bD uc u0 u1 → Calls Tryz.prog 7 #[.agg #[vc, v0, v1, .int .i64 0, .int .i64 0], .agg #[uc, u0, u1, .int .i64 0, .int .i64 0]] W (BelPost (.bool true) W)) := Lib.hid (fun vc v0 v1 uc u0 u1 W h1 h2 => same_eq bD vc v0 v1 uc u0 u1 W h1 h2 ⟨by decide, by decide, by decide⟩)
  have HB : Hid (Below w.heap.size w w) := Lib.hid (Below.refl _ _)
  clear hE
  go_enter Tryz.func4, Tryz.ntmps4
  go_wp2_with fail
  go_at_call 9; refine (three_keep _).mono ?_; rintro e w1 ⟨vp1, vs1, ve1, rfl, hin, hb⟩
  have HB1 := Lib.hid (HB.out.trans (hb.mono HB.out.size))
  have HI1 := Lib.hid hin
  clear hb hin HB
  go_wp2_with fail
  go_at_call 8; refine (H3B.out _ _ _ _ HI1.out).mono ?_; rintro e w2 ⟨ca, cn, cc, a0, n0, c0, a1, n1, c1, rfl, hpn, hb⟩
  have HB2 := Lib.hid (HB1.out.trans (hb.mono HB1.out.size))
  have HN2 := Lib.hid hpn
  clear hb hpn HB1 HI1
  unfold bD
  go_wp2_with fail
  have hal := (Below.refl w2.heap.size w2).alloc (Nat.le_refl _) (.cells #[.slice ca cn cc, .slice a0 n0 c0, .slice a1 n1 c1, .int .i64 0, .int .i64 0] 29)
  have HB3 := Lib.hid (HB2.out.trans (hal.mono HB2.out.size))
  have HN3 := Lib.hid (HN2.out.below hal (Nat.le_refl _))
  have HQ3 := Lib.hid (boxP_new w2 bD (.slice ca cn cc) (.slice a0 n0 c0) (.slice a1 n1 c1) 29)
  unfold PlaceCells bD at HQ3
  clear hal HB2 HN2
  generalize w2.alloc (.cells #[.slice ca cn cc, .slice a0 n0 c0, .slice a1 n1 c1, .int .i64 0, .int .i64 0] 29) = w3 at HB3 HN3 HQ3 ⊢
  generalize w2.heap.size = qb at HQ3 ⊢
  obtain ⟨q0, q1, q2, q3, q4⟩ := HQ3.out
  have hBc : Below w3.heap.size w3 w3.drew := (Below.refl _ _).drew
  go_region_held3 (fun w' => w'.cell? ⟨qb, 0, none⟩ = some (.slice ca cn cc) ∧ w'.cell? ⟨qb, 1, none⟩ = some (.slice a0 n0 c0) ∧ w'.cell? ⟨qb, 2, none⟩ = some (.slice a1 n1 c1) ∧ w'.cell? ⟨qb, 3, none⟩ = some (.int .i64 0) ∧ w'.cell? ⟨qb, 4, none⟩ = some (.int .i64 0)) (first | exact HQ3.out.below hBc (Nat.le_refl _) | go_keep) (first
    | (go_at_call 9; refine (three_keep _).mono ?_; rintro e w4 ⟨vp4, vs4, ve4, rfl, hin, hb⟩; have hBc := hBc.trans (hb.mono hBc.size); clear hb)
    | (go_at_call 5; refine (H3T.out _ _ _ _ _ _ _ hin (HN3.out.below hBc (Nat.le_refl _)) (HTB.out _ (HB3.out.trans (hBc.mono HB3.out.size)))).mono ?_; rintro e w5 ⟨rfl, hb⟩; have hBc := hBc.trans (hb.mono hBc.size); clear hb))
  have HB5 := Lib.hid (HB3.out.trans (hBc.mono HB3.out.size))
  have HN5 := Lib.hid (HN3.out.below hBc (Nat.le_refl _))
  have HQ5 := Lib.hid (HQ3.out.below hBc (Nat.le_refl _))
  clear hBc hin HB3 HN3 HQ3 q0 q1 q2 q3 q4
  go_wp2_with fail
  go_at_call 9; refine (three_keep _).mono ?_; rintro e w6 ⟨vp6, vs6, ve6, rfl, hin, hb⟩
  have HB6 := Lib.hid (HB5.out.trans (hb.mono HB5.out.size))
  have HN6 := Lib.hid (HN5.out.below hb (Nat.le_refl _))
  have HQ6 := Lib.hid (HQ5.out.below hb (Nat.le_refl _))
  have HI6 := Lib.hid hin
  clear hb hin HB5 HN5 HQ5
  go_wp2_with fail
  go_at_call 6; refine (H3R.out _ _ _ _ HI6.out (HEV.out _ HB6.out)).mono ?_; rintro e w7 ⟨da, dn, dc, e0, m0, f0, e1, m1, f1, rfl, hin, hb⟩
  have HB7 := Lib.hid (HB6.out.trans (hb.mono HB6.out.size))
  have HN7 := Lib.hid (HN6.out.below hb (Nat.le_refl _))
  have HQ7 := Lib.hid (HQ6.out.below hb (Nat.le_refl _))
  have HM7 := Lib.hid hin
  clear hb hin HB6 HN6 HQ6 HI6
  unfold bD
  go_wp2_with fail
  have hal := (Below.refl w7.heap.size w7).alloc (Nat.le_refl _) (.cells #[.slice da dn dc, .slice e0 m0 f0, .slice e1 m1 f1, .int .i64 0, .int .i64 0] 29)
  have HB8 := Lib.hid (HB7.out.trans (hal.mono HB7.out.size))
  have HN8 := Lib.hid (HN7.out.below hal (Nat.le_refl _))
  have HM8 := Lib.hid (HM7.out.below hal (Nat.le_refl _))
  have HQ8 := Lib.hid (HQ7.out.below hal (Nat.le_refl _))
  have HV8 := Lib.hid (boxP_new w7 bD (.slice da dn dc) (.slice e0 m0 f0) (.slice e1 m1 f1) 29)
  unfold PlaceCells bD at HV8
  have HSZ : Hid (w7.heap.size + 1 = (w7.alloc (.cells #[.slice da dn dc, .slice e0 m0 f0, .slice e1 m1 f1, .int .i64 0, .int .i64 0] 29)).heap.size) := Lib.hid (by simp)
  clear hal HB7 HN7 HQ7 HM7
  go_at_call 10
  generalize w7.alloc (.cells #[.slice da dn dc, .slice e0 m0 f0, .slice e1 m1 f1, .int .i64 0, .int .i64 0] 29) = w8 at HB8 HN8 HM8 HQ8 HV8 HSZ ⊢
  refine (fine3 w8 _ HSZ.out).mono ?_; rintro e w9 ⟨rfl, hb⟩
  have HB9 := Lib.hid (HB8.out.trans (hb.mono HB8.out.size))
  have HN9 := Lib.hid (HN8.out.below hb (Nat.le_refl _))
  have HM9 := Lib.hid (HM8.out.below hb (Nat.le_refl _))
  obtain ⟨q0, q1, q2, q3, q4⟩ := HQ8.out.below hb (Nat.le_refl _)
  have hv9 := HV8.out.below hb (Nat.le_refl _)
  have HQ9 := Lib.hid (HQ8.out.below hb (Nat.le_refl _))
  clear hb HB8 HN8 HM8 HQ8 HV8 HSZ
  generalize w7.heap.size = vb at hv9 ⊢
  obtain ⟨u0, u1, u2, u3, u4⟩ := hv9
  go_wp2_with fail
  go_at_call 7; refine (HSM.out _ _ _ _ _ _ _ HN9.out HM9.out).mono ?_; rintro e wA ⟨rfl, hb⟩
  have HBA := Lib.hid (HB9.out.trans (hb.mono HB9.out.size))
  obtain ⟨hn9, -⟩ : cn = 9 ∧ True := by
    obtain ⟨a', c', e', _, _⟩ := HN9.out.c.shape (n := 9) rfl
    simp only [Value.slice.injEq] at e'
    exact ⟨e'.2.1, trivial⟩
  subst hn9
  obtain ⟨q0, q1, q2, q3, q4⟩ := HQ9.out.below hb (Nat.le_refl _)
  clear hb HB9 HN9 HM9 HQ9 u0 u1 u2 u3 u4
  go_wp2_with fail
  go_ret
  exact ⟨rfl, HBA.out⟩
theorem read_any (r : RulesD) (vp vs ve : Value) (S : ByteArray) : (∃ q, POkay r q ∧ str (placeT r q) = S ∧ ∀ W, RulesIn W r vp vs ve → Env W.heap.size W → Calls Tryz.prog 6 #[RulesV r vp vs ve, .string S] W (OthP q W)) ∨ (∃ c : Int, c ≠ 0 ∧ ∀ W, RulesIn W r vp vs ve → Env W.heap.size W → Calls Tryz.prog 6 #[RulesV r vp vs ve, .string S] W (PBad c W)) := by
  have hS : S = str S.data.toList := (str_data S).symm
  by_cases hz : rulesE r = 0
  · by_cases hl : 8192 < S.data.toList.length
    · exact .inr ⟨2, by decide, fun W h1 _ => by have := read_large r vp vs ve S.data.toList W h1 hz hl; rwa [← hS] at this⟩
    · by_cases hr : readE r S.data.toList = 0
      · obtain ⟨h1, h2⟩ := readE_ok hr
        exact .inl ⟨_, h1, by rw [h2]; exact hS.symm, fun W h3 h4 => by have := read_ok r vp vs ve S.data.toList W h3 h4 hr; rwa [← hS] at this⟩
      · exact .inr ⟨5, by decide, fun W h1 h2 => by have := read_bad r vp vs ve S.data.toList W h1 h2 hz (by omega) hr; rwa [← hS] at this⟩
  · exact .inr ⟨rulesE r, hz, fun W h1 _ => by have := read_rules r vp vs ve S.data.toList W h1 hz; rwa [← hS] at this⟩
def BackP (w : World) (e : Ending) (w' : World) : Prop := e = .returned (.bool true) ∧ Below w.heap.size w w'
set_option maxHeartbeats 16000000 in
theorem placeBack_full (r : RulesD) (p : PlaceD) (vp vs ve vc v0 v1 : Value) (S : ByteArray) (w : World) (hr : RulesIn w r vp vs ve) (hp : PlaceIn w p vc v0 v1) (hE : Env w.heap.size w) :
    Calls Tryz.prog 3 #[RulesV r vp vs ve, PlaceV p vc v0 v1, .string S] w (BackP w) := by
  have HEV : Hid (∀ W, Below w.heap.size w W → Env W.heap.size W) := Lib.hid (fun W h => hE.up h h.size)
  have HIR : Hid (∀ W, Below w.heap.size w W → RulesIn W r vp vs ve) := Lib.hid (fun W h => hr.below h (Nat.le_refl _))
  have HIP : Hid (∀ W, Below w.heap.size w W → PlaceIn W p vc v0 v1) := Lib.hid (fun W h => hp.below h (Nat.le_refl _))
  have HBG : Hid (∀ W, Below w.heap.size w W → Calls Tryz.prog 4 #[] W (BelPost (.bool true) W)) := Lib.hid (fun W h => begins_any W (HEV.out W h))
  obtain ⟨c, hc⟩ : ∃ c, c = placeE r p := ⟨_, rfl⟩
  obtain ⟨T, hT⟩ : ∃ T, T = str (placeT r p) := ⟨_, rfl⟩
  have HT0 : Hid (c ≠ 0 → ∀ W, Below w.heap.size w W → Calls Tryz.prog 5 #[RulesV r vp vs ve, PlaceV p vc v0 v1] W (TextP ⟨#[]⟩ c W)) := Lib.hid (fun hz W h => by rw [hc] at hz ⊢; exact text_bad r p vp vs ve vc v0 v1 W (HIR.out W h) (HIP.out W h) hz)
  have HT1 : Hid (c = 0 → ∀ W, Below w.heap.size w W → Calls Tryz.prog 5 #[RulesV r vp vs ve, PlaceV p vc v0 v1] W (TextP T 0 W)) := Lib.hid (fun hz W h => by rw [hT]; exact text_ok r p vp vs ve vc v0 v1 W (HIR.out W h) (HIP.out W h) (placeE_iff.1 (by rw [← hc]; exact hz)) (HEV.out W h).1)
  have HR1 : Hid (c = 0 → ∀ W, Below w.heap.size w W → Calls Tryz.prog 6 #[RulesV r vp vs ve, .string T] W (OthP p W)) := Lib.hid (fun hz W h => by
    have hok : POkay r p := placeE_iff.1 (by rw [← hc]; exact hz)
    have h1 := read_ok r vp vs ve (placeT r p) W (HIR.out W h) (HEV.out W h) (readE_text hok)
    rwa [guess_text hok, ← hT] at h1)
  have HSM : Hid (c = 0 → ∀ uc u0 u1 W, Below w.heap.size w W → PlaceIn W p uc u0 u1 → Calls Tryz.prog 7 #[PlaceV p vc v0 v1, PlaceV p uc u0 u1] W (BelPost (.bool true) W)) := Lib.hid (fun hz uc u0 u1 W h h2 => same_eq p vc v0 v1 uc u0 u1 W (HIP.out W h) h2 (placeE_iff.1 (by rw [← hc]; exact hz)).short)
  have HRA : Hid ((∃ q, (∀ uc u0 u1 W, Below w.heap.size w W → PlaceIn W q uc u0 u1 → Calls Tryz.prog 5 #[RulesV r vp vs ve, PlaceV q uc u0 u1] W (TextP S 0 W)) ∧ ∀ W, Below w.heap.size w W → Calls Tryz.prog 6 #[RulesV r vp vs ve, .string S] W (OthP q W)) ∨ (∃ c : Int, c ≠ 0 ∧ ∀ W, Below w.heap.size w W → Calls Tryz.prog 6 #[RulesV r vp vs ve, .string S] W (PBad c W))) := Lib.hid (by
    rcases read_any r vp vs ve S with ⟨q, h1, h2, h3⟩ | ⟨d, h1, h2⟩
    · exact .inl ⟨q, fun uc u0 u1 W h h4 => by have h5 := text_ok r q vp vs ve uc u0 u1 W (HIR.out W h) h4 h1 (HEV.out W h).1; rwa [h2] at h5, fun W h => h3 W (HIR.out W h) (HEV.out W h)⟩
    · exact .inr ⟨d, h1, fun W h => h2 W (HIR.out W h) (HEV.out W h)⟩)
  have hB : Below w.heap.size w ((w.alloc (.cells (RulesCells r vp vs ve) 26)).alloc (.cells (PlaceCells p vc v0 v1) 29)) := ((Below.refl _ _).alloc (Nat.le_refl _) _).alloc (by simp) _
  have HB1 : Hid _ := Lib.hid hB
  have hX : BoxP ((w.alloc (.cells (RulesCells r vp vs ve) 26)).alloc (.cells (PlaceCells p vc v0 v1) 29)) (w.heap.size + 1) p vc v0 v1 := by
    have h := boxP_new (w.alloc (.cells (RulesCells r vp vs ve) 26)) p vc v0 v1 29
    rwa [World.size_alloc] at h
  have HX1 : Hid _ := Lib.hid hX
  have hY : BoxR ((w.alloc (.cells (RulesCells r vp vs ve) 26)).alloc (.cells (PlaceCells p vc v0 v1) 29)) w.heap.size r vp vs ve :=
    (boxR_new w r vp vs ve 26).below ((Below.refl _ _).alloc (Nat.le_refl _) _) (Nat.le_refl _)
  have HY1 : Hid _ := Lib.hid hY
  unfold RulesCells PlaceCells at HB1 HX1 HY1
  unfold RulesV at HT0 HT1 HR1 HRA ⊢
  unfold PlaceV PlaceCells at HT0 HT1 HSM HRA ⊢
  clear hr hp hc hB hX hY hE hT
  go_enter Tryz.func3, Tryz.ntmps3
  go_wp2_with fail
  go_at_call 4; refine (HBG.out _ HB1.out).mono ?_; rintro e w2 ⟨rfl, hb⟩
  have HB2 := Lib.hid (HB1.out.trans (hb.mono HB1.out.size))
  have HX2 := Lib.hid (HX1.out.below hb (Nat.le_refl _))
  have HY2 := Lib.hid (HY1.out.below hb (Nat.le_refl _))
  clear hb HB1 HX1 HY1
  obtain ⟨y0, y1, y2, y3, y4, y5, y6, y7, y8, y9, y10⟩ := HY2.out
  obtain ⟨x0, x1, x2, x3, x4⟩ := HX2.out
  go_wp2_with fail
  by_cases hz : c = 0
  · have HT := Lib.hid (HT1.out hz)
    have HR := Lib.hid (HR1.out hz)
    have HS := Lib.hid (HSM.out hz)
    subst hz
    clear HT0 HT1 HR1 HSM
    go_at_call 5; refine (HT.out _ HB2.out).mono ?_; rintro e w3 ⟨rfl, hb⟩
    have HB3 := Lib.hid (HB2.out.trans (hb.mono HB2.out.size))
    have HX3 := Lib.hid (HX2.out.below hb (Nat.le_refl _))
    have HY3 := Lib.hid (HY2.out.below hb (Nat.le_refl _))
    clear hb HB2 HX2 HY2 y0 y1 y2 y3 y4 y5 y6 y7 y8 y9 y10 x0 x1 x2 x3 x4
    obtain ⟨y0, y1, y2, y3, y4, y5, y6, y7, y8, y9, y10⟩ := HY3.out
    obtain ⟨x0, x1, x2, x3, x4⟩ := HX3.out
    go_wp2_with fail
    go_at_call 6; refine (HR.out _ HB3.out).mono ?_; rintro e w4 ⟨ca, cn, cc, a0, n0, c0, a1, n1, c1, rfl, hin, hb⟩
    have hal := (Below.refl w4.heap.size w4).alloc (Nat.le_refl _) (.cells #[.slice ca cn cc, .slice a0 n0 c0, .slice a1 n1 c1, .int .i64 p.turn, .int .i64 p.quiet] 29)
    have hb' := hb.trans (hal.mono hb.size)
    have HB5 := Lib.hid (HB3.out.trans (hb'.mono HB3.out.size))
    have HX5 := Lib.hid (HX3.out.below hb' (Nat.le_refl _))
    have HY5 := Lib.hid (HY3.out.below hb' (Nat.le_refl _))
    have HN5 := Lib.hid (hin.below hal (Nat.le_refl _))
    have HQ5 := Lib.hid (boxP_new w4 p (.slice ca cn cc) (.slice a0 n0 c0) (.slice a1 n1 c1) 29)
    unfold PlaceCells at HQ5
    clear hb hb' hal hin HB3 HX3 HY3 y0 y1 y2 y3 y4 y5 y6 y7 y8 y9 y10 x0 x1 x2 x3 x4
    obtain ⟨y0, y1, y2, y3, y4, y5, y6, y7, y8, y9, y10⟩ := HY5.out
    obtain ⟨x0, x1, x2, x3, x4⟩ := HX5.out
    obtain ⟨q0, q1, q2, q3, q4⟩ := HQ5.out
    go_wp2_with fail
    go_at_call 7; refine (HS.out _ _ _ _ HB5.out HN5.out).mono ?_; rintro e w6 ⟨rfl, hb⟩
    have HB6 := Lib.hid (HB5.out.trans (hb.mono HB5.out.size))
    have HX6 := Lib.hid (HX5.out.below hb (Nat.le_refl _))
    have HY6 := Lib.hid (HY5.out.below hb (Nat.le_refl _))
    clear hb HB5 HX5 HY5 HN5 HQ5 y0 y1 y2 y3 y4 y5 y6 y7 y8 y9 y10 x0 x1 x2 x3 x4 q0 q1 q2 q3 q4
    obtain ⟨y0, y1, y2, y3, y4, y5, y6, y7, y8, y9, y10⟩ := HY6.out
    obtain ⟨x0, x1, x2, x3, x4⟩ := HX6.out
    go_wp2_with fail
    rcases HRA.out with ⟨q, hqt, hqr⟩ | ⟨d, hd0, hdr⟩
    · have HTX := Lib.hid hqt
      have HRD := Lib.hid hqr
      clear hqt hqr
      go_at_call 6; refine (HRD.out _ HB6.out).mono ?_; rintro e w10 ⟨ga, gn, gk, s0, t0, k0, s1, t1, k1, rfl, hin, hb⟩
      have hal := (Below.refl w10.heap.size w10).alloc (Nat.le_refl _) (.cells #[.slice ga gn gk, .slice s0 t0 k0, .slice s1 t1 k1, .int .i64 q.turn, .int .i64 q.quiet] 29)
      have hb' := hb.trans (hal.mono hb.size)
      have HB11 := Lib.hid (HB6.out.trans (hb'.mono HB6.out.size))
      have HY11 := Lib.hid (HY6.out.below hb' (Nat.le_refl _))
      have HN11 := Lib.hid (hin.below hal (Nat.le_refl _))
      have HQ11 := Lib.hid (boxP_new w10 q (.slice ga gn gk) (.slice s0 t0 k0) (.slice s1 t1 k1) 29)
      unfold PlaceCells at HQ11
      clear hb hb' hal hin HB6 HX6 HY6 y0 y1 y2 y3 y4 y5 y6 y7 y8 y9 y10 x0 x1 x2 x3 x4
      obtain ⟨y0, y1, y2, y3, y4, y5, y6, y7, y8, y9, y10⟩ := HY11.out
      obtain ⟨q0, q1, q2, q3, q4⟩ := HQ11.out
      go_wp2_with fail
      go_at_call 5; refine (HTX.out _ _ _ _ HB11.out HN11.out).mono ?_; rintro e w12 ⟨rfl, hb⟩
      have HB12 := Lib.hid (HB11.out.trans (hb.mono HB11.out.size))
      clear hb HB11 HY11 HN11 HQ11 y0 y1 y2 y3 y4 y5 y6 y7 y8 y9 y10 q0 q1 q2 q3 q4
      go_wp2_with fail
      go_ret
      exact ⟨rfl, HB12.out⟩
    · have HRD := Lib.hid hdr
      have hne : (d != 0) = true := by simpa using hd0
      clear hdr hd0
      go_at_call 6; refine (HRD.out _ HB6.out).mono ?_; rintro e w10 ⟨rfl, hb⟩
      have HB11 := Lib.hid ((HB6.out.trans (hb.mono HB6.out.size)).alloc (Below.size (HB6.out.trans (hb.mono HB6.out.size))) (.cells #[.slice none 0 0, .slice none 0 0, .slice none 0 0, .int .i64 0, .int .i64 0] 29))
      clear hb HB6 HX6 HY6 y0 y1 y2 y3 y4 y5 y6 y7 y8 y9 y10 x0 x1 x2 x3 x4
      go_wp2_with fail
      go_ret
      exact ⟨rfl, HB11.out⟩
  · have HT := Lib.hid (HT0.out hz)
    have hce : (c == 0) = false := by simpa using hz
    have hcn : (c != 0) = true := by simpa using hz
    clear HT0 HT1 HR1 HSM hz
    go_at_call 5; refine (HT.out _ HB2.out).mono ?_; rintro e w3 ⟨rfl, hb⟩
    have HB3 := Lib.hid (HB2.out.trans (hb.mono HB2.out.size))
    have HX3 := Lib.hid (HX2.out.below hb (Nat.le_refl _))
    have HY3 := Lib.hid (HY2.out.below hb (Nat.le_refl _))
    clear hb HB2 HX2 HY2 y0 y1 y2 y3 y4 y5 y6 y7 y8 y9 y10 x0 x1 x2 x3 x4
    obtain ⟨y0, y1, y2, y3, y4, y5, y6, y7, y8, y9, y10⟩ := HY3.out
    obtain ⟨x0, x1, x2, x3, x4⟩ := HX3.out
    go_wp2_with fail
    rcases HRA.out with ⟨q, hqt, hqr⟩ | ⟨d, hd0, hdr⟩
    · have HTX := Lib.hid hqt
      have HRD := Lib.hid hqr
      clear hqt hqr
      go_at_call 6; refine (HRD.out _ HB3.out).mono ?_; rintro e w10 ⟨ga, gn, gk, s0, t0, k0, s1, t1, k1, rfl, hin, hb⟩
      have hal := (Below.refl w10.heap.size w10).alloc (Nat.le_refl _) (.cells #[.slice ga gn gk, .slice s0 t0 k0, .slice s1 t1 k1, .int .i64 q.turn, .int .i64 q.quiet] 29)
      have hb' := hb.trans (hal.mono hb.size)
      have HB11 := Lib.hid (HB3.out.trans (hb'.mono HB3.out.size))
      have HY11 := Lib.hid (HY3.out.below hb' (Nat.le_refl _))
      have HN11 := Lib.hid (hin.below hal (Nat.le_refl _))
      have HQ11 := Lib.hid (boxP_new w10 q (.slice ga gn gk) (.slice s0 t0 k0) (.slice s1 t1 k1) 29)
      unfold PlaceCells at HQ11
      clear hb hb' hal hin HB3 HX3 HY3 y0 y1 y2 y3 y4 y5 y6 y7 y8 y9 y10 x0 x1 x2 x3 x4
      obtain ⟨y0, y1, y2, y3, y4, y5, y6, y7, y8, y9, y10⟩ := HY11.out
      obtain ⟨q0, q1, q2, q3, q4⟩ := HQ11.out
      go_wp2_with fail
      go_at_call 5; refine (HTX.out _ _ _ _ HB11.out HN11.out).mono ?_; rintro e w12 ⟨rfl, hb⟩
      have HB12 := Lib.hid (HB11.out.trans (hb.mono HB11.out.size))
      clear hb HB11 HY11 HN11 HQ11 y0 y1 y2 y3 y4 y5 y6 y7 y8 y9 y10 q0 q1 q2 q3 q4
      go_wp2_with fail
      go_ret
      exact ⟨rfl, HB12.out⟩
    · have HRD := Lib.hid hdr
      have hne : (d != 0) = true := by simpa using hd0
      clear hdr hd0
      go_at_call 6; refine (HRD.out _ HB3.out).mono ?_; rintro e w10 ⟨rfl, hb⟩
      have HB11 := Lib.hid ((HB3.out.trans (hb.mono HB3.out.size)).alloc (Below.size (HB3.out.trans (hb.mono HB3.out.size))) (.cells #[.slice none 0 0, .slice none 0 0, .slice none 0 0, .int .i64 0, .int .i64 0] 29))
      clear hb HB3 HX3 HY3 y0 y1 y2 y3 y4 y5 y6 y7 y8 y9 y10 x0 x1 x2 x3 x4
      go_wp2_with fail
      go_ret
      exact ⟨rfl, HB11.out⟩
end Go.Proofs.YtakekeljndofcaaGreatDoor
