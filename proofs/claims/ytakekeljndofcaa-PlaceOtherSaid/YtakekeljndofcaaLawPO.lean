/- The law PlaceOther: a position that is exchanged twice is the position, and it is one of the mirrored rules. -/
import Derived.Test.YtakekeljndofcaaPOther
import Derived.Test.YtakekeljndofcaaSameP
import Derived.Test.YtakekeljndofcaaFine
import Derived.Test.YtakekeljndofcaaOpenP
set_option maxRecDepth 100000
namespace Go.Proofs.Ytakekeljndofcaa
open Go.ChangeShapes Go.WideShapes Go.ChangeAt Go.RowKit

def three9 : RulesD := threeD [0, 0, 0, 0, 0, 0, 0, 0, 0]
theorem three9_ok : rulesE three9 = 0 := by decide +kernel
theorem near_ok : POkay three9 nearD := placeE_iff.1 (by decide +kernel)
def xList : List Int := [0, 0, 0, 1, 1, 0, 2, 2, 0]
def xD : PlaceD := ⟨xList, [3], [3], 1, 0⟩
theorem near_x : otherD three9 nearD = xD := by
  show PlaceD.mk (mirL 3 3 nearD.cells) [3] [3] (1 - 0) 0 = xD
  rw [show mirL 3 3 nearD.cells = xList by decide +kernel]
  rfl
/-- A position that was made, and its error. -/
def OthP (q : PlaceD) (w : World) (e : Ending) (w' : World) : Prop :=
  ∃ ca cn cc a0 n0 c0 a1 n1 c1, e = .returned (.tuple #[.agg #[.slice ca cn cc, .slice a0 n0 c0, .slice a1 n1 c1, .int .i64 q.turn, .int .i64 q.quiet], .int .i64 0]) ∧ PlaceIn w' q (.slice ca cn cc) (.slice a0 n0 c0) (.slice a1 n1 c1) ∧ Below w.heap.size w w'
theorem othP_of {r : RulesD} {p q : PlaceD} {w : World} {e : Ending} {w' : World} (h : OtherOk r p w e w') (hq : otherD r p = q) : OthP q w e w' := by
  subst hq
  obtain ⟨vc, v0, v1, rfl, hi, hb⟩ := h
  obtain ⟨ca, cn, cc, rfl⟩ := hi.c.form
  obtain ⟨a0, n0, c0, rfl⟩ := hi.a.form
  obtain ⟨a1, n1, c1, rfl⟩ := hi.b.form
  exact ⟨ca, cn, cc, a0, n0, c0, a1, n1, c1, rfl, hi, hb⟩
/-- Rules that were made, and their error. -/
def MirP (r : RulesD) (w : World) (e : Ending) (w' : World) : Prop :=
  ∃ pa pn pc sa sc ea en ec, e = .returned (.tuple #[.agg #[.string r.name, .int .i64 r.width, .int .i64 r.height, .slice pa pn pc, .slice sa r.start.length sc, .bool r.falls, .bool r.keeps, .slice ea en ec, .int .i64 r.blocked, .int .i64 r.quiet, .int .i64 r.rep], .int .i64 0]) ∧ RulesIn w' r (.slice pa pn pc) (.slice sa r.start.length sc) (.slice ea en ec) ∧ Below w.heap.size w w'
theorem mirP_of {r q : RulesD} {w : World} {e : Ending} {w' : World} (h : MirOk r w e w') (hq : mirD r = q) : MirP q w e w' := by
  subst hq
  obtain ⟨vp, vs, ve, rfl, hi, hb⟩ := h
  obtain ⟨pa, pn, pc, rfl⟩ := hi.1.1.form
  obtain ⟨sa, sc, rfl, -, -⟩ := hi.1.2.1.shape (n := (mirD r).start.length) rfl
  obtain ⟨ea, en, ec, rfl⟩ := hi.1.2.2.form
  exact ⟨pa, pn, pc, sa, sc, ea, en, ec, rfl, hi, hb⟩
def three9m : RulesD := threeD (mirL 3 3 [0, 0, 0, 0, 0, 0, 0, 0, 0])
theorem three9m_eq : mirD three9 = three9 := by
  show threeD (mirL 3 3 [0, 0, 0, 0, 0, 0, 0, 0, 0]) = _
  rw [show mirL 3 3 [0, 0, 0, 0, 0, 0, 0, 0, 0] = [0, 0, 0, 0, 0, 0, 0, 0, 0] by decide +kernel]
  rfl
theorem ints_new (W : World) (st : List Int) (t : TypeId) (cs : Array Value) (h : cs.toList = st.map (.int .i64)) (hm : st.length ≤ maxLen) : IsSl IntAt 1 (W.alloc (.cells cs t)) (.slice (some ⟨W.heap.size, 0, none⟩) st.length st.length) st := by
  have hs : cs.size = st.length * 1 := by rw [← Array.length_toList, h, List.length_map, Nat.mul_one]
  have h1 := World.ownsRow_lit (base := 0) (e := t) (size := 1) W cs st.length (Nat.zero_le _) hm hs
  rw [h] at h1
  exact ints_of_own h1 rfl
set_option maxHeartbeats 8000000 in
theorem placeOther_full (r : RulesD) (vp vs ve : Value) (p : PlaceD) (vc v0 v1 : Value) (w : World) (hr : RulesIn w r vp vs ve) (hp : PlaceIn w p vc v0 v1) :
    Calls Try.prog 3 #[RulesV r vp vs ve, PlaceV p vc v0 v1] w fun e w' => e = .returned (.bool true) ∧ Below w.heap.size w w' := by
  have H3O : Hid (∀ vp vs ve vc v0 v1 W, RulesIn W three9 vp vs ve → PlaceIn W nearD vc v0 v1 → Calls Try.prog 4 #[RulesV three9 vp vs ve, PlaceV nearD vc v0 v1] W (OthP xD W)) := Lib.hid (fun vp vs ve vc v0 v1 W h1 h2 => (other_ok three9 nearD vp vs ve vc v0 v1 W h1 h2 near_ok).mono fun _ _ h => othP_of h near_x)
  have H3M : Hid (∀ vp vs ve W, RulesIn W three9 vp vs ve → Calls Try.prog 9 #[RulesV three9 vp vs ve] W (MirP three9 W)) := Lib.hid (fun vp vs ve W h1 => (mirror_ok three9 vp vs ve W h1 three9_ok).mono fun _ _ h => mirP_of h three9m_eq)
  have HIR : Hid (∀ W, Below w.heap.size w W → RulesIn W r vp vs ve) := Lib.hid (fun W h => hr.below h (Nat.le_refl _))
  have HIP : Hid (∀ W, Below w.heap.size w W → PlaceIn W p vc v0 v1) := Lib.hid (fun W h => hp.below h (Nat.le_refl _))
  obtain ⟨c, hc⟩ : ∃ c, c = placeE r p := ⟨_, rfl⟩
  obtain ⟨d, hd⟩ : ∃ d, d = rulesE r := ⟨_, rfl⟩
  have HC := Lib.hid hc
  have HD := Lib.hid hd
  have HOB : Hid (c ≠ 0 → ∀ W, Below w.heap.size w W → Calls Try.prog 4 #[RulesV r vp vs ve, PlaceV p vc v0 v1] W (PBad c W)) := Lib.hid (fun hz W h => by rw [hc]; exact other_bad r p vp vs ve vc v0 v1 W (HIR.out W h) (HIP.out W h) (by rw [← hc]; exact hz))
  obtain ⟨q, hq⟩ : ∃ q, q = otherD r p := ⟨_, rfl⟩
  obtain ⟨m, hm⟩ : ∃ m, m = mirD r := ⟨_, rfl⟩
  have HOO : Hid (c = 0 → ∀ vp vs ve vc v0 v1 W, RulesIn W m vp vs ve → PlaceIn W q vc v0 v1 → Calls Try.prog 4 #[RulesV m vp vs ve, PlaceV q vc v0 v1] W (OthP p W)) := Lib.hid (fun hz vp vs ve vc v0 v1 W h1 h2 => by
    have hok : POkay r p := placeE_iff.1 (by rw [← hc]; exact hz)
    rw [hm, hq] at *
    exact (other_ok (mirD r) (otherD r p) vp vs ve vc v0 v1 W h1 h2 (otherD_ok hok)).mono fun _ _ h => othP_of h (otherD_otherD hok))
  have HCC : Hid (c = 0 → ∀ vp vs ve vc v0 v1 W, RulesIn W m vp vs ve → PlaceIn W q vc v0 v1 → Calls Try.prog 11 #[RulesV m vp vs ve, PlaceV q vc v0 v1] W (BelPost (.int .i64 0) W)) := Lib.hid (fun hz vp vs ve vc v0 v1 W h1 h2 => by
    have hok : POkay r p := placeE_iff.1 (by rw [← hc]; exact hz)
    have h3 := pcheck_any m q vp vs ve vc v0 v1 W h1 h2
    have h4 : placeE m q = 0 := by rw [hm, hq]; exact placeE_iff.2 (otherD_ok hok)
    rwa [h4] at h3)
  have HSH : Hid (c = 0 → Short p ∧ d = 0) := Lib.hid (fun hz => by
    have hok : POkay r p := placeE_iff.1 (by rw [← hc]; exact hz)
    exact ⟨hok.short, by rw [hd]; exact hok.e⟩)
  have HOG : Hid (c = 0 → ∀ W, Below w.heap.size w W → Calls Try.prog 4 #[RulesV r vp vs ve, PlaceV p vc v0 v1] W (OthP q W)) := Lib.hid (fun hz W h => (other_ok r p vp vs ve vc v0 v1 W (HIR.out W h) (HIP.out W h) (placeE_iff.1 (by rw [← hc]; exact hz))).mono fun _ _ h => othP_of h hq.symm)
  have HMG : Hid (d = 0 → ∀ W, Below w.heap.size w W → Calls Try.prog 9 #[RulesV r vp vs ve] W (MirP m W)) := Lib.hid (fun hz W h => (mirror_ok r vp vs ve W (HIR.out W h) (by rw [← hd]; exact hz)).mono fun _ _ h => mirP_of h hm.symm)
  have HMB : Hid (d ≠ 0 → ∀ W, Below w.heap.size w W → Calls Try.prog 9 #[RulesV r vp vs ve] W fun e w' => e = .returned (.tuple #[.agg #[.string ⟨#[]⟩, .int .i64 0, .int .i64 0, .slice none 0 0, .slice none 0 0, .bool false, .bool false, .slice none 0 0, .int .i64 0, .int .i64 0, .int .i64 0], .int .i64 d]) ∧ Below W.heap.size W w') := Lib.hid (fun hz W h => by
    have h1 := mirror_bad r vp vs ve W (HIR.out W h) (by rw [← hd]; exact hz)
    unfold MirBad at h1
    rw [← hd] at h1
    exact h1)
  have hB : Below w.heap.size w ((w.alloc (.cells (RulesCells r vp vs ve) 26)).alloc (.cells (PlaceCells p vc v0 v1) 29)) := ((Below.refl _ _).alloc (Nat.le_refl _) _).alloc (by simp) _
  have HB : Hid _ := Lib.hid hB
  have hX : BoxP ((w.alloc (.cells (RulesCells r vp vs ve) 26)).alloc (.cells (PlaceCells p vc v0 v1) 29)) (w.heap.size + 1) p vc v0 v1 := by
    have h := boxP_new (w.alloc (.cells (RulesCells r vp vs ve) 26)) p vc v0 v1 29
    rwa [World.size_alloc] at h
  have HX : Hid _ := Lib.hid hX
  have hY : BoxR ((w.alloc (.cells (RulesCells r vp vs ve) 26)).alloc (.cells (PlaceCells p vc v0 v1) 29)) w.heap.size r vp vs ve :=
    (boxR_new w r vp vs ve 26).below ((Below.refl _ _).alloc (Nat.le_refl _) _) (Nat.le_refl _)
  have HY : Hid _ := Lib.hid hY
  unfold RulesCells PlaceCells at HB HX HY
  unfold RulesV at HOB HOG HMG HMB HOO HCC ⊢
  unfold PlaceV PlaceCells at HOB HOG HOO HCC ⊢
  clear hr hp hc hd hB hX hY hq hm HC HD
  go_enter Try.func3, Try.ntmps3
  go_wp2_with fail
  go_at_call 5; refine (three_keep _).mono ?_; rintro e w1 ⟨vp1, vs1, ve1, rfl, hin, hb⟩
  have HB1 := Lib.hid (HB.out.trans (hb.mono HB.out.size))
  have HX1 := Lib.hid (HX.out.below hb (Nat.le_refl _))
  have HY1 := Lib.hid (HY.out.below hb (Nat.le_refl _))
  have HI1 := Lib.hid hin
  clear hb hin HB HX HY
  go_wp2_with fail
  go_at_call 6; refine (near_any _).mono ?_; rintro e w2 ⟨uc, u0, u1, rfl, hpn, hb⟩
  have HB2 := Lib.hid (HB1.out.trans (hb.mono HB1.out.size))
  have HX2 := Lib.hid (HX1.out.below hb (Nat.le_refl _))
  have HY2 := Lib.hid (HY1.out.below hb (Nat.le_refl _))
  have HI2 := Lib.hid (HI1.out.below hb (Nat.le_refl _))
  have HN2 := Lib.hid hpn
  clear hb hpn HB1 HX1 HY1 HI1
  go_wp2_with fail
  go_at_call 4; refine (H3O.out _ _ _ _ _ _ _ HI2.out HN2.out).mono ?_; rintro e w3 ⟨ca, cn, cc, a0, n0, c0, a1, n1, c1, rfl, hin, hb⟩
  have HB3 := Lib.hid (HB2.out.trans (hb.mono HB2.out.size))
  have HX3 := Lib.hid (HX2.out.below hb (Nat.le_refl _))
  have HY3 := Lib.hid (HY2.out.below hb (Nat.le_refl _))
  have HN3 := Lib.hid hin
  clear hb hin HB2 HX2 HY2 HI2 HN2
  unfold xD
  go_wp2_with fail
  go_at_call 7
  have hba := ((Below.refl w3.heap.size w3).alloc (Nat.le_refl _) (.cells #[.slice ca cn cc, .slice a0 n0 c0, .slice a1 n1 c1, .int .i64 1, .int .i64 0] 29)).alloc (by simp) (.cells #[.int .i64 0, .int .i64 0, .int .i64 0, .int .i64 1, .int .i64 1, .int .i64 0, .int .i64 2, .int .i64 2, .int .i64 0] 3)
  have hs2 := ints_new (w3.alloc (.cells #[.slice ca cn cc, .slice a0 n0 c0, .slice a1 n1 c1, .int .i64 1, .int .i64 0] 29)) xList 3 #[.int .i64 0, .int .i64 0, .int .i64 0, .int .i64 1, .int .i64 1, .int .i64 0, .int .i64 2, .int .i64 2, .int .i64 0] rfl (by decide)
  rw [World.size_alloc] at hs2
  have hbx := BoxP.below (boxP_new w3 xD (.slice ca cn cc) (.slice a0 n0 c0) (.slice a1 n1 c1) 29) ((Below.refl _ _).alloc (Nat.le_refl _) (.cells #[.int .i64 0, .int .i64 0, .int .i64 0, .int .i64 1, .int .i64 1, .int .i64 0, .int .i64 2, .int .i64 2, .int .i64 0] 3)) (Nat.le_refl _)
  unfold PlaceCells xD at hbx
  have hn4 := HN3.out.below hba (Nat.le_refl _)
  have HB4 := Lib.hid (HB3.out.trans (hba.mono HB3.out.size))
  have HX4 := Lib.hid (HX3.out.below hba (Nat.le_refl _))
  have HY4 := Lib.hid (HY3.out.below hba (Nat.le_refl _))
  have heq := eq_ints (xs := xList) hn4.c hs2 (by decide)
  have HEQ := Lib.hid heq
  have HN4 := Lib.hid hn4
  have HBX4 := Lib.hid hbx
  clear hba hs2 hbx hn4 heq HB3 HX3 HY3 HN3
  change Calls _ _ #[_, .slice (some ⟨w3.heap.size + 1, 0, none⟩) 9 9] _ _
  generalize (w3.alloc (.cells #[.slice ca cn cc, .slice a0 n0 c0, .slice a1 n1 c1, .int .i64 1, .int .i64 0] 29)).alloc (.cells #[.int .i64 0, .int .i64 0, .int .i64 0, .int .i64 1, .int .i64 1, .int .i64 0, .int .i64 2, .int .i64 2, .int .i64 0] 3) = w4 at HB4 HX4 HY4 HEQ HN4 HBX4 ⊢
  refine HEQ.out.mono ?_; rintro e w5 ⟨rfl, hb⟩
  have HB5 := Lib.hid (HB4.out.trans (hb.mono HB4.out.size))
  have HX5 := Lib.hid (HX4.out.below hb (Nat.le_refl _))
  have HY5 := Lib.hid (HY4.out.below hb (Nat.le_refl _))
  have HN5 := Lib.hid (HN4.out.below hb (Nat.le_refl _))
  obtain ⟨b0, b1, b2, b3, b4⟩ := HBX4.out.below hb (Nat.le_refl _)
  clear hb HB4 HX4 HY4 HEQ HN4 HBX4
  go_wp2_with fail
  go_at_call 8; refine (Same_eq xD _ _ _ _ _ _ _ HN5.out HN5.out ⟨by decide, by decide, by decide⟩).mono ?_; rintro e w6 ⟨rfl, hb⟩
  have HB6 := Lib.hid (HB5.out.trans (hb.mono HB5.out.size))
  have HX6 := Lib.hid (HX5.out.below hb (Nat.le_refl _))
  have HY6 := Lib.hid (HY5.out.below hb (Nat.le_refl _))
  clear hb HB5 HX5 HY5 HN5 b0 b1 b2 b3 b4
  go_wp2_with fail
  go_at_call 5; refine (three_keep _).mono ?_; rintro e w7 ⟨vp7, vs7, ve7, rfl, hin, hb⟩
  have HB7 := Lib.hid (HB6.out.trans (hb.mono HB6.out.size))
  have HX7 := Lib.hid (HX6.out.below hb (Nat.le_refl _))
  have HY7 := Lib.hid (HY6.out.below hb (Nat.le_refl _))
  have HI7 := Lib.hid hin
  clear hb hin HB6 HX6 HY6
  go_wp2_with fail
  go_at_call 9; refine (H3M.out _ _ _ _ HI7.out).mono ?_; rintro e w8 ⟨pa, pn, pc, sa, sc, ea, en, ec, rfl, hin, hb⟩
  have hb' := hb.trans (((Below.refl w8.heap.size w8).alloc (Nat.le_refl _) (.cells #[.string ⟨#[84, 73, 67]⟩, .int .i64 3, .int .i64 3, .slice pa pn pc, .slice sa 9 sc, .bool false, .bool false, .slice ea en ec, .int .i64 2, .int .i64 0, .int .i64 0] 26)).mono hb.size)
  have HB8 := Lib.hid (HB7.out.trans (hb'.mono HB7.out.size))
  have HX8 := Lib.hid (HX7.out.below hb' (Nat.le_refl _))
  have HY8 := Lib.hid (HY7.out.below hb' (Nat.le_refl _))
  have s4 : (w8.alloc (.cells #[.string ⟨#[84, 73, 67]⟩, .int .i64 3, .int .i64 3, .slice pa pn pc, .slice sa 9 sc, .bool false, .bool false, .slice ea en ec, .int .i64 2, .int .i64 0, .int .i64 0] 26)).cell? ⟨w8.heap.size, 4, none⟩ = some (.slice sa 9 sc) := by simp
  obtain ⟨y0, y1, y2, y3, y4, y5, y6, y7, y8, y9, y10⟩ := HY8.out
  obtain ⟨x0, x1, x2, x3, x4⟩ := HX8.out
  clear hb hb' hin HB7 HX7 HY7 HI7
  unfold three9 threeD
  dsimp only
  go_wp2_with fail
  by_cases hz : c = 0
  · have HOG1 := Lib.hid (HOG.out hz)
    have HOO1 := Lib.hid (HOO.out hz)
    have HCC1 := Lib.hid (HCC.out hz)
    have HMG1 := Lib.hid (HMG.out (HSH.out hz).2)
    have HS1 := Lib.hid (HSH.out hz).1
    clear HOG HOO HCC HMG HOB HMB HSH hz
    go_at_call 4; refine (HOG1.out _ HB8.out).mono ?_; rintro e w9 ⟨ca9, cn9, cc9, a09, n09, c09, a19, n19, c19, rfl, hin, hb⟩
    have hal := (Below.refl w9.heap.size w9).alloc (Nat.le_refl _) (.cells #[.slice ca9 cn9 cc9, .slice a09 n09 c09, .slice a19 n19 c19, .int .i64 q.turn, .int .i64 q.quiet] 29)
    have hb' := hb.trans (hal.mono hb.size)
    have HB9 := Lib.hid (HB8.out.trans (hb'.mono HB8.out.size))
    have HX9 := Lib.hid (HX8.out.below hb' (Nat.le_refl _))
    have HY9 := Lib.hid (HY8.out.below hb' (Nat.le_refl _))
    have HN9 := Lib.hid (hin.below hal (Nat.le_refl _))
    have HO9 := Lib.hid (boxP_new w9 q (.slice ca9 cn9 cc9) (.slice a09 n09 c09) (.slice a19 n19 c19) 29)
    unfold PlaceCells at HO9
    clear hb hb' hal hin HB8 HX8 HY8 y0 y1 y2 y3 y4 y5 y6 y7 y8 y9 y10 x0 x1 x2 x3 x4
    obtain ⟨y0, y1, y2, y3, y4, y5, y6, y7, y8, y9, y10⟩ := HY9.out
    go_wp2_with fail
    go_at_call 9; refine (HMG1.out _ HB9.out).mono ?_; rintro e wA ⟨paA, pnA, pcA, saA, scA, eaA, enA, ecA, rfl, hin, hb⟩
    obtain ⟨snA, hsnA⟩ : ∃ n, n = m.start.length := ⟨_, rfl⟩
    rw [← hsnA] at hin ⊢
    have hal := (Below.refl wA.heap.size wA).alloc (Nat.le_refl _) (.cells #[.string m.name, .int .i64 m.width, .int .i64 m.height, .slice paA pnA pcA, .slice saA snA scA, .bool m.falls, .bool m.keeps, .slice eaA enA ecA, .int .i64 m.blocked, .int .i64 m.quiet, .int .i64 m.rep] 26)
    have hb' := hb.trans (hal.mono hb.size)
    have HBA := Lib.hid (HB9.out.trans (hb'.mono HB9.out.size))
    have HXA := Lib.hid (HX9.out.below hb' (Nat.le_refl _))
    have HNA := Lib.hid (HN9.out.below hb' (Nat.le_refl _))
    have HOA := Lib.hid (HO9.out.below hb' (Nat.le_refl _))
    have HIA := Lib.hid (hin.below hal (Nat.le_refl _))
    have HMA := Lib.hid (boxR_new wA m (.slice paA pnA pcA) (.slice saA snA scA) (.slice eaA enA ecA) 26)
    unfold RulesCells at HMA
    clear hb hb' hal hin hsnA HB9 HX9 HY9 HN9 HO9 y0 y1 y2 y3 y4 y5 y6 y7 y8 y9 y10
    obtain ⟨o0, o1, o2, o3, o4⟩ := HOA.out
    obtain ⟨y0, y1, y2, y3, y4, y5, y6, y7, y8, y9, y10⟩ := HMA.out
    go_wp2_with fail
    go_at_call 4
    clear o0 o1 o2 o3 o4 y0 y1 y2 y3 y4 y5 y6 y7 y8 y9 y10
    generalize wA.alloc (.cells #[.string m.name, .int .i64 m.width, .int .i64 m.height, .slice paA pnA pcA, .slice saA snA scA, .bool m.falls, .bool m.keeps, .slice eaA enA ecA, .int .i64 m.blocked, .int .i64 m.quiet, .int .i64 m.rep] 26) = wB at HBA HXA HNA HOA HIA HMA ⊢
    refine (HOO1.out _ _ _ _ _ _ _ HIA.out HNA.out).mono ?_; rintro e wC ⟨caC, cnC, ccC, a0C, n0C, c0C, a1C, n1C, c1C, rfl, hin, hb⟩
    have hal := (Below.refl wC.heap.size wC).alloc (Nat.le_refl _) (.cells #[.slice caC cnC ccC, .slice a0C n0C c0C, .slice a1C n1C c1C, .int .i64 p.turn, .int .i64 p.quiet] 29)
    have hb' := hb.trans (hal.mono hb.size)
    have HBC := Lib.hid (HBA.out.trans (hb'.mono HBA.out.size))
    have HXC := Lib.hid (HXA.out.below hb' (Nat.le_refl _))
    have HNC := Lib.hid (HNA.out.below hb' (Nat.le_refl _))
    have HOC := Lib.hid (HOA.out.below hb' (Nat.le_refl _))
    have HIC := Lib.hid (HIA.out.below hb' (Nat.le_refl _))
    have HMC := Lib.hid (HMA.out.below hb' (Nat.le_refl _))
    have HQC := Lib.hid (boxP_new wC p (.slice caC cnC ccC) (.slice a0C n0C c0C) (.slice a1C n1C c1C) 29)
    have HPC := Lib.hid (hin.below hal (Nat.le_refl _))
    unfold PlaceCells at HQC
    clear hb hb' hal hin HBA HXA HNA HOA HIA HMA
    go_wp2_with fail
    go_at_call 10
    have HSZ : Hid (wC.heap.size + 1 = (wC.alloc (.cells #[.slice caC cnC ccC, .slice a0C n0C c0C, .slice a1C n1C c1C, .int .i64 p.turn, .int .i64 p.quiet] 29)).heap.size) := Lib.hid (by simp)
    generalize wC.alloc (.cells #[.slice caC cnC ccC, .slice a0C n0C c0C, .slice a1C n1C c1C, .int .i64 p.turn, .int .i64 p.quiet] 29) = wD at HBC HXC HNC HOC HIC HMC HQC HPC HSZ ⊢
    refine (fine2 wD _ HSZ.out).mono ?_; rintro e wE ⟨rfl, hb⟩
    have HBE := Lib.hid (HBC.out.trans (hb.mono HBC.out.size))
    have HXE := Lib.hid (HXC.out.below hb (Nat.le_refl _))
    have HNE := Lib.hid (HNC.out.below hb (Nat.le_refl _))
    have HOE := Lib.hid (HOC.out.below hb (Nat.le_refl _))
    have HIE := Lib.hid (HIC.out.below hb (Nat.le_refl _))
    have HME := Lib.hid (HMC.out.below hb (Nat.le_refl _))
    have HQE := Lib.hid (HQC.out.below hb (Nat.le_refl _))
    have HPE := Lib.hid (HPC.out.below hb (Nat.le_refl _))
    clear hb HBC HXC HNC HOC HIC HMC HQC HPC
    obtain ⟨o0, o1, o2, o3, o4⟩ := HOE.out
    obtain ⟨y0, y1, y2, y3, y4, y5, y6, y7, y8, y9, y10⟩ := HME.out
    go_wp2_with fail
    go_at_call 11; refine (HCC1.out _ _ _ _ _ _ _ HIE.out HNE.out).mono ?_; rintro e wF ⟨rfl, hb⟩
    have HBF := Lib.hid (HBE.out.trans (hb.mono HBE.out.size))
    have HXF := Lib.hid (HXE.out.below hb (Nat.le_refl _))
    have HQF := Lib.hid (HQE.out.below hb (Nat.le_refl _))
    have HPF := Lib.hid (HPE.out.below hb (Nat.le_refl _))
    clear hb HBE HXE HNE HOE HIE HME HQE HPE o0 o1 o2 o3 o4 y0 y1 y2 y3 y4 y5 y6 y7 y8 y9 y10
    obtain ⟨o0, o1, o2, o3, o4⟩ := HQF.out
    obtain ⟨x0, x1, x2, x3, x4⟩ := HXF.out
    go_wp2_with fail
    go_at_call 12; refine (same_eq p _ _ _ _ _ _ _ HPF.out (HIP.out _ HBF.out) HS1.out).mono ?_; rintro e wG ⟨rfl, hb⟩
    have HBG := Lib.hid (HBF.out.trans (hb.mono HBF.out.size))
    have HXG := Lib.hid (HXF.out.below hb (Nat.le_refl _))
    have HQG := Lib.hid (HQF.out.below hb (Nat.le_refl _))
    have HPG := Lib.hid (HPF.out.below hb (Nat.le_refl _))
    clear hb HBF HXF HQF HPF o0 o1 o2 o3 o4 x0 x1 x2 x3 x4
    obtain ⟨o0, o1, o2, o3, o4⟩ := HQG.out
    obtain ⟨x0, x1, x2, x3, x4⟩ := HXG.out
    go_wp2_with fail
    go_at_call 8; refine (Same_eq p _ _ _ _ _ _ _ HPG.out (HIP.out _ HBG.out) HS1.out).mono ?_; rintro e wH ⟨rfl, hb⟩
    have HBH := Lib.hid (HBG.out.trans (hb.mono HBG.out.size))
    clear hb HBG HXG HQG HPG o0 o1 o2 o3 o4 x0 x1 x2 x3 x4
    go_wp2_with fail
    go_ret
    exact ⟨rfl, HBH.out⟩
  · have HOB1 := Lib.hid (HOB.out hz)
    have hne : (c != 0) = true := by simpa using hz
    clear HOG HOO HCC HOB HSH hz
    go_at_call 4; refine (HOB1.out _ HB8.out).mono ?_; rintro e w9 ⟨rfl, hb⟩
    have hal := (Below.refl w9.heap.size w9).alloc (Nat.le_refl _) (.cells #[.slice none 0 0, .slice none 0 0, .slice none 0 0, .int .i64 0, .int .i64 0] 29)
    have hb' := hb.trans (hal.mono hb.size)
    have HB9 := Lib.hid (HB8.out.trans (hb'.mono HB8.out.size))
    have HY9 := Lib.hid (HY8.out.below hb' (Nat.le_refl _))
    have hO9 : (w9.alloc (.cells #[.slice none 0 0, .slice none 0 0, .slice none 0 0, .int .i64 0, .int .i64 0] 29)).cell? ⟨w9.heap.size, 0, none⟩ = some (.slice none 0 0) := by simp
    have HO9 := Lib.hid hO9
    clear hb hb' hal hO9 HB8 HX8 HY8 y0 y1 y2 y3 y4 y5 y6 y7 y8 y9 y10 x0 x1 x2 x3 x4
    obtain ⟨y0, y1, y2, y3, y4, y5, y6, y7, y8, y9, y10⟩ := HY9.out
    go_wp2_with fail
    by_cases hzd : d = 0
    · have HMG1 := Lib.hid (HMG.out hzd)
      clear HMG HMB hzd
      go_at_call 9; refine (HMG1.out _ HB9.out).mono ?_; rintro e wA ⟨paA, pnA, pcA, saA, scA, eaA, enA, ecA, rfl, hin, hb⟩
      obtain ⟨snA, hsnA⟩ : ∃ n, n = m.start.length := ⟨_, rfl⟩
      rw [← hsnA] at hin ⊢
      have hal := (Below.refl wA.heap.size wA).alloc (Nat.le_refl _) (.cells #[.string m.name, .int .i64 m.width, .int .i64 m.height, .slice paA pnA pcA, .slice saA snA scA, .bool m.falls, .bool m.keeps, .slice eaA enA ecA, .int .i64 m.blocked, .int .i64 m.quiet, .int .i64 m.rep] 26)
      have hb' := hb.trans (hal.mono hb.size)
      have HBA := Lib.hid (HB9.out.trans (hb'.mono HB9.out.size))
      have o0 := cell_keeps hb' (Nat.le_refl _) HO9.out
      clear hb hb' hal hin hsnA HB9 HY9 HO9 y0 y1 y2 y3 y4 y5 y6 y7 y8 y9 y10
      go_wp2_with fail
      go_ret
      exact ⟨rfl, HBA.out⟩
    · have HMB1 := Lib.hid (HMB.out hzd)
      clear HMG HMB hzd
      go_at_call 9; refine (HMB1.out _ HB9.out).mono ?_; rintro e wA ⟨rfl, hb⟩
      have hal := (Below.refl wA.heap.size wA).alloc (Nat.le_refl _) (.cells #[.string ⟨#[]⟩, .int .i64 0, .int .i64 0, .slice none 0 0, .slice none 0 0, .bool false, .bool false, .slice none 0 0, .int .i64 0, .int .i64 0, .int .i64 0] 26)
      have hb' := hb.trans (hal.mono hb.size)
      have HBA := Lib.hid (HB9.out.trans (hb'.mono HB9.out.size))
      have o0 := cell_keeps hb' (Nat.le_refl _) HO9.out
      clear hb hb' hal HB9 HY9 HO9 y0 y1 y2 y3 y4 y5 y6 y7 y8 y9 y10
      go_wp2_with fail
      go_ret
      exact ⟨rfl, HBA.out⟩
end Go.Proofs.Ytakekeljndofcaa
