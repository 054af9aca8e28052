/- place.Text: the text of a position. -/
import Derived.Test.YtakekeljndofcaaGreatDoorPCells
import Derived.Test.YtakekeljndofcaaGreatDoorPHand
import Derived.Test.YtakekeljndofcaaGreatDoorPChk
import Derived.Deep.DrawnRows
set_option maxRecDepth 100000
namespace Go.Proofs.YtakekeljndofcaaGreatDoor
open Go.ChangeShapes Go.WideShapes Go.ChangeAt Go.RowKit Go.Deep
attribute [local go_sem ↓] Go.wp_at_zero Go.wp_at_succ

def TextP (S : ByteArray) (c : Int) (w : World) (e : Ending) (w' : World) : Prop := e = .returned (.tuple #[.string S, .int .i64 c]) ∧ Below w.heap.size w w'
set_option maxHeartbeats 4000000 in
theorem text_bad (r : RulesD) (p : PlaceD) (vp vs ve vc v0 v1 : Value) (w : World) (hr : RulesIn w r vp vs ve) (hp : PlaceIn w p vc v0 v1) (hz : placeE r p ≠ 0) :
    Calls Tryz.prog 5 #[RulesV r vp vs ve, PlaceV p vc v0 v1] w (TextP ⟨#[]⟩ (placeE r p) w) := by
  obtain ⟨c, hc⟩ : ∃ c : Int, c = placeE r p := ⟨_, rfl⟩
  have HCK : Hid (∀ W, Below w.heap.size w W → Calls Tryz.prog 11 #[RulesV r vp vs ve, PlaceV p vc v0 v1] W (BelPost (.int .i64 c) W)) := Lib.hid (fun W h => by rw [hc]; exact pcheck_any r p vp vs ve vc v0 v1 W (hr.below h (Nat.le_refl _)) (hp.below h (Nat.le_refl _)))
  rw [← hc] at hz ⊢
  have hne : (c != 0) = true := by simpa using hz
  have HB : Hid (Below w.heap.size w ((w.alloc (.cells (RulesCells r vp vs ve) 26)).alloc (.cells (PlaceCells p vc v0 v1) 29))) := Lib.hid (((Below.refl _ _).alloc (Nat.le_refl _) _).alloc (by simp) _)
  unfold RulesCells PlaceCells at HB
  unfold RulesV PlaceV PlaceCells at HCK ⊢
  clear hr hp hc hz
  go_enter Tryz.func5, Tryz.ntmps5
  go_wp2_with fail
  go_at_call 11; refine (HCK.out _ HB.out).mono ?_; rintro e w1 ⟨rfl, hb⟩
  have HB1 := Lib.hid (HB.out.trans (hb.mono HB.out.size))
  clear hb HB HCK
  go_wp2_with fail
  go_ret2
  exact ⟨rfl, HB1.out⟩
set_option maxHeartbeats 16000000 in
theorem text_ok (r : RulesD) (p : PlaceD) (vp vs ve vc v0 v1 : Value) (w : World) (hr : RulesIn w r vp vs ve) (hp : PlaceIn w p vc v0 v1) (hok : POkay r p) (hT : Tb w.heap.size w) :
    Calls Tryz.prog 5 #[RulesV r vp vs ve, PlaceV p vc v0 v1] w (TextP (str (placeT r p)) 0 w) := by
  have hro := rOk hok.e
  have hcap : ∀ x ∈ r.pieces, 65 ≤ x.letter ∧ x.letter ≤ 90 := fun x hx => (hro.ps x hx).1
  have HCK : Hid (∀ W, Below w.heap.size w W → Calls Tryz.prog 11 #[RulesV r vp vs ve, PlaceV p vc v0 v1] W (BelPost (.int .i64 0) W)) := Lib.hid (fun W h => by
    have h1 := pcheck_any r p vp vs ve vc v0 v1 W (hr.below h (Nat.le_refl _)) (hp.below h (Nat.le_refl _))
    rwa [placeE_iff.2 hok] at h1)
  obtain ⟨X0, hX0⟩ : ∃ X, X = str (cellsT r.pieces r.width.toNat r.height.toNat p.cells) := ⟨_, rfl⟩
  obtain ⟨X1, hX1⟩ : ∃ X, X = str (handT r.pieces p.h0) := ⟨_, rfl⟩
  obtain ⟨X2, hX2⟩ : ∃ X, X = str (handT r.pieces p.h1) := ⟨_, rfl⟩
  obtain ⟨X3, hX3⟩ : ∃ X, X = numS (p.turn + 1) := ⟨_, rfl⟩
  obtain ⟨X4, hX4⟩ : ∃ X, X = numS p.quiet := ⟨_, rfl⟩
  have HCT : Hid (∀ V, Below w.heap.size w V → Calls Tryz.prog 12 #[RulesV r vp vs ve, vc] V fun e w' => e = .returned (.string X0) ∧ Below V.heap.size V w') := Lib.hid (fun V h => by
    rw [hX0]; exact cellsText_any r vp vs ve p.cells vc V (hr.below h (Nat.le_refl _)).1.1 (hp.below h (Nat.le_refl _)).c hro hok.cl hok.cs)
  have HH0 : Hid (∀ V, Below w.heap.size w V → Calls Tryz.prog 13 #[RulesV r vp vs ve, v0] V fun e w' => e = .returned (.string X1) ∧ Below V.heap.size V w') := Lib.hid (fun V h => by
    rw [hX1]; exact handText_any r vp vs ve p.h0 v0 V (hr.below h (Nat.le_refl _)).1.1 (hp.below h (Nat.le_refl _)).a hro.p6 hcap hok.l0 hok.n0 (hT.up h h.size))
  have HH1 : Hid (∀ V, Below w.heap.size w V → Calls Tryz.prog 13 #[RulesV r vp vs ve, v1] V fun e w' => e = .returned (.string X2) ∧ Below V.heap.size V w') := Lib.hid (fun V h => by
    rw [hX2]; exact handText_any r vp vs ve p.h1 v1 V (hr.below h (Nat.le_refl _)).1.1 (hp.below h (Nat.le_refl _)).b hro.p6 hcap hok.l1 hok.n1 (hT.up h h.size))
  have t0 := hok.t0
  have t1 := hok.t1
  have HI0 : Hid (∀ V, Below w.heap.size w V → Calls Tryz.prog 14 #[.int .i64 (p.turn + 1)] V fun e w' => e = .returned (.string X3) ∧ Below V.heap.size V w') := Lib.hid (fun V h => by
    rw [hX3]; exact itoa_any (p.turn + 1) (by omega) (by omega) V (hT.up h h.size))
  have HI1 : Hid (∀ V, Below w.heap.size w V → Calls Tryz.prog 14 #[.int .i64 p.quiet] V fun e w' => e = .returned (.string X4) ∧ Below V.heap.size V w') := Lib.hid (fun V h => by
    rw [hX4]; exact itoa_any p.quiet (by have := hok.q0; omega) (by have := hok.q1; omega) V (hT.up h h.size))
  have HJ : Hid (∀ W : World, Calls Tryz.prog 15 #[.slice (some ⟨W.heap.size, 0, none⟩) 5 5, .string ⟨#[32]⟩] (W.alloc (.cells #[.string X0, .string X1, .string X2, .string X3, .string X4] 9)) fun e w' => e = .returned (.string (str (placeT r p))) ∧ Below (W.alloc (.cells #[.string X0, .string X1, .string X2, .string X3, .string X4] 9)).heap.size (W.alloc (.cells #[.string X0, .string X1, .string X2, .string X3, .string X4] 9)) w') := Lib.hid (fun W => by
    have hbk := heap_alloc_new W (.cells #[.string X0, .string X1, .string X2, .string X3, .string X4] 9)
    refine join_cells (ls := partsT r p) 32 (fun j x hx => ?_) (by simp) (Nat.le_refl _) rfl (by have := placeT_len hok; rw [placeT] at this; omega) (by omega)
    rw [cell_of_row _ W.heap.size j _ _ (0, 0) hbk, hX0, hX1, hX2, hX3, hX4]
    simp only [partsT] at hx
    match j, hx with
    | 0, hx | 1, hx | 2, hx | 3, hx | 4, hx => obtain rfl := Option.some.inj hx; rfl
    | j + 5, hx => simp at hx)
  have q3 : IntKind.i64.wrap (p.turn + 1) = p.turn + 1 := IntWalk.i64_in _ (by omega)
  obtain ⟨a0, n0, c0, rfl⟩ : ∃ a n c, v0 = .slice a n c := by obtain ⟨a, c, e, _⟩ := hp.a.shape rfl; exact ⟨_, _, _, e⟩
  obtain ⟨a1, n1, c1, rfl⟩ : ∃ a n c, v1 = .slice a n c := by obtain ⟨a, c, e, _⟩ := hp.b.shape rfl; exact ⟨_, _, _, e⟩
  obtain ⟨ac, nc, cc, rfl⟩ : ∃ a n c, vc = .slice a n c := by obtain ⟨a, c, e, _⟩ := hp.c.shape rfl; exact ⟨_, _, _, e⟩
  have hB : Below w.heap.size w ((w.alloc (.cells (RulesCells r vp vs ve) 26)).alloc (.cells (PlaceCells p (.slice ac nc cc) (.slice a0 n0 c0) (.slice a1 n1 c1)) 29)) := ((Below.refl _ _).alloc (Nat.le_refl _) _).alloc (by simp) _
  have HB : Hid _ := Lib.hid hB
  have hP : BoxP ((w.alloc (.cells (RulesCells r vp vs ve) 26)).alloc (.cells (PlaceCells p (.slice ac nc cc) (.slice a0 n0 c0) (.slice a1 n1 c1)) 29)) (w.heap.size + 1) p (.slice ac nc cc) (.slice a0 n0 c0) (.slice a1 n1 c1) := by
    have h := boxP_new (w.alloc (.cells (RulesCells r vp vs ve) 26)) p (.slice ac nc cc) (.slice a0 n0 c0) (.slice a1 n1 c1) 29
    rwa [World.size_alloc] at h
  have HP0 : Hid _ := Lib.hid hP
  have HX0 : Hid (BoxR ((w.alloc (.cells (RulesCells r vp vs ve) 26)).alloc (.cells (PlaceCells p (.slice ac nc cc) (.slice a0 n0 c0) (.slice a1 n1 c1)) 29)) w.heap.size r vp vs ve) := Lib.hid ((boxR_new w r vp vs ve 26).below ((Below.refl _ _).alloc (Nat.le_refl _) _) (Nat.le_refl _))
  unfold RulesCells PlaceCells at HB HX0 HP0
  unfold RulesV at HCK HCT HH0 HH1 ⊢
  unfold PlaceV PlaceCells at HCK ⊢
  clear hr hp hok hT hro hcap hB hP hX0 hX1 hX2 hX3 hX4
  have HHH : Hid (∀ v X V, (v = .slice a0 n0 c0 ∧ X = X1 ∨ v = .slice a1 n1 c1 ∧ X = X2) → Below w.heap.size w V → Calls Tryz.prog 13 #[.agg #[.string r.name, .int .i64 r.width, .int .i64 r.height, vp, vs, .bool r.falls, .bool r.keeps, ve, .int .i64 r.blocked, .int .i64 r.quiet, .int .i64 r.rep], v] V fun e w' => e = .returned (.string X) ∧ Below V.heap.size V w') := Lib.hid (fun v X V h hV => by
    rcases h with ⟨rfl, rfl⟩ | ⟨rfl, rfl⟩
    · exact HH0.out V hV
    · exact HH1.out V hV)
  have HII : Hid (∀ n X V, (n = p.turn + 1 ∧ X = X3 ∨ n = p.quiet ∧ X = X4) → Below w.heap.size w V → Calls Tryz.prog 14 #[.int .i64 n] V fun e w' => e = .returned (.string X) ∧ Below V.heap.size V w') := Lib.hid (fun n X V h hV => by
    rcases h with ⟨rfl, rfl⟩ | ⟨rfl, rfl⟩
    · exact HI0.out V hV
    · exact HI1.out V hV)
  clear HH0 HH1 HI0 HI1
  go_enter Tryz.func5, Tryz.ntmps5
  go_wp2_with fail
  go_at_call 11; refine (HCK.out _ HB.out).mono ?_; rintro e w3 ⟨rfl, hb⟩
  have HBW := Lib.hid (HB.out.trans (hb.mono HB.out.size))
  have HX := Lib.hid (HX0.out.below hb (Nat.le_refl _))
  have HP := Lib.hid (HP0.out.below hb (Nat.le_refl _))
  clear hb HB HX0 HP0 HCK
  go_wp2_with fail
  have hBc : Below w3.heap.size w3 w3.drew := (Below.refl _ _).drew
  go_region_held3 (fun w' => (w'.cell? ⟨w.heap.size, 0, none⟩ = some (.string r.name) ∧ w'.cell? ⟨w.heap.size, 1, none⟩ = some (.int .i64 r.width) ∧ w'.cell? ⟨w.heap.size, 2, none⟩ = some (.int .i64 r.height) ∧ w'.cell? ⟨w.heap.size, 3, none⟩ = some vp ∧ w'.cell? ⟨w.heap.size, 4, none⟩ = some vs ∧ w'.cell? ⟨w.heap.size, 5, none⟩ = some (.bool r.falls) ∧ w'.cell? ⟨w.heap.size, 6, none⟩ = some (.bool r.keeps) ∧ w'.cell? ⟨w.heap.size, 7, none⟩ = some ve ∧ w'.cell? ⟨w.heap.size, 8, none⟩ = some (.int .i64 r.blocked) ∧ w'.cell? ⟨w.heap.size, 9, none⟩ = some (.int .i64 r.quiet) ∧ w'.cell? ⟨w.heap.size, 10, none⟩ = some (.int .i64 r.rep)) ∧ (w'.cell? ⟨w.heap.size + 1, 0, none⟩ = some (.slice ac nc cc) ∧ w'.cell? ⟨w.heap.size + 1, 1, none⟩ = some (.slice a0 n0 c0) ∧ w'.cell? ⟨w.heap.size + 1, 2, none⟩ = some (.slice a1 n1 c1) ∧ w'.cell? ⟨w.heap.size + 1, 3, none⟩ = some (.int .i64 p.turn) ∧ w'.cell? ⟨w.heap.size + 1, 4, none⟩ = some (.int .i64 p.quiet))) (first | exact ⟨HX.out.below hBc (Nat.le_refl _), HP.out.below hBc (Nat.le_refl _)⟩ | exact ⟨HX.out.below (hBc.alloc hBc.size _) (Nat.le_refl _), HP.out.below (hBc.alloc hBc.size _) (Nat.le_refl _)⟩) (first
    | (go_at_call 12; refine (HCT.out _ (HBW.out.trans (hBc.mono HBW.out.size))).mono ?_; rintro e w4 ⟨rfl, hb⟩; have hBc := hBc.trans (hb.mono hBc.size); clear hb)
    | (go_at_call 13; refine (HHH.out _ _ _ (by first | exact .inl ⟨rfl, rfl⟩ | exact .inr ⟨rfl, rfl⟩) (HBW.out.trans (hBc.mono HBW.out.size))).mono ?_; rintro e w5 ⟨rfl, hb⟩; have hBc := hBc.trans (hb.mono hBc.size); clear hb)
    | (go_at_call 14; refine (HII.out _ _ _ (by first | exact .inl ⟨rfl, rfl⟩ | exact .inr ⟨rfl, rfl⟩) (HBW.out.trans (hBc.mono HBW.out.size))).mono ?_; rintro e w7 ⟨rfl, hb⟩; have hBc := hBc.trans (hb.mono hBc.size); clear hb))
  have HB7 := Lib.hid (HBW.out.trans (hBc.mono HBW.out.size))
  clear hBc
  go_wp2_with fail
  go_at_call 15; refine (HJ.out _).mono ?_; rintro e w8 ⟨rfl, hb⟩
  have HB8 := Lib.hid ((HB7.out.alloc HB7.out.size _).trans (hb.mono (Nat.le_trans HB7.out.size (by simp))))
  clear hb
  go_wp2_with fail
  go_ret2
  exact ⟨rfl, HB8.out⟩
end Go.Proofs.YtakekeljndofcaaGreatDoor
