/- zob.Change: the key of the position after a move, or what is wrong. -/
import Derived.Test.YtiligppdfldlfaaGreatDoorZobE
import Derived.Test.YtiligppdfldlfaaGreatDoorAftA
set_option maxRecDepth 100000
namespace Go.Proofs.YtiligppdfldlfaaGreatDoor
open Go.ChangeShapes Go.WideShapes Go.ChangeAt Go.RowKit

theorem moveAt_parts {W : World} {b : Nat} {m : MoveD} (h : MoveAt W b 0 m) : W.cell? ⟨b, 0, none⟩ = some (.int .i64 m.1) ∧ W.cell? ⟨b, 1, none⟩ = some (.int .i64 m.2.1) ∧ W.cell? ⟨b, 2, none⟩ = some (.int .i64 m.2.2) := h
/-- What Change answers. -/
def changeI (r : RulesD) (p : PlaceD) (m : MoveD) : Int := if afterE r p m = 0 then ((keyZ (afterD r p m)).toNat : Int) else 0
theorem afterE_ok {r : RulesD} {p : PlaceD} {m : MoveD} (h : afterE r p m = 0) : POkay r p ∧ legalB r p m = true := by
  unfold afterE at h
  by_cases hp : placeE r p = 0
  · rw [if_pos hp] at h
    by_cases hl : legalB r p m = true
    · exact ⟨placeE_iff.1 hp, hl⟩
    · rw [if_neg hl] at h; cases h
  · rw [if_neg hp] at h; exact absurd h hp
set_option maxHeartbeats 8000000 in
theorem change_any (r : RulesD) (p : PlaceD) (vp vs ve vc v0 v1 : Value) (m : MoveD) (w : World) (hr : RulesIn w r vp vs ve) (hp : PlaceIn w p vc v0 v1) :
    Calls Tryz.prog 49 #[RulesV r vp vs ve, PlaceV p vc v0 v1, moveV m] w (KPost (changeI r p m) (afterE r p m) w) := by
  obtain ⟨V, hV, hB, hY, hX, hM, hVS⟩ := rpm_boxes w r p vp vs ve vc v0 v1 m
  have HB := Lib.hid hB
  obtain ⟨c, hc⟩ : ∃ c, c = afterE r p m := ⟨_, rfl⟩
  obtain ⟨K, hK⟩ : ∃ K, K = changeI r p m := ⟨_, rfl⟩
  obtain ⟨q, hq⟩ : ∃ q, q = afterD r p m := ⟨_, rfl⟩
  have HK0 : Hid (c ≠ 0 → K = 0) := Lib.hid (fun h => by rw [hK, changeI, if_neg (by rw [← hc]; exact h)])
  have hAF := After_any r p vp vs ve vc v0 v1 m V (hr.below hB (Nat.le_refl _)) (hp.below hB (Nat.le_refl _))
  have HAG : Hid (c = 0 → Calls Tryz.prog 47 #[RulesV r vp vs ve, PlaceV p vc v0 v1, moveV m] V (MadeP q V)) := Lib.hid (fun hz => hAF.mono fun e w' h => by
    rcases h with ⟨_, h⟩ | ⟨h, _⟩
    · rw [hq]; exact h
    · exact absurd (by rw [← hc]; exact hz) h)
  have HAB : Hid (c ≠ 0 → Calls Tryz.prog 47 #[RulesV r vp vs ve, PlaceV p vc v0 v1, moveV m] V (PBad c V)) := Lib.hid (fun hz => hAF.mono fun e w' h => by
    rcases h with ⟨h, _⟩ | ⟨_, h⟩
    · exact absurd (by rw [hc]; exact h) hz
    · rw [hc]; exact h)
  have HKO : Hid (c = 0 → ∀ uc u0 u1 W, PlaceIn W q uc u0 u1 → Calls Tryz.prog 53 #[PlaceV q uc u0 u1] W (BelPost (.int .u64 K) W)) := Lib.hid (fun hz uc u0 u1 W h => by
    have he : afterE r p m = 0 := by rw [← hc]; exact hz
    obtain ⟨hk, hl⟩ := afterE_ok he
    rw [hK, changeI, if_pos he, ← hq]
    exact keyOf_any q uc u0 u1 W h (by rw [hq]; exact (after_ok hk (legal_ok hk hl)).kfit))
  have HKP : Hid (∀ a b : Int, a = K → b = c → ∀ W, Below w.heap.size w W → KPost (changeI r p m) (afterE r p m) w (.returned (.tuple #[.int .u64 a, .int .i64 b])) W) := Lib.hid (fun a b ha hb' W h => ⟨by rw [ha, hb', hK, hc], h⟩)
  obtain ⟨m1, m2, m3⟩ := m
  unfold RulesCells PlaceCells at hV
  unfold RulesV PlaceV PlaceCells at HAG HAB
  unfold moveV at HAG HAB
  unfold PlaceV PlaceCells at HKO
  unfold RulesV PlaceV PlaceCells moveV
  dsimp only at hV HAG HAB ⊢
  obtain ⟨x0, x1, x2, x3, x4⟩ := hX
  obtain ⟨y0, y1, y2, y3, y4, y5, y6, y7, y8, y9, y10⟩ := hY
  obtain ⟨z0, z1, z2⟩ := moveAt_parts hM
  dsimp only at z0 z1 z2
  rw [hV] at x0 x1 x2 x3 x4 y0 y1 y2 y3 y4 y5 y6 y7 y8 y9 y10 z0 z1 z2
  clear hr hp hc hK hq hB hM hVS hAF x0 x1 x2 x3 x4 y0 y1 y2 y3 y4 y5 y6 y7 y8 y9 y10 z0 z1 z2
  go_enter Tryz.func49, Tryz.ntmps49
  go_wp2_with fail
  rw [← hV]
  clear hV
  by_cases hz : c = 0
  · have HAG1 := Lib.hid (HAG.out hz)
    have HKO1 := Lib.hid (HKO.out hz)
    have hce : (c != 0) = false := by simpa using hz
    have HZ := Lib.hid hz
    clear HAG HAB HKO HK0 hz
    go_at_call 47; refine HAG1.out.mono ?_; rintro e w2 ⟨ca, cn, cc, a0, n0, c0, a1, n1, c1, rfl, hpf, hb⟩
    have hal := (Below.refl w2.heap.size w2).alloc (Nat.le_refl _) (.cells #[.slice ca cn cc, .slice a0 n0 c0, .slice a1 n1 c1, .int .i64 q.turn, .int .i64 q.quiet] 29)
    have HB2 := Lib.hid (HB.out.trans ((hb.trans (hal.mono hb.size)).mono HB.out.size))
    have HN := Lib.hid (hpf.plain.below hal (Nat.le_refl _))
    have hQ := boxP_new w2 q (.slice ca cn cc) (.slice a0 n0 c0) (.slice a1 n1 c1) 29
    unfold PlaceCells at hQ
    obtain ⟨q0, q1, q2, q3, q4⟩ := hQ
    clear hb hal hpf HB HAG1
    go_wp2_with fail
    go_at_call 53; refine (HKO1.out _ _ _ _ HN.out).mono ?_; rintro e w3 ⟨rfl, hb⟩
    have HB3 := Lib.hid (HB2.out.trans (hb.mono HB2.out.size))
    clear hb HB2 HN HKO1
    go_wp2_with fail
    go_ret2
    exact HKP.out _ _ rfl HZ.out.symm _ HB3.out
  · have HAB1 := Lib.hid (HAB.out hz)
    have hne : (c != 0) = true := by simpa using hz
    have HZ := Lib.hid (HK0.out hz)
    clear HAG HAB HKO HK0 hz
    go_at_call 47; refine HAB1.out.mono ?_; rintro e w2 ⟨rfl, hb⟩
    have hal := (Below.refl w2.heap.size w2).alloc (Nat.le_refl _) (.cells #[.slice none 0 0, .slice none 0 0, .slice none 0 0, .int .i64 0, .int .i64 0] 29)
    have HB2 := Lib.hid (HB.out.trans ((hb.trans (hal.mono hb.size)).mono HB.out.size))
    clear hb hal HB HAB1
    go_wp2_with fail
    go_ret2
    exact HKP.out _ _ HZ.out.symm rfl _ HB2.out
end Go.Proofs.YtiligppdfldlfaaGreatDoor
