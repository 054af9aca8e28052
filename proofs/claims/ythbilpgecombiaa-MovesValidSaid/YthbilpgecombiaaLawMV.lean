/- The law MovesValid: every legal move leads to a valid position in which it is the turn of the other player, and no other move is made. -/
import Derived.Test.YthbilpgecombiaaPlayK
import Derived.Test.YthbilpgecombiaaOpenP
set_option maxRecDepth 100000
namespace Go.Proofs.Ythbilpgecombiaa
open Go.ChangeShapes Go.WideShapes Go.ChangeAt Go.RowKit

/-- A position of the other player that was made, and no error. -/
def NextP (q : PlaceD) (t : Int) (w : World) (e : Ending) (w' : World) : Prop :=
  ∃ ca cn cc a0 n0 c0 a1 n1 c1, e = .returned (.tuple #[.agg #[.slice ca cn cc, .slice a0 n0 c0, .slice a1 n1 c1, .int .i64 (1 - t), .int .i64 q.quiet], .int .i64 0]) ∧ PlaceIn w' q (.slice ca cn cc) (.slice a0 n0 c0) (.slice a1 n1 c1) ∧ Below w.heap.size w w'
theorem nextP_of {r : RulesD} {p : PlaceD} {m : MoveD} {w : World} {e : Ending} {w' : World} (h : AftPost r p m w e w') (he : afterE r p m = 0) : NextP (afterD r p m) p.turn w e w' := by
  rcases h with ⟨_, ca, cn, cc, a0, n0, c0, a1, n1, c1, h1, h2, h3⟩ | ⟨h, _⟩
  · exact ⟨ca, cn, cc, a0, n0, c0, a1, n1, c1, h1, h2.plain, h3⟩
  · exact absurd he h
theorem afterE_legal {r : RulesD} {p : PlaceD} {m : MoveD} (hk : POkay r p) (hl : legalB r p m = true) : afterE r p m = 0 := by rw [afterE, if_pos (placeE_iff.2 hk), if_pos hl]
theorem afterE_not {r : RulesD} {p : PlaceD} {m : MoveD} (hk : POkay r p) (hl : legalB r p m = false) : afterE r p m = 13 := by rw [afterE, if_pos (placeE_iff.2 hk), if_neg (by simp [hl])]
theorem near_chk (vp vs ve vc v0 v1 : Value) (w : World) (hr : RulesIn w three9 vp vs ve) (hp : PlaceIn w nearD vc v0 v1) : Calls Try.prog 9 #[RulesV three9 vp vs ve, PlaceV nearD vc v0 v1] w (BelPost (.int .i64 0) w) := by
  have h := pcheck_any three9 nearD vp vs ve vc v0 v1 w hr hp
  rwa [placeE_iff.2 near_ok] at h
theorem MoveAt.below3 {W W' : World} {b o n : Nat} {m : MoveD} (h : MoveAt W b o m) (hb : Below n W W') (hn : W.heap.size ≤ n) : MoveAt W' b o m := move_keeps _ _ _ _ _ _ hb hn h
set_option maxHeartbeats 16000000 in
theorem movesValid_full (r : RulesD) (vp vs ve : Value) (p : PlaceD) (vc v0 v1 : Value) (m : MoveD) (w : World) (hr : RulesIn w r vp vs ve) (hp : PlaceIn w p vc v0 v1) :
    Calls Try.prog 3 #[RulesV r vp vs ve, PlaceV p vc v0 v1, moveV m] w fun e w' => e = .returned (.bool true) ∧ Below w.heap.size w w' := by
  obtain ⟨V, hV, hB, hY, hX, hM, hVS⟩ := rpm_boxes w r p vp vs ve vc v0 v1 m
  have HB := Lib.hid hB
  have HIR : Hid (∀ W, Below w.heap.size w W → RulesIn W r vp vs ve) := Lib.hid (fun W h => hr.below h (Nat.le_refl _))
  have HIP : Hid (∀ W, Below w.heap.size w W → PlaceIn W p vc v0 v1) := Lib.hid (fun W h => hp.below h (Nat.le_refl _))
  obtain ⟨c, hc⟩ : ∃ c, c = placeE r p := ⟨_, rfl⟩
  have HOK : Hid (c = 0 → POkay r p) := Lib.hid (fun h => placeE_iff.1 (by rw [← hc]; exact h))
  have HLB : Hid (c ≠ 0 → ∀ W, Below w.heap.size w W → Calls Try.prog 12 #[RulesV r vp vs ve, PlaceV p vc v0 v1] W (ListBad c W)) := Lib.hid (fun hz W h => by rw [hc]; exact all_bad r p vp vs ve vc v0 v1 W (HIR.out W h) (HIP.out W h) (by rw [← hc]; exact hz))
  have HLG : Hid (c = 0 → ∀ W, Below w.heap.size w W → Calls Try.prog 12 #[RulesV r vp vs ve, PlaceV p vc v0 v1] W (ListPost (allD r p) W)) := Lib.hid (fun hz W h => all_ok r p vp vs ve vc v0 v1 W (HIR.out W h) (HIP.out W h) (HOK.out hz))
  have HAF : Hid (c = 0 → ∀ x : MoveD, legalB r p x = true → ∀ W, Below w.heap.size w W → Calls Try.prog 13 #[RulesV r vp vs ve, PlaceV p vc v0 v1, moveV x] W (NextP (afterD r p x) p.turn W)) := Lib.hid (fun hz x hl W h => (After_any r p vp vs ve vc v0 v1 x W (HIR.out W h) (HIP.out W h)).mono fun _ _ h2 => nextP_of h2 (afterE_legal (HOK.out hz) hl))
  have HAN : Hid (c = 0 → ∀ x : MoveD, legalB r p x = false → ∀ W, Below w.heap.size w W → Calls Try.prog 13 #[RulesV r vp vs ve, PlaceV p vc v0 v1, moveV x] W (PBad 13 W)) := Lib.hid (fun hz x hl W h => (After_any r p vp vs ve vc v0 v1 x W (HIR.out W h) (HIP.out W h)).mono fun _ _ h2 => by
    have he := afterE_not (HOK.out hz) hl
    rcases h2 with ⟨h3, _⟩ | ⟨_, h3⟩
    · rw [he] at h3; cases h3
    · rwa [he] at h3)
  have HCQ : Hid (c = 0 → ∀ x : MoveD, legalB r p x = true → ∀ uc u0 u1 W, Below w.heap.size w W → PlaceIn W (afterD r p x) uc u0 u1 → Calls Try.prog 9 #[RulesV r vp vs ve, .agg #[uc, u0, u1, .int .i64 (1 - p.turn), .int .i64 (afterD r p x).quiet]] W (BelPost (.int .i64 0) W)) := Lib.hid (fun hz x hl uc u0 u1 W h hpi => by
    have h1 := pcheck_any r (afterD r p x) vp vs ve uc u0 u1 W (HIR.out W h) hpi
    rw [placeE_iff.2 (after_ok (HOK.out hz) (legal_ok (HOK.out hz) hl))] at h1
    exact h1)
  have HLE : Hid (c = 0 → ∀ W, Below w.heap.size w W → Calls Try.prog 14 #[RulesV r vp vs ve, PlaceV p vc v0 v1, moveV m] W (LegPost (legalB r p m) 0 W)) := Lib.hid (fun hz W h => by
    have h1 := legal_any r p vp vs ve vc v0 v1 m W (HIR.out W h) (HIP.out W h)
    have h2 : placeE r p = 0 := by rw [← hc]; exact hz
    rw [legalE, h2, decide_eq_true rfl, Bool.true_and] at h1
    exact h1)
  have HCO : Hid (c = 0 → ∀ a n k W, IsSl MoveAt 3 W (.slice a n k) (allD r p) → Calls Try.prog 15 #[.slice a n k, moveV m] W (BelPost (.bool (legalB r p m)) W)) := Lib.hid (fun hz a n k W h => by
    have h1 := contains_any (allD r p) a n k m W h (by have := allD_length (HOK.out hz); omega)
    have h2 : decide (m ∈ allD r p) = legalB r p m := by
      by_cases hm : m ∈ allD r p
      · rw [decide_eq_true hm, legalB_all.2 hm]
      · rw [decide_eq_false hm]
        cases hb : legalB r p m
        · rfl
        · exact absurd (legalB_all.1 hb) hm
    rw [h2] at h1
    exact h1)
  have HT : Hid (c = 0 → 0 ≤ p.turn ∧ p.turn ≤ 1) := Lib.hid (fun hz => ⟨(HOK.out hz).t0, (HOK.out hz).t1⟩)
  have HX : Hid (∀ W, Below V.heap.size V W → BoxP W (w.heap.size + 1) p vc v0 v1) := Lib.hid (fun W hb => hX.below hb (Nat.le_refl _))
  have HY : Hid (∀ W, Below V.heap.size V W → BoxR W w.heap.size r vp vs ve) := Lib.hid (fun W hb => hY.below hb (Nat.le_refl _))
  have HALL : Hid (∀ x, x ∈ allD r p → legalB r p x = true) := Lib.hid (fun x h => legalB_all.2 h)
  have HNX : Hid (∀ i x y, (allD r p)[i]? = some x → (allD r p)[i + 1]? = some y → sameM x y = false) := Lib.hid (fun i x y h1 h2 => sameM_ne (all_next h1 h2))
  have HLN : Hid (c = 0 → (allD r p).length ≤ 5000) := Lib.hid (fun hz => allD_length (HOK.out hz))
  obtain ⟨L, hL⟩ : ∃ L, L = allD r p := ⟨_, rfl⟩
  rw [← hL] at HLG HCO HALL HNX HLN
  obtain ⟨m1, m2, m3⟩ := m
  have HM : Hid (∀ W, Below V.heap.size V W → W.cell? ⟨w.heap.size + 2, 0, none⟩ = some (.int .i64 m1) ∧ W.cell? ⟨w.heap.size + 2, 1, none⟩ = some (.int .i64 m2) ∧ W.cell? ⟨w.heap.size + 2, 2, none⟩ = some (.int .i64 m3)) := Lib.hid (fun W hb => MoveAt.below hM hb (Nat.le_refl _))
  obtain ⟨x0, x1, x2, x3, x4⟩ := hX
  obtain ⟨y0, y1, y2, y3, y4, y5, y6, y7, y8, y9, y10⟩ := hY
  unfold RulesCells PlaceCells at hV
  unfold RulesV at HLB HLG HAF HAN HCQ HLE ⊢
  unfold PlaceV PlaceCells at HLB HLG HAF HAN HLE ⊢
  unfold moveV at HAF HAN HLE HCO ⊢
  dsimp only at hV HLE HCO ⊢
  clear hr hp hc hL hB hM hVS x0 x1 x2 x3 x4 y0 y1 y2 y3 y4 y5 y6 y7 y8 y9 y10
  go_enter Try.func3, Try.ntmps3
  go_wp2_with fail
  rw [← hV]
  clear hV
  go_at_call 8; refine (plays_any _).mono ?_; rintro e w1 ⟨rfl, hb⟩
  have HBv1 := Lib.hid hb
  clear hb
  go_wp2_with fail
  go_at_call 10; refine (three_keep _).mono ?_; rintro e w2 ⟨vp2, vs2, ve2, rfl, hin, hb⟩
  have HBv2 := Lib.hid (HBv1.out.trans (hb.mono HBv1.out.size))
  have HI2 := Lib.hid hin
  clear hb hin HBv1
  go_wp2_with fail
  go_at_call 11; refine (near_any _).mono ?_; rintro e w3 ⟨uc, u0, u1, rfl, hpn, hb⟩
  have HBv3 := Lib.hid (HBv2.out.trans (hb.mono HBv2.out.size))
  have HI3 := Lib.hid (HI2.out.below hb (Nat.le_refl _))
  have HN3 := Lib.hid hpn
  clear hb hpn HBv2 HI2
  go_wp2_with fail
  go_at_call 9; refine (near_chk _ _ _ _ _ _ _ HI3.out HN3.out).mono ?_; rintro e w4 ⟨rfl, hb⟩
  have HBv4 := Lib.hid (HBv3.out.trans (hb.mono HBv3.out.size))
  clear hb HBv3 HI3 HN3
  obtain ⟨x0, x1, x2, x3, x4⟩ := HX.out _ HBv4.out
  obtain ⟨y0, y1, y2, y3, y4, y5, y6, y7, y8, y9, y10⟩ := HY.out _ HBv4.out
  have HB4 := Lib.hid (HB.out.trans (HBv4.out.mono HB.out.size))
  go_wp2_with fail
  by_cases hz : c = 0
  · have HLG1 := Lib.hid (HLG.out hz)
    have HAF1 := Lib.hid (HAF.out hz)
    have HAN1 := Lib.hid (HAN.out hz)
    have HCQ1 := Lib.hid (HCQ.out hz)
    have HLE1 := Lib.hid (HLE.out hz)
    have HCO1 := Lib.hid (HCO.out hz)
    obtain ⟨t0, t1⟩ := HT.out hz
    have hln := HLN.out hz
    clear HLG HAF HAN HCQ HLE HCO HT HLN HLB HOK hz
    go_at_call 12; refine (HLG1.out _ HB4.out).mono ?_; rintro e w5 ⟨la, ln, lc, rfl, hI, hll, hb⟩
    have HBv5 := Lib.hid (HBv4.out.trans (hb.mono HBv4.out.size))
    have HI5 := Lib.hid hI
    have HLL := Lib.hid hll
    have hln2 : ln ≤ 5000 := by rw [hll]; exact hln
    clear hb hI hll HB4 HBv4 HLG1 x0 x1 x2 x3 x4 y0 y1 y2 y3 y4 y5 y6 y7 y8 y9 y10
    obtain ⟨la', lc', hlv, hlc, hcell⟩ := HI5.out.shape HLL.out
    simp only [Value.slice.injEq] at hlv
    obtain ⟨rfl, -, rfl⟩ := hlv
    have HEL : Hid (∀ W, Below w5.heap.size w5 W → ∀ j, j < ln → ∃ g off x, la = some ⟨g, off, none⟩ ∧ L[j]? = some x ∧ MoveAt W g (off + j * 3) x) := Lib.hid (fun W hb j hj => by
      obtain ⟨g, off, x, e1, e2, e3⟩ := hcell j hj
      exact ⟨g, off, x, e1, e2, move_keeps _ _ _ _ _ _ hb (Nat.le_refl _) e3⟩)
    clear hcell
    go_wp2_with fail
    go_loopw [9, 10, 11, 12, 38] (fun _ _ _ _ i wr => ∃ k : Nat, k ≤ ln ∧ i = .int .i64 (k : Int) ∧ Hid (Below w5.heap.size w5 wr)) (fun _ _ _ _ i _ => ln - (intOf i).toNat)
    case atStart => exact ⟨0, by omega, rfl, Lib.hid (Below.refl _ _)⟩
    case round =>
      obtain ⟨k, hkl, rfl, hbel⟩ := hrel
      have hbv : Below V.heap.size V wr := HBv5.out.trans (hbel.out.mono HBv5.out.size)
      by_cases hlt : k < ln
      · obtain ⟨g, off, ⟨n1, n2, n3⟩, rfl, hx, c0, c1, c2⟩ := HEL.out wr hbel.out k hlt
        obtain ⟨g', off', ⟨y1, y2, y3⟩, hgo, hy, hym⟩ := HEL.out wr hbel.out (k - 1) (by omega)
        simp only [Option.some.injEq, Addr.mk.injEq, and_true] at hgo
        obtain ⟨rfl, rfl⟩ := hgo
        have HYM := Lib.hid hym
        have hl1 := HALL.out _ (List.mem_of_getElem? hx)
        have HSM : Hid (k ≠ 0 → sameM (y1, y2, y3) (n1, n2, n3) = false) := Lib.hid (fun h0 => HNX.out (k - 1) _ _ hy (by rw [show k - 1 + 1 = k by omega]; exact hx))
        have hal := (Below.refl wr.heap.size wr).alloc (Nat.le_refl _) (.cells #[.int .i64 n1, .int .i64 n2, .int .i64 n3] 31)
        have hbW : Below V.heap.size V (wr.alloc (.cells #[.int .i64 n1, .int .i64 n2, .int .i64 n3] 31)) := hbv.trans (hal.mono hbv.size)
        have hNB : MoveAt (wr.alloc (.cells #[.int .i64 n1, .int .i64 n2, .int .i64 n3] 31)) wr.heap.size 0 (n1, n2, n3) := by
          refine ⟨?_, ?_, ?_⟩ <;> (rw [World.cell?_alloc_at (hn := rfl)]; rfl)
        have HNB := Lib.hid hNB
        have HBW := Lib.hid hbW
        have HBL := Lib.hid (hbel.out.trans (hal.mono hbel.out.size))
        have HYW := Lib.hid (HYM.out.below3 hal (Nat.le_refl _))
        have hAF := HAF1.out (n1, n2, n3) hl1 _ (HB.out.trans (hbW.mono HB.out.size))
        have hCQ := HCQ1.out (n1, n2, n3) hl1
        obtain ⟨qd, hqd⟩ : ∃ qd, qd = afterD r p (n1, n2, n3) := ⟨_, rfl⟩
        rw [← hqd] at hAF hCQ
        dsimp only at hAF
        have HAFk := Lib.hid hAF
        have HCQk := Lib.hid hCQ
        obtain ⟨x0, x1, x2, x3, x4⟩ := HX.out _ hbW
        obtain ⟨z0, z1, z2, z3, z4, z5, z6, z7, z8, z9, z10⟩ := HY.out _ hbW
        have hklc : k < lc := by omega
        clear hx hy hym hl1 hal hbW hNB hAF hCQ hqd hbv hbel
        go_wp2_with fail
        go_at_call 13; refine HAFk.out.mono ?_; rintro e w6 ⟨ca, cn, cc, a0, j0, k0, a1, j1, k1, rfl, hpi, hb⟩
        have HBv6 := Lib.hid (HBW.out.trans (hb.mono HBW.out.size))
        have HBl6 := Lib.hid (HBL.out.trans (hb.mono HBL.out.size))
        have HNB6 := Lib.hid (MoveAt.below HNB.out hb (Nat.le_refl _))
        have HYW6 := Lib.hid (HYW.out.below3 hb (Nat.le_refl _))
        have HPI6 := Lib.hid hpi
        clear hb hpi HBW HBL HNB HYW HAFk c0 c1 c2 x0 x1 x2 x3 x4 z0 z1 z2 z3 z4 z5 z6 z7 z8 z9 z10
        go_wp2_with fail
        have hal := (Below.refl w6.heap.size w6).alloc (Nat.le_refl _) (.cells #[.slice ca cn cc, .slice a0 j0 k0, .slice a1 j1 k1, .int .i64 (1 - p.turn), .int .i64 qd.quiet] 29)
        have HBv7 := Lib.hid (HBv6.out.trans (hal.mono HBv6.out.size))
        have HBl7 := Lib.hid (HBl6.out.trans (hal.mono HBl6.out.size))
        have HNB7 := Lib.hid (MoveAt.below HNB6.out hal (Nat.le_refl _))
        have HYW7 := Lib.hid (HYW6.out.below3 hal (Nat.le_refl _))
        have HPI7 := Lib.hid (HPI6.out.below hal (Nat.le_refl _))
        have HQ7 := Lib.hid (boxP_new w6 ⟨qd.cells, qd.h0, qd.h1, 1 - p.turn, qd.quiet⟩ (.slice ca cn cc) (.slice a0 j0 k0) (.slice a1 j1 k1) 29)
        unfold PlaceCells at HQ7
        dsimp only at HQ7
        clear hal HBv6 HBl6 HNB6 HYW6 HPI6
        generalize w6.alloc (.cells #[.slice ca cn cc, .slice a0 j0 k0, .slice a1 j1 k1, .int .i64 (1 - p.turn), .int .i64 qd.quiet] 29) = w7 at HBv7 HBl7 HNB7 HYW7 HPI7 HQ7 ⊢
        generalize w6.heap.size = qb at HQ7 ⊢
        generalize wr.heap.size = nb at HNB7 ⊢
        have heq := eqMove
        have hgd := guardMove
        have hwt : IntKind.i64.wrap (1 - p.turn) = 1 - p.turn := IntWalk.i64_in _ (by omega)
        have hkw : k ≠ 0 → IntKind.i64.wrap ((k : Int) - 1) = ((k - 1 : Nat) : Int) := fun h0 => by rw [IntWalk.i64_in _ (by omega)]; omega
        have hBc : Below w7.heap.size w7 w7.drew := (Below.refl _ _).drew
        have hk1 : k - 1 < ln := by omega
        by_cases h0 : k = 0
        · subst h0
          clear HSM hkw hk1
          refine wp_region_noPanic ?_
          refine wp_region_held_drew (S := (fun w' => (w'.cell? ⟨w.heap.size, 0, none⟩ = some (.string r.name) ∧ w'.cell? ⟨w.heap.size, 1, none⟩ = some (.int .i64 r.width) ∧ w'.cell? ⟨w.heap.size, 2, none⟩ = some (.int .i64 r.height) ∧ w'.cell? ⟨w.heap.size, 3, none⟩ = some vp ∧ w'.cell? ⟨w.heap.size, 4, none⟩ = some vs ∧ w'.cell? ⟨w.heap.size, 5, none⟩ = some (.bool r.falls) ∧ w'.cell? ⟨w.heap.size, 6, none⟩ = some (.bool r.keeps) ∧ w'.cell? ⟨w.heap.size, 7, none⟩ = some ve ∧ w'.cell? ⟨w.heap.size, 8, none⟩ = some (.int .i64 r.blocked) ∧ w'.cell? ⟨w.heap.size, 9, none⟩ = some (.int .i64 r.quiet) ∧ w'.cell? ⟨w.heap.size, 10, none⟩ = some (.int .i64 r.rep)) ∧ (w'.cell? ⟨w.heap.size + 1, 0, none⟩ = some vc ∧ w'.cell? ⟨w.heap.size + 1, 1, none⟩ = some v0 ∧ w'.cell? ⟨w.heap.size + 1, 2, none⟩ = some v1 ∧ w'.cell? ⟨w.heap.size + 1, 3, none⟩ = some (.int .i64 p.turn) ∧ w'.cell? ⟨w.heap.size + 1, 4, none⟩ = some (.int .i64 p.quiet)) ∧ (w'.cell? ⟨qb, 0, none⟩ = some (.slice ca cn cc) ∧ w'.cell? ⟨qb, 1, none⟩ = some (.slice a0 j0 k0) ∧ w'.cell? ⟨qb, 2, none⟩ = some (.slice a1 j1 k1) ∧ w'.cell? ⟨qb, 3, none⟩ = some (.int .i64 (1 - p.turn)) ∧ w'.cell? ⟨qb, 4, none⟩ = some (.int .i64 qd.quiet)) ∧ (w'.cell? ⟨nb, 0, none⟩ = some (.int .i64 n1) ∧ w'.cell? ⟨nb, 0 + 1, none⟩ = some (.int .i64 n2) ∧ w'.cell? ⟨nb, 0 + 2, none⟩ = some (.int .i64 n3)))) (by kernel_rfl) ?_ (fun hHeld => ?_)
          · exact ⟨HY.out _ (HBv7.out.trans (hBc.mono HBv7.out.size)), HX.out _ (HBv7.out.trans (hBc.mono HBv7.out.size)), HQ7.out.below hBc (Nat.le_refl _), MoveAt.below HNB7.out hBc (Nat.le_refl _)⟩
          refine wpAnyH_take (i := 0) (v := ?_) rfl (by kernel_rfl) (by kernel_rfl) (by kernel_rfl) (fun _ _ _ h => h) (Or.inl ⟨by rfl, ?_⟩) (by assumption) ?_
          rotate_left
          · intro w hSw
            (try dsimp only at hSw)
            go_simp
            all_goals with_reducible rfl
          simp only [Act.put, List.setIfInBounds_toArray, List.set_cons_zero, List.set_cons_succ, List.getElem_toArray, List.getElem_cons_zero]
          refine wpAnyH_take (i := 1) (v := ?_) rfl (by kernel_rfl) (by kernel_rfl) (by kernel_rfl) (fun _ _ _ h => h) (Or.inl ⟨by rfl, ?_⟩) (by assumption) ?_
          rotate_left
          · intro w hSw
            (try dsimp only at hSw)
            go_simp
            all_goals with_reducible rfl
          simp only [Act.put, List.setIfInBounds_toArray, List.set_cons_zero, List.set_cons_succ, List.getElem_toArray, List.getElem_cons_zero, List.getElem_cons_succ]
          refine wpAnyH_take (i := 2) (v := ?_) rfl (by kernel_rfl) (by kernel_rfl) (by kernel_rfl) (fun _ _ _ h => h) (Or.inl ⟨by rfl, ?_⟩) (by assumption) ?_
          rotate_left
          · intro w hSw
            (try dsimp only at hSw)
            go_simp
            all_goals with_reducible rfl
          simp only [Act.put, List.setIfInBounds_toArray, List.set_cons_zero, List.set_cons_succ, List.getElem_toArray, List.getElem_cons_zero, List.getElem_cons_succ]
          refine wpAnyH_take (i := 3) (v := ?_) rfl (by kernel_rfl) (by kernel_rfl) (by kernel_rfl) (fun _ _ _ h => h) (Or.inl ⟨by rfl, ?_⟩) (by assumption) ?_
          rotate_left
          · intro w hSw
            (try dsimp only at hSw)
            go_simp
            all_goals with_reducible rfl
          simp only [Act.put, List.setIfInBounds_toArray, List.set_cons_zero, List.set_cons_succ, List.getElem_toArray, List.getElem_cons_zero, List.getElem_cons_succ]
          refine wpAnyH_take (i := 4) (v := ?_) rfl (by kernel_rfl) (by kernel_rfl) (by kernel_rfl) (fun _ _ _ h => h) (Or.inl ⟨by rfl, ?_⟩) (by assumption) ?_
          rotate_left
          · intro w hSw
            (try dsimp only at hSw)
            go_simp
            all_goals with_reducible rfl
          simp only [Act.put, List.setIfInBounds_toArray, List.set_cons_zero, List.set_cons_succ, List.getElem_toArray, List.getElem_cons_zero, List.getElem_cons_succ]
          refine wpAnyH_ready (rs := [5]) (by kernel_rfl) (by simp) (AllReadyH.cons rfl (fun K hK => ?_) AllReadyH.nil)
          go_simp
          go_at_call 9; refine (HCQk.out _ _ _ _ (HB.out.trans ((HBv7.out.trans (hBc.mono HBv7.out.size)).mono HB.out.size)) (HPI7.out.below hBc (Nat.le_refl _))).mono ?_; rintro e w8 ⟨rfl, hb⟩; have hBc := hBc.trans (hb.mono hBc.size); clear hb
          refine hK.out _ _ ?_ (fun hHeld => ?_)
          · exact ⟨HY.out _ (HBv7.out.trans (hBc.mono HBv7.out.size)), HX.out _ (HBv7.out.trans (hBc.mono HBv7.out.size)), HQ7.out.below hBc (Nat.le_refl _), MoveAt.below HNB7.out hBc (Nat.le_refl _)⟩
          clear hK K
          try simp only [Act.put, List.setIfInBounds_toArray, List.set_cons_zero, List.set_cons_succ, List.getElem_toArray, List.getElem_cons_zero, List.getElem_cons_succ]
          refine wpAnyH_take (i := 6) (v := ?_) rfl (by kernel_rfl) (by kernel_rfl) (by kernel_rfl) (fun _ _ _ h => h) (Or.inl ⟨by rfl, ?_⟩) (by assumption) ?_
          rotate_left
          · intro w hSw
            (try dsimp only at hSw)
            go_simp
            all_goals with_reducible rfl
          simp only [Act.put, List.setIfInBounds_toArray, List.set_cons_zero, List.set_cons_succ, List.getElem_toArray, List.getElem_cons_zero, List.getElem_cons_succ]
          refine wpAnyH_take (i := 7) (v := ?_) rfl (by kernel_rfl) (by kernel_rfl) (by kernel_rfl) (fun _ _ _ h => h) (Or.inl ⟨by rfl, ?_⟩) (by assumption) ?_
          rotate_left
          · intro w hSw
            (try dsimp only at hSw)
            go_simp
            all_goals with_reducible rfl
          simp only [Act.put, List.setIfInBounds_toArray, List.set_cons_zero, List.set_cons_succ, List.getElem_toArray, List.getElem_cons_zero, List.getElem_cons_succ]
          refine wpAnyH_take (i := 8) (v := ?_) rfl (by kernel_rfl) (by kernel_rfl) (by kernel_rfl) (fun _ _ _ h => h) (Or.inl ⟨by rfl, ?_⟩) (by assumption) ?_
          rotate_left
          · intro w hSw
            (try dsimp only at hSw)
            go_simp
            all_goals with_reducible rfl
          simp only [Act.put, List.setIfInBounds_toArray, List.set_cons_zero, List.set_cons_succ, List.getElem_toArray, List.getElem_cons_zero, List.getElem_cons_succ]
          refine wpAnyH_take (i := 9) (v := ?_) rfl (by kernel_rfl) (by kernel_rfl) (by kernel_rfl) (fun _ _ _ h => h) (Or.inl ⟨by rfl, ?_⟩) (by assumption) ?_
          rotate_left
          · intro w hSw
            (try dsimp only at hSw)
            go_simp
            all_goals with_reducible rfl
          simp only [Act.put, List.setIfInBounds_toArray, List.set_cons_zero, List.set_cons_succ, List.getElem_toArray, List.getElem_cons_zero, List.getElem_cons_succ]
          refine wpAnyH_take (i := 10) (v := ?_) rfl (by kernel_rfl) (by kernel_rfl) (by kernel_rfl) (fun _ _ _ h => h) (Or.inl ⟨by rfl, ?_⟩) (by assumption) ?_
          rotate_left
          · intro w hSw
            (try dsimp only at hSw)
            go_simp
            all_goals with_reducible rfl
          simp only [Act.put, List.setIfInBounds_toArray, List.set_cons_zero, List.set_cons_succ, List.getElem_toArray, List.getElem_cons_zero, List.getElem_cons_succ]
          refine wpAnyH_take (i := 11) (v := ?_) rfl (by kernel_rfl) (by kernel_rfl) (by kernel_rfl) (fun _ _ _ h => h) (Or.inl ⟨by rfl, ?_⟩) (by assumption) ?_
          rotate_left
          · intro w hSw
            (try dsimp only at hSw)
            go_simp
            all_goals with_reducible rfl
          simp only [Act.put, List.setIfInBounds_toArray, List.set_cons_zero, List.set_cons_succ, List.getElem_toArray, List.getElem_cons_zero, List.getElem_cons_succ]
          refine wpAnyH_take (i := 12) (v := ?_) rfl (by kernel_rfl) (by kernel_rfl) (by kernel_rfl) (fun _ _ _ h => h) (Or.inl ⟨by rfl, ?_⟩) (by assumption) ?_
          rotate_left
          · intro w hSw
            (try dsimp only at hSw)
            go_simp
            all_goals with_reducible rfl
          simp only [Act.put, List.setIfInBounds_toArray, List.set_cons_zero, List.set_cons_succ, List.getElem_toArray, List.getElem_cons_zero, List.getElem_cons_succ]
          refine wpAnyH_take (i := 13) (v := ?_) rfl (by kernel_rfl) (by kernel_rfl) (by kernel_rfl) (fun _ _ _ h => h) (Or.inl ⟨by rfl, ?_⟩) (by assumption) ?_
          rotate_left
          · intro w hSw
            (try dsimp only at hSw)
            go_simp
            all_goals with_reducible rfl
          simp only [Act.put, List.setIfInBounds_toArray, List.set_cons_zero, List.set_cons_succ, List.getElem_toArray, List.getElem_cons_zero, List.getElem_cons_succ]
          refine wpAnyH_take (i := 14) (v := ?_) rfl (by kernel_rfl) (by kernel_rfl) (by kernel_rfl) (fun _ _ _ h => h) (Or.inl ⟨by rfl, ?_⟩) (by assumption) ?_
          rotate_left
          · intro w hSw
            (try dsimp only at hSw)
            go_simp
            all_goals with_reducible rfl
          simp only [Act.put, List.setIfInBounds_toArray, List.set_cons_zero, List.set_cons_succ, List.getElem_toArray, List.getElem_cons_zero, List.getElem_cons_succ]
          refine wpAnyH_take (i := 15) (v := ?_) rfl (by kernel_rfl) (by kernel_rfl) (by kernel_rfl) (fun _ _ _ h => h) (Or.inl ⟨by rfl, ?_⟩) (by assumption) ?_
          rotate_left
          · intro w hSw
            (try dsimp only at hSw)
            go_simp
            all_goals with_reducible rfl
          simp only [Act.put, List.setIfInBounds_toArray, List.set_cons_zero, List.set_cons_succ, List.getElem_toArray, List.getElem_cons_zero, List.getElem_cons_succ]
          refine wpAnyH_take (i := 16) (v := ?_) rfl (by kernel_rfl) (by kernel_rfl) (by kernel_rfl) (fun _ _ _ h => h) (Or.inl ⟨by rfl, ?_⟩) (by assumption) ?_
          rotate_left
          · intro w hSw
            (try dsimp only at hSw)
            go_simp
            all_goals with_reducible rfl
          simp only [Act.put, List.setIfInBounds_toArray, List.set_cons_zero, List.set_cons_succ, List.getElem_toArray, List.getElem_cons_zero, List.getElem_cons_succ]
          refine wpAnyH_take (i := 17) (v := ?_) rfl (by kernel_rfl) (by kernel_rfl) (by kernel_rfl) (fun _ _ _ h => h) (Or.inl ⟨by rfl, ?_⟩) (by assumption) ?_
          rotate_left
          · intro w hSw
            (try dsimp only at hSw)
            go_simp
            all_goals with_reducible rfl
          simp only [Act.put, List.setIfInBounds_toArray, List.set_cons_zero, List.set_cons_succ, List.getElem_toArray, List.getElem_cons_zero, List.getElem_cons_succ]
          refine wpAnyH_take (i := 18) (v := ?_) rfl (by kernel_rfl) (by kernel_rfl) (by kernel_rfl) (fun _ _ _ h => h) (Or.inl ⟨by rfl, ?_⟩) (by assumption) ?_
          rotate_left
          · intro w hSw
            (try dsimp only at hSw)
            go_simp
            all_goals with_reducible rfl
          simp only [Act.put, List.setIfInBounds_toArray, List.set_cons_zero, List.set_cons_succ, List.getElem_toArray, List.getElem_cons_zero, List.getElem_cons_succ]
          refine wpAnyH_take (i := 19) (v := ?_) rfl (by kernel_rfl) (by kernel_rfl) (by kernel_rfl) (fun _ _ _ h => h) (Or.inl ⟨by rfl, ?_⟩) (by assumption) ?_
          rotate_left
          · intro w hSw
            (try dsimp only at hSw)
            go_simp
            all_goals with_reducible rfl
          simp only [Act.put, List.setIfInBounds_toArray, List.set_cons_zero, List.set_cons_succ, List.getElem_toArray, List.getElem_cons_zero, List.getElem_cons_succ]
          refine wpAnyH_take (i := 20) (v := undef) rfl (by kernel_rfl) (by kernel_rfl) (by kernel_rfl) (fun _ _ _ h => h) (Or.inr ⟨by rfl, rfl⟩) (by assumption) ?_
          simp only [Act.put, List.setIfInBounds_toArray, List.set_cons_zero, List.set_cons_succ, List.getElem_toArray, List.getElem_cons_zero, List.getElem_cons_succ]
          refine wpAnyH_take (i := 21) (v := undef) rfl (by kernel_rfl) (by kernel_rfl) (by kernel_rfl) (fun _ _ _ h => h) (Or.inr ⟨by rfl, rfl⟩) (by assumption) ?_
          simp only [Act.put, List.setIfInBounds_toArray, List.set_cons_zero, List.set_cons_succ, List.getElem_toArray, List.getElem_cons_zero, List.getElem_cons_succ]
          refine wpAnyH_take (i := 22) (v := undef) rfl (by kernel_rfl) (by kernel_rfl) (by kernel_rfl) (fun _ _ _ h => h) (Or.inr ⟨by rfl, rfl⟩) (by assumption) ?_
          simp only [Act.put, List.setIfInBounds_toArray, List.set_cons_zero, List.set_cons_succ, List.getElem_toArray, List.getElem_cons_zero, List.getElem_cons_succ]
          refine wpAnyH_take (i := 23) (v := undef) rfl (by kernel_rfl) (by kernel_rfl) (by kernel_rfl) (fun _ _ _ h => h) (Or.inr ⟨by rfl, rfl⟩) (by assumption) ?_
          simp only [Act.put, List.setIfInBounds_toArray, List.set_cons_zero, List.set_cons_succ, List.getElem_toArray, List.getElem_cons_zero, List.getElem_cons_succ]
          refine wpAnyH_take (i := 24) (v := undef) rfl (by kernel_rfl) (by kernel_rfl) (by kernel_rfl) (fun _ _ _ h => h) (Or.inr ⟨by rfl, rfl⟩) (by assumption) ?_
          simp only [Act.put, List.setIfInBounds_toArray, List.set_cons_zero, List.set_cons_succ, List.getElem_toArray, List.getElem_cons_zero, List.getElem_cons_succ]
          refine wpAnyH_take (i := 25) (v := undef) rfl (by kernel_rfl) (by kernel_rfl) (by kernel_rfl) (fun _ _ _ h => h) (Or.inr ⟨by rfl, rfl⟩) (by assumption) ?_
          simp only [Act.put, List.setIfInBounds_toArray, List.set_cons_zero, List.set_cons_succ, List.getElem_toArray, List.getElem_cons_zero, List.getElem_cons_succ]
          refine wpAnyH_take (i := 26) (v := undef) rfl (by kernel_rfl) (by kernel_rfl) (by kernel_rfl) (fun _ _ _ h => h) (Or.inr ⟨by rfl, rfl⟩) (by assumption) ?_
          simp only [Act.put, List.setIfInBounds_toArray, List.set_cons_zero, List.set_cons_succ, List.getElem_toArray, List.getElem_cons_zero, List.getElem_cons_succ]
          refine wpAnyH_take (i := 27) (v := ?_) rfl (by kernel_rfl) (by kernel_rfl) (by kernel_rfl) (fun _ _ _ h => h) (Or.inl ⟨by rfl, ?_⟩) (by assumption) ?_
          rotate_left
          · intro w hSw
            (try dsimp only at hSw)
            go_simp
            all_goals with_reducible rfl
          simp only [Act.put, List.setIfInBounds_toArray, List.set_cons_zero, List.set_cons_succ, List.getElem_toArray, List.getElem_cons_zero, List.getElem_cons_succ]
          refine wpAnyH_take (i := 28) (v := ?_) rfl (by kernel_rfl) (by kernel_rfl) (by kernel_rfl) (fun _ _ _ h => h) (Or.inl ⟨by rfl, ?_⟩) (by assumption) ?_
          rotate_left
          · intro w hSw
            (try dsimp only at hSw)
            go_simp
            all_goals with_reducible rfl
          simp only [Act.put, List.setIfInBounds_toArray, List.set_cons_zero, List.set_cons_succ, List.getElem_toArray, List.getElem_cons_zero, List.getElem_cons_succ]
          refine wpAnyH_done (by kernel_rfl) ?_ _
          refine NoPanic.normal ?_
          have HBE := Lib.hid (HBl7.out.trans (hBc.mono HBl7.out.size))
          clear hBc
          go_wp2_with fail
          go_roundw
          case rel => exact ⟨0 + 1, by omega, by go_num, HBE⟩
          case measure => simp [intOf]; omega
        · have hkd : (0 < k) = True := by simp; omega
          have hsm := HSM.out h0
          have hkw1 := hkw h0
          clear HSM hkw h0
          go_region_held3 (fun w' => (w'.cell? ⟨w.heap.size, 0, none⟩ = some (.string r.name) ∧ w'.cell? ⟨w.heap.size, 1, none⟩ = some (.int .i64 r.width) ∧ w'.cell? ⟨w.heap.size, 2, none⟩ = some (.int .i64 r.height) ∧ w'.cell? ⟨w.heap.size, 3, none⟩ = some vp ∧ w'.cell? ⟨w.heap.size, 4, none⟩ = some vs ∧ w'.cell? ⟨w.heap.size, 5, none⟩ = some (.bool r.falls) ∧ w'.cell? ⟨w.heap.size, 6, none⟩ = some (.bool r.keeps) ∧ w'.cell? ⟨w.heap.size, 7, none⟩ = some ve ∧ w'.cell? ⟨w.heap.size, 8, none⟩ = some (.int .i64 r.blocked) ∧ w'.cell? ⟨w.heap.size, 9, none⟩ = some (.int .i64 r.quiet) ∧ w'.cell? ⟨w.heap.size, 10, none⟩ = some (.int .i64 r.rep)) ∧ (w'.cell? ⟨w.heap.size + 1, 0, none⟩ = some vc ∧ w'.cell? ⟨w.heap.size + 1, 1, none⟩ = some v0 ∧ w'.cell? ⟨w.heap.size + 1, 2, none⟩ = some v1 ∧ w'.cell? ⟨w.heap.size + 1, 3, none⟩ = some (.int .i64 p.turn) ∧ w'.cell? ⟨w.heap.size + 1, 4, none⟩ = some (.int .i64 p.quiet)) ∧ (w'.cell? ⟨qb, 0, none⟩ = some (.slice ca cn cc) ∧ w'.cell? ⟨qb, 1, none⟩ = some (.slice a0 j0 k0) ∧ w'.cell? ⟨qb, 2, none⟩ = some (.slice a1 j1 k1) ∧ w'.cell? ⟨qb, 3, none⟩ = some (.int .i64 (1 - p.turn)) ∧ w'.cell? ⟨qb, 4, none⟩ = some (.int .i64 qd.quiet)) ∧ (w'.cell? ⟨nb, 0, none⟩ = some (.int .i64 n1) ∧ w'.cell? ⟨nb, 0 + 1, none⟩ = some (.int .i64 n2) ∧ w'.cell? ⟨nb, 0 + 2, none⟩ = some (.int .i64 n3)) ∧ (w'.cell? ⟨g, off + (k - 1) * 3, none⟩ = some (.int .i64 y1) ∧ w'.cell? ⟨g, off + (k - 1) * 3 + 1, none⟩ = some (.int .i64 y2) ∧ w'.cell? ⟨g, off + (k - 1) * 3 + 2, none⟩ = some (.int .i64 y3))) (exact ⟨HY.out _ (HBv7.out.trans (hBc.mono HBv7.out.size)), HX.out _ (HBv7.out.trans (hBc.mono HBv7.out.size)), HQ7.out.below hBc (Nat.le_refl _), MoveAt.below HNB7.out hBc (Nat.le_refl _), HYW7.out.below3 hBc (Nat.le_refl _)⟩) (first
            | (go_at_call 9; refine (HCQk.out _ _ _ _ (HB.out.trans ((HBv7.out.trans (hBc.mono HBv7.out.size)).mono HB.out.size)) (HPI7.out.below hBc (Nat.le_refl _))).mono ?_; rintro e w8 ⟨rfl, hb⟩; have hBc := hBc.trans (hb.mono hBc.size); clear hb))
          have HBE := Lib.hid (HBl7.out.trans (hBc.mono HBl7.out.size))
          clear hBc
          go_wp2_with fail
          go_roundw
          case rel => exact ⟨k + 1, by omega, by go_num, HBE⟩
          case measure => simp [intOf]; omega
      · obtain rfl : k = ln := by omega
        have HBw := Lib.hid (HB.out.trans (hbv.mono HB.out.size))
        have HBv := Lib.hid hbv
        have HBL := Lib.hid hbel.out
        obtain ⟨x0, x1, x2, x3, x4⟩ := HX.out _ hbv
        obtain ⟨z0, z1, z2, z3, z4, z5, z6, z7, z8, z9, z10⟩ := HY.out _ hbv
        obtain ⟨g0, g1, g2⟩ := HM.out _ hbv
        clear hbv hbel HCQ1 HEL HALL HNX
        cases hl : legalB r p (m1, m2, m3)
        · clear HAF1
          go_wp2_with fail
          go_at_call 13; refine (HAN1.out (m1, m2, m3) hl _ HBw.out).mono ?_; rintro e w6 ⟨rfl, hb⟩
          have HBv6 := Lib.hid (HBv.out.trans (hb.mono HBv.out.size))
          have HBl6 := Lib.hid (HBL.out.trans (hb.mono HBL.out.size))
          clear hb HBw HBv HBL x0 x1 x2 x3 x4 z0 z1 z2 z3 z4 z5 z6 z7 z8 z9 z10 g0 g1 g2
          have hal := (Below.refl w6.heap.size w6).alloc (Nat.le_refl _) (.cells #[.slice none 0 0, .slice none 0 0, .slice none 0 0, .int .i64 0, .int .i64 0] 29)
          have HBv7 := Lib.hid (HBv6.out.trans (hal.mono HBv6.out.size))
          have HBl7 := Lib.hid (HBl6.out.trans (hal.mono HBl6.out.size))
          clear hal HBv6 HBl6
          obtain ⟨x0, x1, x2, x3, x4⟩ := HX.out _ HBv7.out
          obtain ⟨z0, z1, z2, z3, z4, z5, z6, z7, z8, z9, z10⟩ := HY.out _ HBv7.out
          obtain ⟨g0, g1, g2⟩ := HM.out _ HBv7.out
          have HBw7 := Lib.hid (HB.out.trans (HBv7.out.mono HB.out.size))
          go_wp2_with fail
          generalize w6.alloc (.cells #[.slice none 0 0, .slice none 0 0, .slice none 0 0, .int .i64 0, .int .i64 0] 29) = w7 at HBv7 HBl7 HBw7 x0 x1 x2 x3 x4 z0 z1 z2 z3 z4 z5 z6 z7 z8 z9 z10 g0 g1 g2 ⊢
          generalize w6.heap.size = qb
          go_at_call 14; refine (HLE1.out _ HBw7.out).mono ?_; rintro e w8 ⟨rfl, hb⟩
          have HBv8 := Lib.hid (HBv7.out.trans (hb.mono HBv7.out.size))
          have HBl8 := Lib.hid (HBl7.out.trans (hb.mono HBl7.out.size))
          clear hb HBw7 HBv7 HBl7 x0 x1 x2 x3 x4 z0 z1 z2 z3 z4 z5 z6 z7 z8 z9 z10 g0 g1 g2
          rw [hl]
          obtain ⟨g0, g1, g2⟩ := HM.out _ HBv8.out
          have HI8 := Lib.hid (HI5.out.below move_keeps HBl8.out (Nat.le_refl _))
          go_wp2_with fail
          go_at_call 15; refine (HCO1.out _ _ _ _ HI8.out).mono ?_; rintro e w9 ⟨rfl, hb⟩
          have HBE := Lib.hid (HB.out.trans ((HBv8.out.trans (hb.mono HBv8.out.size)).mono HB.out.size))
          clear hb g0 g1 g2
          rw [hl]
          go_wp2_with fail
          go_ret
          exact ⟨rfl, HBE.out⟩
        · clear HAN1
          go_wp2_with fail
          go_at_call 13; refine (HAF1.out (m1, m2, m3) hl _ HBw.out).mono ?_; rintro e w6 ⟨ca, cn, cc, a0, j0, k0, a1, j1, k1, rfl, -, hb⟩
          have HBv6 := Lib.hid (HBv.out.trans (hb.mono HBv.out.size))
          have HBl6 := Lib.hid (HBL.out.trans (hb.mono HBL.out.size))
          clear hb HBw HBv HBL x0 x1 x2 x3 x4 z0 z1 z2 z3 z4 z5 z6 z7 z8 z9 z10 g0 g1 g2
          have hal := (Below.refl w6.heap.size w6).alloc (Nat.le_refl _) (.cells #[.slice ca cn cc, .slice a0 j0 k0, .slice a1 j1 k1, .int .i64 (1 - p.turn), .int .i64 (afterD r p (m1, m2, m3)).quiet] 29)
          have HBv7 := Lib.hid (HBv6.out.trans (hal.mono HBv6.out.size))
          have HBl7 := Lib.hid (HBl6.out.trans (hal.mono HBl6.out.size))
          clear hal HBv6 HBl6
          obtain ⟨x0, x1, x2, x3, x4⟩ := HX.out _ HBv7.out
          obtain ⟨z0, z1, z2, z3, z4, z5, z6, z7, z8, z9, z10⟩ := HY.out _ HBv7.out
          obtain ⟨g0, g1, g2⟩ := HM.out _ HBv7.out
          have HBw7 := Lib.hid (HB.out.trans (HBv7.out.mono HB.out.size))
          go_wp2_with fail
          generalize w6.alloc (.cells #[.slice ca cn cc, .slice a0 j0 k0, .slice a1 j1 k1, .int .i64 (1 - p.turn), .int .i64 (afterD r p (m1, m2, m3)).quiet] 29) = w7 at HBv7 HBl7 HBw7 x0 x1 x2 x3 x4 z0 z1 z2 z3 z4 z5 z6 z7 z8 z9 z10 g0 g1 g2 ⊢
          generalize w6.heap.size = qb
          go_at_call 14; refine (HLE1.out _ HBw7.out).mono ?_; rintro e w8 ⟨rfl, hb⟩
          have HBv8 := Lib.hid (HBv7.out.trans (hb.mono HBv7.out.size))
          have HBl8 := Lib.hid (HBl7.out.trans (hb.mono HBl7.out.size))
          clear hb HBw7 HBv7 HBl7 x0 x1 x2 x3 x4 z0 z1 z2 z3 z4 z5 z6 z7 z8 z9 z10 g0 g1 g2
          rw [hl]
          obtain ⟨g0, g1, g2⟩ := HM.out _ HBv8.out
          have HI8 := Lib.hid (HI5.out.below move_keeps HBl8.out (Nat.le_refl _))
          go_wp2_with fail
          go_at_call 15; refine (HCO1.out _ _ _ _ HI8.out).mono ?_; rintro e w9 ⟨rfl, hb⟩
          have HBE := Lib.hid (HB.out.trans ((HBv8.out.trans (hb.mono HBv8.out.size)).mono HB.out.size))
          clear hb g0 g1 g2
          rw [hl]
          go_wp2_with fail
          go_ret
          exact ⟨rfl, HBE.out⟩
  · have HLB1 := Lib.hid (HLB.out hz)
    have hne : (c != 0) = true := by simpa using hz
    clear HLG HAF HAN HCQ HLE HCO HT HLN HLB HOK hz
    go_at_call 12; refine (HLB1.out _ HB4.out).mono ?_; rintro e w5 ⟨rfl, hb⟩
    have HB5 := Lib.hid (HB4.out.trans (hb.mono HB4.out.size))
    clear hb HB4 HLB1
    go_wp2_with fail
    go_ret
    exact ⟨rfl, HB5.out⟩
end Go.Proofs.Ythbilpgecombiaa
