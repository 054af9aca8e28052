/- The statements' own plays: that the program plays three in a row. -/
import Derived.Test.YtdhhdkbnlddnbaaGreatDoorPlayD
import Derived.Test.YtdhhdkbnlddnbaaGreatDoorOthA
import Derived.Deep.CutRange
import Derived.Test.YtdhhdkbnlddnbaaGreatDoorFine
set_option maxRecDepth 100000
namespace Go.Proofs.YtdhhdkbnlddnbaaGreatDoor
open Go.ChangeShapes Go.WideShapes Go.ChangeAt Go.RowKit

theorem put_any (s : Int) (w : World) : Calls Tryz.prog 9 #[.int .i64 s] w fun e w' => e = .returned (.agg #[.int .i64 (-1), .int .i64 s, .int .i64 0]) ∧ Below w.heap.size w w' := by
  go_enter Tryz.func9, Tryz.ntmps9
  go_wp2_with fail
  refine bodyPost_ret (results_cell_row rfl _ _ w.heap.size 37 _ (0, 0) _ rfl (heap_alloc_new w (.cells #[.int .i64 (-1), .int .i64 s, .int .i64 0] 37)) Tryz.underlying37 rfl (by kernel_rfl)) rfl ?_
  exact ⟨rfl, (Below.refl _ _).alloc (Nat.le_refl _) _⟩
theorem fine4 (W : World) (g : Nat) (hg : g = W.heap.size) : Calls Tryz.prog 14 #[.slice (some ⟨g, 0, none⟩) 4 4] (W.alloc (.cells #[.int .i64 0, .int .i64 0, .int .i64 0, .int .i64 0] 31)) fun e w' => e = .returned (.bool true) ∧ Below W.heap.size W w' := by
  have hc : ∀ i, (W.alloc (.cells #[.int .i64 0, .int .i64 0, .int .i64 0, .int .i64 0] 31)).cell? ⟨g, i, none⟩ = (#[.int .i64 0, .int .i64 0, .int .i64 0, .int .i64 0] : Array Value)[i]? := fun i => by rw [hg]; exact cell_of_row _ W.heap.size i _ _ (0, 0) (heap_alloc_new W _)
  refine (fine_zeros g 4 _ (fun k hk => ?_) (by decide)).mono ?_
  · obtain rfl | rfl | rfl | rfl : k = 0 ∨ k = 1 ∨ k = 2 ∨ k = 3 := by omega
    · exact hc 0
    · exact hc 1
    · exact hc 2
    · exact hc 3
  rintro e w' ⟨rfl, rfl⟩
  exact ⟨rfl, (Below.refl _ _).alloc (Nat.le_refl _) _⟩
def BegP (w : World) (e : Ending) (w' : World) : Prop := ∃ ca cn cc a0 n0 c0 a1 n1 c1, e = .returned (.tuple #[.agg #[.slice ca cn cc, .slice a0 n0 c0, .slice a1 n1 c1, .int .i64 0, .int .i64 0], .int .i64 0]) ∧ PlaceIn w' b9 (.slice ca cn cc) (.slice a0 n0 c0) (.slice a1 n1 c1) ∧ Below w.heap.size w w'
theorem begin9 (vp vs ve : Value) (w : World) (hr : RulesIn w three9 vp vs ve) : Calls Tryz.prog 33 #[RulesV three9 vp vs ve] w (BegP w) := by
  refine (begin_ok three9 vp vs ve w hr three9_ok).mono ?_
  rintro e w' ⟨vc, v0, v1, rfl, hi, hb⟩
  rw [b9_eq] at hi
  obtain ⟨ca, cn, cc, rfl⟩ := hi.c.form
  obtain ⟨a0, n0, c0, rfl⟩ := hi.a.form
  obtain ⟨a1, n1, c1, rfl⟩ := hi.b.form
  exact ⟨ca, cn, cc, a0, n0, c0, a1, n1, c1, rfl, hi, hb⟩
def All9 (w : World) (e : Ending) (w' : World) : Prop := ∃ g o c, e = .returned (.tuple #[.slice (some ⟨g, o, none⟩) 9 c, .int .i64 0]) ∧ 9 ≤ c ∧ MoveAt w' g (o + 8 * 3) (-1, 8, 0) ∧ Below w.heap.size w w'
theorem all9 (vp vs ve vc v0 v1 : Value) (w : World) (hr : RulesIn w three9 vp vs ve) (hp : PlaceIn w b9 vc v0 v1) : Calls Tryz.prog 34 #[RulesV three9 vp vs ve, PlaceV b9 vc v0 v1] w (All9 w) := by
  refine (all_ok three9 b9 vp vs ve vc v0 v1 w hr hp b9_ok).mono ?_
  rintro e w' ⟨a, n, c, rfl, hi, rfl, hb⟩
  rw [l9_eq] at hi
  rcases hi with ⟨h, _⟩ | ⟨g, off, cap, e1, _, e3, _, hc⟩
  · cases h
  · simp only [Value.slice.injEq] at e1
    obtain ⟨rfl, _, rfl⟩ := e1
    exact ⟨g, off, c, by rw [l9_eq]; rfl, e3, hc 8 _ rfl, hb⟩
theorem after9 (vp vs ve vc v0 v1 : Value) (w : World) (hr : RulesIn w three9 vp vs ve) (hp : PlaceIn w b9 vc v0 v1) : Calls Tryz.prog 17 #[RulesV three9 vp vs ve, PlaceV b9 vc v0 v1, .agg #[.int .i64 (-1), .int .i64 4, .int .i64 0]] w (MadeP q9 w) := by
  refine (After_any three9 b9 vp vs ve vc v0 v1 (-1, 4, 0) w hr hp).mono ?_
  rintro e w' (⟨_, h⟩ | ⟨h, _⟩)
  · rw [q9_eq] at h; exact h
  · exact absurd a9_eq h
theorem legal9 (vp vs ve vc v0 v1 : Value) (w : World) (hr : RulesIn w three9 vp vs ve) (hp : PlaceIn w b9 vc v0 v1) : Calls Tryz.prog 35 #[RulesV three9 vp vs ve, PlaceV b9 vc v0 v1, .agg #[.int .i64 (-1), .int .i64 9, .int .i64 0]] w (LegPost false 0 w) := by
  have h := legal_any three9 b9 vp vs ve vc v0 v1 (-1, 9, 0) w hr hp
  rw [i9_eq, e9_eq] at h
  exact h
theorem made_new {w5 u3 uc : World} {da d0 d1 : Option Addr} {dn dc m0 e0 m1 e1 : Nat} (hB : Below w5.heap.size w5 u3) (hp : PlaceF (fun k => uc.heap.size ≤ k) u3 q9 (.slice da dn dc) (.slice d0 m0 e0) (.slice d1 m1 e1)) :
    ∃ nb da' dn' dc' d0' m0' e0' d1' m1' e1', Value.pointer (some ⟨u3.heap.size, 0, none⟩) = .pointer (some ⟨nb, 0, none⟩) ∧ Value.int .i64 0 = .int .i64 0 ∧ Hid (Below w5.heap.size w5 (u3.alloc (.cells #[.slice da dn dc, .slice d0 m0 e0, .slice d1 m1 e1, .int .i64 q9.turn, .int .i64 q9.quiet] 29))) ∧ Hid (BoxP (u3.alloc (.cells #[.slice da dn dc, .slice d0 m0 e0, .slice d1 m1 e1, .int .i64 q9.turn, .int .i64 q9.quiet] 29)) nb q9 (.slice da' dn' dc') (.slice d0' m0' e0') (.slice d1' m1' e1')) ∧ Hid (PlaceIn (u3.alloc (.cells #[.slice da dn dc, .slice d0 m0 e0, .slice d1 m1 e1, .int .i64 q9.turn, .int .i64 q9.quiet] 29)) q9 (.slice da' dn' dc') (.slice d0' m0' e0') (.slice d1' m1' e1')) :=
  ⟨_, da, dn, dc, d0, m0, e0, d1, m1, e1, rfl, rfl, Lib.hid (hB.alloc hB.size _), Lib.hid (boxP_new u3 q9 _ _ _ _), Lib.hid (hp.plain.below ((Below.refl _ _).alloc (Nat.le_refl _) _) (Nat.le_refl _))⟩
theorem made_fill {w5 u3 uc : World} {nb : Nat} {da d0 d1 : Option Addr} {dn dc m0 e0 m1 e1 : Nat} (hB : Below w5.heap.size w5 u3) (hp : PlaceF (fun k => uc.heap.size ≤ k) u3 q9 (.slice da dn dc) (.slice d0 m0 e0) (.slice d1 m1 e1)) (hA : u3.heap[nb]? = some (.cells #[.slice none 0 0, .slice none 0 0, .slice none 0 0, .int .i64 0, .int .i64 0] 29 (0, 0))) (hlt : nb < uc.heap.size) (hge : w5.heap.size ≤ nb) :
    ∃ nb' da' dn' dc' d0' m0' e0' d1' m1' e1', Value.pointer (some ⟨nb, 0, none⟩) = .pointer (some ⟨nb', 0, none⟩) ∧ Value.int .i64 0 = .int .i64 0 ∧ Hid (Below w5.heap.size w5 (fillP u3 nb q9 (.slice da dn dc) (.slice d0 m0 e0) (.slice d1 m1 e1))) ∧ Hid (BoxP (fillP u3 nb q9 (.slice da dn dc) (.slice d0 m0 e0) (.slice d1 m1 e1)) nb' q9 (.slice da' dn' dc') (.slice d0' m0' e0') (.slice d1' m1' e1')) ∧ Hid (PlaceIn (fillP u3 nb q9 (.slice da dn dc) (.slice d0 m0 e0) (.slice d1 m1 e1)) q9 (.slice da' dn' dc') (.slice d0' m0' e0') (.slice d1' m1' e1')) := by
  have hR : PBox u3 nb 29 zeroP (.slice none 0 0) (.slice none 0 0) (.slice none 0 0) := hA
  have h1 := pbox_fill (p := q9) (vc := .slice da dn dc) (v0 := .slice d0 m0 e0) (v1 := .slice d1 m1 e1) hR
  have h2 := fillP_other u3 nb q9 (.slice da dn dc) (.slice d0 m0 e0) (.slice d1 m1 e1)
  exact ⟨nb, da, dn, dc, d0, m0, e0, d1, m1, e1, rfl, rfl, Lib.hid (fillP_below hB hge q9 _ _ _), Lib.hid h1.facts.1, Lib.hid (hp.on (e := fun _ => True) (fun k hk _ => h2.1 k (by omega)) (fun _ _ => trivial)).plain⟩
set_option maxHeartbeats 8000000 in
theorem plays_any (w : World) : Calls Tryz.prog 15 #[] w (BelPost (.bool true) w) := by
  have HBG := Lib.hid begin9
  have HAL := Lib.hid all9
  have HAF := Lib.hid after9
  have HLE := Lib.hid legal9
  unfold PlaceV PlaceCells b9 at HAL HAF HLE
  dsimp only at HAL HAF HLE
  go_enter Tryz.func15, Tryz.ntmps15
  go_wp2_with fail
  go_at_call 7; refine (three_keep _).mono ?_; rintro e w1 ⟨vp1, vs1, ve1, rfl, hin, hb⟩
  have HB1 := Lib.hid hb
  have HI1 := Lib.hid hin
  clear hb hin
  go_wp2_with fail
  go_at_call 33; refine (HBG.out _ _ _ _ HI1.out).mono ?_; rintro e w2 ⟨ca, cn, cc, a0, n0, c0, a1, n1, c1, rfl, hpn, hb⟩
  have HB2 := Lib.hid (HB1.out.trans (hb.mono HB1.out.size))
  have HN2 := Lib.hid hpn
  clear hb hpn HB1 HI1 HBG
  go_wp2_with fail
  have hal := (Below.refl w2.heap.size w2).alloc (Nat.le_refl _) (.cells #[.slice ca cn cc, .slice a0 n0 c0, .slice a1 n1 c1, .int .i64 0, .int .i64 0] 29)
  have HB3 := Lib.hid (HB2.out.trans (hal.mono HB2.out.size))
  have HN3 := Lib.hid (HN2.out.below hal (Nat.le_refl _))
  have HQ3 := Lib.hid (boxP_new w2 b9 (.slice ca cn cc) (.slice a0 n0 c0) (.slice a1 n1 c1) 29)
  have hqlt : w2.heap.size < (w2.alloc (.cells #[.slice ca cn cc, .slice a0 n0 c0, .slice a1 n1 c1, .int .i64 0, .int .i64 0] 29)).heap.size := by simp
  unfold PlaceCells b9 at HQ3
  clear hal HB2 HN2
  generalize w2.alloc (.cells #[.slice ca cn cc, .slice a0 n0 c0, .slice a1 n1 c1, .int .i64 0, .int .i64 0] 29) = w3 at HB3 HN3 HQ3 hqlt ⊢
  generalize w2.heap.size = qb at HQ3 hqlt ⊢
  have HQL := Lib.hid hqlt
  clear hqlt
  obtain ⟨q0, q1, q2, q3, q4⟩ := HQ3.out
  have hBc : Below w3.heap.size w3 w3.drew := (Below.refl _ _).drew
  go_region_held3 (fun w' => w'.cell? ⟨qb, 0, none⟩ = some (.slice ca cn cc) ∧ w'.cell? ⟨qb, 1, none⟩ = some (.slice a0 n0 c0) ∧ w'.cell? ⟨qb, 2, none⟩ = some (.slice a1 n1 c1) ∧ w'.cell? ⟨qb, 3, none⟩ = some (.int .i64 0) ∧ w'.cell? ⟨qb, 4, none⟩ = some (.int .i64 0)) (exact HQ3.out.below hBc (Nat.le_refl _)) (first
    | (go_at_call 7; refine (three_keep _).mono ?_; rintro e w4 ⟨vp4, vs4, ve4, rfl, hin, hb⟩; have hBc := hBc.trans (hb.mono hBc.size); clear hb)
    | (go_at_call 34; refine (HAL.out _ _ _ _ _ _ _ hin (HN3.out.below hBc (Nat.le_refl _))).mono ?_; rintro e w5 ⟨lg, lo, lc, rfl, hlc, hl8, hb⟩; have hBc := hBc.trans (hb.mono hBc.size); clear hb))
  have HB5 := Lib.hid (HB3.out.trans (hBc.mono HB3.out.size))
  have HQ5 := Lib.hid (HQ3.out.below hBc (Nat.le_refl _))
  have HN5 := Lib.hid (HN3.out.below hBc (Nat.le_refl _))
  have HL5 := Lib.hid hl8
  have hqlt : qb < w5.heap.size := Nat.lt_of_lt_of_le HQL.out hBc.size
  clear hBc hin hl8 HB3 HN3 HQ3 HQL HAL q0 q1 q2 q3 q4
  go_wp2_with fail
  go_cut [5, 6] from 20 to 26 (fun s5 s6 wx => ∃ nb da dn dc d0 m0 e0 d1 m1 e1, s5 = .pointer (some ⟨nb, 0, none⟩) ∧ s6 = .int .i64 0 ∧ Hid (Below w5.heap.size w5 wx) ∧ Hid (BoxP wx nb q9 (.slice da dn dc) (.slice d0 m0 e0) (.slice d1 m1 e1)) ∧ Hid (PlaceIn wx q9 (.slice da dn dc) (.slice d0 m0 e0) (.slice d1 m1 e1)))
  case first =>
    have m5 := off_of hqlt
    obtain ⟨q0, q1, q2, q3, q4⟩ := HQ5.out
    go_region_held3 (fun w' => w'.cell? ⟨qb, 0, none⟩ = some (.slice ca cn cc) ∧ w'.cell? ⟨qb, 1, none⟩ = some (.slice a0 n0 c0) ∧ w'.cell? ⟨qb, 2, none⟩ = some (.slice a1 n1 c1) ∧ w'.cell? ⟨qb, 3, none⟩ = some (.int .i64 0) ∧ w'.cell? ⟨qb, 4, none⟩ = some (.int .i64 0)) (go_keep) (first
      | (have t := hB2; go_at_call 17; refine (HAF.out _ _ _ _ _ _ _ (by first | exact hin2 | exact hin2.below ((Below.refl _ _).alloc (Nat.le_refl _) _) (Nat.le_refl _)) (by first | exact HN5.out.below hB2 (Nat.le_refl _) | exact (HN5.out.below hB2 (Nat.le_refl _)).below ((Below.refl _ _).alloc (Nat.le_refl _) _) (Nat.le_refl _))).mono ?_; rintro e u3 ⟨da, dn, dc, d0, m0, e0, d1, m1, e1, rfl, hpf, hb3⟩; have hB23 : Below u2.heap.size u2 u3 := (by first | exact hb3 | exact ((Below.refl u2.heap.size u2).alloc (Nat.le_refl _) _).trans (hb3.mono (by simp))); have hB3 := hB2.trans (hB23.mono hB2.size); obtain ⟨k0, k1, k2, k3, k4⟩ := HQ5.out.below hB3 (Nat.le_refl _); have m8 := off_of (Nat.lt_of_lt_of_le hqlt hB3.size); first | (have hA3 := hA_on hA2 hb3; obtain ⟨b0, b1, b2, b3, b4, f0, f1, f2, f3, f4⟩ := five_facts hA3) | (have hA3 : u3.heap[u2.heap.size]? = some (.cells #[.slice none 0 0, .slice none 0 0, .slice none 0 0, .int .i64 0, .int .i64 0] 29 (0, 0)) := hA_of hb3; obtain ⟨b0, b1, b2, b3, b4, f0, f1, f2, f3, f4⟩ := five_facts hA3) | skip)
      | (have t := hB1; go_at_call 9; refine (put_any _ _).mono ?_; rintro e u2 ⟨rfl, hb2⟩; have hB12 : Below u1.heap.size u1 u2 := (by first | exact hb2 | exact ((Below.refl u1.heap.size u1).alloc (Nat.le_refl _) _).trans (hb2.mono (by simp))); have hB2 := hB1.trans (hB12.mono hB1.size); have hin2 := hin.below hB12 (Nat.le_refl _); obtain ⟨k0, k1, k2, k3, k4⟩ := HQ5.out.below hB2 (Nat.le_refl _); have m7 := off_of (Nat.lt_of_lt_of_le hqlt hB2.size); first | (have hA2 := hA_on hA1 hb2) | (have hA2 : u2.heap[u1.heap.size]? = some (.cells #[.slice none 0 0, .slice none 0 0, .slice none 0 0, .int .i64 0, .int .i64 0] 29 (0, 0)) := hA_of hb2) | skip)
      | (go_at_call 7; refine (three_keep _).mono ?_; rintro e u1 ⟨vp4, vs4, ve4, rfl, hin, hb1⟩; have hB1 : Below w5.heap.size w5 u1 := (by first | exact (Below.refl w5.heap.size w5).drew.trans hb1 | exact ((Below.refl w5.heap.size w5).drew.alloc (Nat.le_refl _) _).trans (hb1.mono (by simp))); obtain ⟨k0, k1, k2, k3, k4⟩ := HQ5.out.below hB1 (Nat.le_refl _); have m6 := off_of (Nat.lt_of_lt_of_le hqlt hB1.size); try (have hA1 : u1.heap[w5.heap.size]? = some (.cells #[.slice none 0 0, .slice none 0 0, .slice none 0 0, .int .i64 0, .int .i64 0] 29 (0, 0)) := hA_dr hb1)))
    all_goals
      go_wp2_with fail
      go_meet
      first
        | (have t := hA3; exact made_fill hB3 hpf hA3 (by first | exact (Array.getElem?_eq_some_iff.1 hA2).1 | exact Nat.lt_of_lt_of_le (Array.getElem?_eq_some_iff.1 hA2).1 (by simp) | (rw [World.size_alloc]; exact Nat.lt_succ_self _)) (by first | exact Nat.le_refl _ | exact hB1.size | exact hB2.size))
        | exact made_new hB3 hpf
  case rest =>
    obtain ⟨nb, da, dn, dc, d0, m0, e0, d1, m1, e1, rfl, rfl, hBc, hbx, hpi⟩ := hcut
    have HB6 := Lib.hid (HB5.out.trans (hBc.out.mono HB5.out.size))
    have HQ6 := Lib.hid (HQ5.out.below hBc.out (Nat.le_refl _))
    have HN6 := Lib.hid (HN5.out.below hBc.out (Nat.le_refl _))
    have HL6 := Lib.hid (move_keeps _ _ _ _ _ _ hBc.out (Nat.le_refl _) HL5.out)
    have HX6 := hbx
    obtain ⟨dg, dof, dcap, hdv, hdc, hdcell⟩ := ints_open hpi.out.c (by decide)
    obtain ⟨rfl, rfl, rfl⟩ : da = some ⟨dg, dof, none⟩ ∧ dn = 9 ∧ dc = dcap := by
      simp only [Value.slice.injEq] at hdv
      exact hdv
    have HD6 : Hid (wc.cell? ⟨dg, dof + 4, none⟩ = some (.int .i64 1)) := Lib.hid (hdcell 4 (by decide))
    have hdc9 : 9 ≤ dc := hdc
    clear HB5 HQ5 HN5 HL5 hBc hbx hpi hdv hdc hdcell HAF hqlt
    obtain ⟨q0, q1, q2, q3, q4⟩ := HQ6.out
    have hBc : Below wc.heap.size wc wc.drew := (Below.refl _ _).drew
    go_wp2_with fail
    go_region_held3 (fun w' => w'.cell? ⟨qb, 0, none⟩ = some (.slice ca cn cc) ∧ w'.cell? ⟨qb, 1, none⟩ = some (.slice a0 n0 c0) ∧ w'.cell? ⟨qb, 2, none⟩ = some (.slice a1 n1 c1) ∧ w'.cell? ⟨qb, 3, none⟩ = some (.int .i64 0) ∧ w'.cell? ⟨qb, 4, none⟩ = some (.int .i64 0)) (exact HQ6.out.below hBc (Nat.le_refl _)) (first
      | (go_at_call 7; refine (three_keep _).mono ?_; rintro e u1 ⟨vp4, vs4, ve4, rfl, hin, hb⟩; have hBc := hBc.trans (hb.mono hBc.size))
      | (go_at_call 9; refine (put_any _ _).mono ?_; rintro e u2 ⟨rfl, hb⟩; have hin := hin.below hb (Nat.le_refl _); have hBc := hBc.trans (hb.mono hBc.size); clear hb)
      | (go_at_call 35; refine (HLE.out _ _ _ _ _ _ _ hin (HN6.out.below hBc (Nat.le_refl _))).mono ?_; rintro e u3 ⟨rfl, hb⟩; have hBc := hBc.trans (hb.mono hBc.size); clear hb))
    have HB7 := Lib.hid (HB6.out.trans (hBc.mono HB6.out.size))
    have HL7 := Lib.hid (move_keeps _ _ _ _ _ _ hBc (Nat.le_refl _) HL6.out)
    have HX7 := Lib.hid (HX6.out.below hBc (Nat.le_refl _))
    have HD7 := Lib.hid (cell_keeps hBc (Nat.le_refl _) HD6.out)
    clear hBc hin HB6 HL6 HX6 HD6 HQ6 HN6 HLE q0 q1 q2 q3 q4
    go_wp2_with fail
    have heq := eqMove
    have hgd := guardMove
    have hss : sameM (-1, 8, 0) (-1, 8, 0) = true := sameM_eq rfl
    obtain ⟨c0, c1, c2⟩ : u3.cell? ⟨lg, lo + 8 * 3, none⟩ = some (.int .i64 (-1)) ∧ u3.cell? ⟨lg, lo + 8 * 3 + 1, none⟩ = some (.int .i64 8) ∧ u3.cell? ⟨lg, lo + 8 * 3 + 2, none⟩ = some (.int .i64 0) := HL7.out
    obtain ⟨x0, x1, x2, x3, x4⟩ := HX7.out
    have d0' := HD7.out
    have hBc : Below u3.heap.size u3 u3.drew := (Below.refl _ _).drew
    go_region_held3 (fun w' => (w'.cell? ⟨lg, lo + 8 * 3, none⟩ = some (.int .i64 (-1)) ∧ w'.cell? ⟨lg, lo + 8 * 3 + 1, none⟩ = some (.int .i64 8) ∧ w'.cell? ⟨lg, lo + 8 * 3 + 2, none⟩ = some (.int .i64 0)) ∧ w'.cell? ⟨nb, 0, none⟩ = some (.slice (some ⟨dg, dof, none⟩) 9 dc) ∧ w'.cell? ⟨dg, dof + 4, none⟩ = some (.int .i64 1)) (go_keep) (first
      | (go_at_call 14; refine (fine4 u3.drew _ rfl).mono ?_; rintro e u4 ⟨rfl, hb⟩; have hBc := hBc.trans (hb.mono hBc.size); clear hb; obtain ⟨k0, k3, k4⟩ : u4.cell? ⟨lg, lo + 8 * 3, none⟩ = some (.int .i64 (-1)) ∧ u4.cell? ⟨lg, lo + 8 * 3 + 1, none⟩ = some (.int .i64 8) ∧ u4.cell? ⟨lg, lo + 8 * 3 + 2, none⟩ = some (.int .i64 0) := move_keeps _ _ _ _ _ _ hBc (Nat.le_refl _) HL7.out; have k1 := (HX7.out.below hBc (Nat.le_refl _)).1; have k2 := cell_keeps hBc (Nat.le_refl _) HD7.out)
      | (go_at_call 9; refine (put_any _ _).mono ?_; rintro e u5 ⟨rfl, hb⟩; have hBc := hBc.trans (hb.mono hBc.size); clear hb; obtain ⟨k0, k3, k4⟩ : u5.cell? ⟨lg, lo + 8 * 3, none⟩ = some (.int .i64 (-1)) ∧ u5.cell? ⟨lg, lo + 8 * 3 + 1, none⟩ = some (.int .i64 8) ∧ u5.cell? ⟨lg, lo + 8 * 3 + 2, none⟩ = some (.int .i64 0) := move_keeps _ _ _ _ _ _ hBc (Nat.le_refl _) HL7.out; have k1 := (HX7.out.below hBc (Nat.le_refl _)).1; have k2 := cell_keeps hBc (Nat.le_refl _) HD7.out))
    have HB8 := Lib.hid (HB7.out.trans (hBc.mono HB7.out.size))
    clear hBc
    go_wp2_with fail
    go_ret
    exact ⟨rfl, HB8.out⟩
end Go.Proofs.YtdhhdkbnlddnbaaGreatDoor
