/- Games: Result, Play. (Written by gengmm.py.) -/
import Derived.Test.YtomclohfppbegaaGreatDoorGmeD
import Derived.Test.YtomclohfppbegaaGreatDoorAftA
import Derived.Test.YtomclohfppbegaaGreatDoorEndA
import Derived.Deep.AppendLies
import Derived.BigQuiet
set_option maxRecDepth 100000
namespace Go.Proofs.YtomclohfppbegaaGreatDoor
open Go.ChangeShapes Go.WideShapes Go.ChangeAt Go.RowKit

set_option maxHeartbeats 4000000 in
theorem gresult {W1 : Nat → Prop} {D : Nat → Prop} {W : World} {bb : Nat} {r : RulesD} {q : PlaceD} {es : List PlaceD} {ms : List MoveD} (h : Gme W1 D W bb r q es ms) (hle : es.length ≤ 100) :
    Calls Tryz.prog 13 #[.pointer (some ⟨bb, 0, none⟩)] W (BelPost (.int .i64 (resG r q es)) W) := by
  obtain ⟨N, hN⟩ : ∃ N, N = countG q es := ⟨_, rfl⟩
  have hN1 : N ≤ 1001 := by have := (countG_le q es).2; omega
  have HCT : Hid (∀ W', Below W.heap.size W W' → Calls Tryz.prog 39 #[.pointer (some ⟨bb, 0, none⟩)] W' (BelPost (.int .i64 (N : Int)) W')) := Lib.hid (fun W' hb => by rw [hN]; exact gcount_any (h.keep hb) (by omega))
  obtain ⟨X, hXX⟩ : ∃ X, X = resultD r q := ⟨_, rfl⟩
  have HRG : Hid (resG r q es = if X = 0 ∧ r.rep ≠ 0 ∧ r.rep ≤ (N : Int) then 3 else X) := Lib.hid (by rw [hXX, hN]; rfl)
  obtain ⟨vp, vs, ve, vc, v0, v1, ea, en, ec, ma, mn, mk, news, hv⟩ := h
  have HC : Hid (∀ W', Below W.heap.size W W' → Calls Tryz.prog 38 #[RulesV r vp vs ve, PlaceV q vc v0 v1] W' (OfPost (resultD r q) 0 W')) := Lib.hid (fun W' hb => by
    have hk := hv.keep hb
    exact of_ok r q vp vs ve vc v0 v1 W' (hk.rules W' (fun _ _ _ => rfl) (Nat.le_refl _)) hk.now.plain hk.ok (hk.dir W' (fun _ _ _ => rfl) (Nat.le_refl _)))
  have HG : Hid (∀ W', Below W.heap.size W W' → Got16 W' bb r vp vs ve q vc v0 v1) := Lib.hid (fun W' hb => gotG hv.row hb)
  unfold Got16 at HG
  obtain ⟨y0, y1, y2, y3, y4, y5, y6, y7, y8, y9, y10, x0, x1, x2, x3, x4⟩ := HG.out W (Below.refl _ _)
  unfold RulesV PlaceV PlaceCells at HC
  rw [← hXX] at HC
  clear hv hN hXX hle
  go_enter Tryz.func13, Tryz.ntmps13
  go_wp2_with fail
  have hBc : Below W.heap.size W W.drew := (Below.refl _ _).drew
  go_region_held3 (fun w' => w'.cell? ⟨bb, 0, none⟩ = some (.string r.name) ∧ w'.cell? ⟨bb, 1, none⟩ = some (.int .i64 r.width) ∧ w'.cell? ⟨bb, 2, none⟩ = some (.int .i64 r.height) ∧ w'.cell? ⟨bb, 3, none⟩ = some (vp) ∧ w'.cell? ⟨bb, 4, none⟩ = some (vs) ∧ w'.cell? ⟨bb, 5, none⟩ = some (.bool r.falls) ∧ w'.cell? ⟨bb, 6, none⟩ = some (.bool r.keeps) ∧ w'.cell? ⟨bb, 7, none⟩ = some (ve) ∧ w'.cell? ⟨bb, 8, none⟩ = some (.int .i64 r.blocked) ∧ w'.cell? ⟨bb, 9, none⟩ = some (.int .i64 r.quiet) ∧ w'.cell? ⟨bb, 10, none⟩ = some (.int .i64 r.rep) ∧ w'.cell? ⟨bb, 11, none⟩ = some (vc) ∧ w'.cell? ⟨bb, 12, none⟩ = some (v0) ∧ w'.cell? ⟨bb, 13, none⟩ = some (v1) ∧ w'.cell? ⟨bb, 14, none⟩ = some (.int .i64 q.turn) ∧ w'.cell? ⟨bb, 15, none⟩ = some (.int .i64 q.quiet)) (with_reducible exact HG.out _ hBc) (first
    | (go_at_call 38; refine (HC.out _ hBc).mono ?_; rintro e w5 ⟨rfl, hb⟩; have hB5 : Below W.heap.size W w5 := hBc.trans (hb.mono hBc.size); have hBc := hB5; clear hb))
  have HB := Lib.hid hB5
  have HG10 : Hid (∀ W', Below W.heap.size W W' → W'.cell? ⟨bb, 10, none⟩ = some (.int .i64 r.rep)) := Lib.hid (fun W' hb => (HG.out W' hb).2.2.2.2.2.2.2.2.2.2.1)
  clear hB5 HG HC y0 y1 y2 y3 y4 y5 y6 y7 y8 y9 y10 x0 x1 x2 x3 x4 hBc
  have y10 := HG10.out _ HB.out
  by_cases hX0 : X = 0
  · subst hX0
    by_cases hR : r.rep = 0
    · have hrb : (r.rep != 0) = false := by simpa using hR
      have HE : Hid (0 = resG r q es) := Lib.hid (by rw [HRG.out, if_neg (fun h => h.2.1 hR)])
      clear hR
      go_wp2_with fail
      go_quiet (fail)
      go_wp2_with fail
      go_ret
      exact ⟨ret_i64 HE.out, by first | exact below_drewN HB.out _ | exact HB.out.drew⟩
    · have hrb : (r.rep != 0) = true := by simpa using hR
      by_cases hL : r.rep ≤ (N : Int)
      · have hd : decide (r.rep ≤ (N : Int)) = true := decide_eq_true hL
        have hd2 : decide ((N : Int) ≥ r.rep) = true := decide_eq_true hL
        have HE : Hid (3 = resG r q es) := Lib.hid (by rw [HRG.out, if_pos ⟨rfl, hR, hL⟩])
        clear hR hL
        go_wp2_with fail
        have hBc : Below W.heap.size W w5.drew := HB.out.drew
        go_region_held3 (fun w' => w'.cell? ⟨bb, 10, none⟩ = some (.int .i64 r.rep)) (with_reducible exact (HG10.out _ hBc)) (first
        | (go_at_call 39; refine (HCT.out _ hBc).mono ?_; rintro e w6 ⟨rfl, hb⟩; have hB6 : Below W.heap.size W w6 := hBc.trans (hb.mono hBc.size); have hBc := hB6; clear hb))
        have HB6 := Lib.hid hB6
        clear hB6
        go_wp2_with fail
        go_ret
        exact ⟨ret_i64 HE.out, HB6.out⟩
      · have hd : decide (r.rep ≤ (N : Int)) = false := decide_eq_false hL
        have hd2 : decide ((N : Int) ≥ r.rep) = false := decide_eq_false hL
        have HE : Hid (0 = resG r q es) := Lib.hid (by rw [HRG.out, if_neg (fun h => hL h.2.2)])
        clear hR hL
        go_wp2_with fail
        have hBc : Below W.heap.size W w5.drew := HB.out.drew
        go_region_held3 (fun w' => w'.cell? ⟨bb, 10, none⟩ = some (.int .i64 r.rep)) (with_reducible exact (HG10.out _ hBc)) (first
        | (go_at_call 39; refine (HCT.out _ hBc).mono ?_; rintro e w6 ⟨rfl, hb⟩; have hB6 : Below W.heap.size W w6 := hBc.trans (hb.mono hBc.size); have hBc := hB6; clear hb))
        have HB6 := Lib.hid hB6
        clear hB6
        go_wp2_with fail
        go_ret
        exact ⟨ret_i64 HE.out, HB6.out⟩
  · have hxb : (X == 0) = false := by simpa using hX0
    have HE : Hid (X = resG r q es) := Lib.hid (by rw [HRG.out, if_neg (fun h => hX0 h.1)])
    clear hX0
    go_wp2_with fail
    go_quiet (fail)
    go_wp2_with fail
    go_ret
    exact ⟨ret_i64 HE.out, by first | exact below_drewN HB.out _ | exact HB.out.drew⟩

/-! ### Play -/
theorem gplay_over {W1 : Nat → Prop} {D : Nat → Prop} {W : World} {bb : Nat} {r : RulesD} {q : PlaceD} {es : List PlaceD} {ms : List MoveD} (h : Gme W1 D W bb r q es ms) (hle : es.length ≤ 100) (hx : resG r q es ≠ 0) (m : MoveD) :
    Calls Tryz.prog 15 #[.pointer (some ⟨bb, 0, none⟩), moveV m] W (BelPost (.int .i64 14) W) := by
  have hb0 : Below W.heap.size W (W.alloc (.cells #[.int .i64 m.1, .int .i64 m.2.1, .int .i64 m.2.2] 47)) := (Below.refl _ _).alloc (Nat.le_refl _) _
  have HB0 := Lib.hid hb0
  have HR := Lib.hid (gresult (h.keep hb0) hle)
  obtain ⟨x, hx2⟩ : ∃ x, x = resG r q es := ⟨_, rfl⟩
  rw [← hx2] at hx HR
  have hne : (x != 0) = true := by simpa using hx
  clear h hx hx2 hb0 hle
  unfold moveV
  go_enter Tryz.func15, Tryz.ntmps15
  go_wp2_with fail
  go_at_call 13; refine HR.out.mono ?_; rintro e w1 ⟨rfl, hb⟩
  have HB := Lib.hid (HB0.out.trans (hb.mono HB0.out.size))
  clear hb HR HB0
  go_wp2_with fail
  go_ret
  exact ⟨rfl, HB.out⟩
set_option maxHeartbeats 4000000 in
theorem gplay_bad {W1 : Nat → Prop} {D : Nat → Prop} {W : World} {bb : Nat} {r : RulesD} {q : PlaceD} {es : List PlaceD} {ms : List MoveD} (h : Gme W1 D W bb r q es ms) (hle : es.length ≤ 100) (hx : resG r q es = 0) (m : MoveD) (hl : legalB r q m = false) :
    Calls Tryz.prog 15 #[.pointer (some ⟨bb, 0, none⟩), moveV m] W (BelPost (.int .i64 13) W) := by
  obtain ⟨m1, m2, m3⟩ := m
  obtain ⟨U, hU⟩ : ∃ U, U = W.alloc (.cells #[.int .i64 m1, .int .i64 m2, .int .i64 m3] 47) := ⟨_, rfl⟩
  have hb0 : Below W.heap.size W U := by rw [hU]; exact (Below.refl _ _).alloc (Nat.le_refl _) _
  have hmv : U.heap[W.heap.size]? = some (.cells #[.int .i64 m1, .int .i64 m2, .int .i64 m3] 47 (0, 0)) := by rw [hU]; exact heap_alloc_new W _
  have HR : Hid (Calls Tryz.prog 13 #[.pointer (some ⟨bb, 0, none⟩)] U (BelPost (.int .i64 0) U)) := Lib.hid (by
    have h1 := gresult (h.keep hb0) hle
    rwa [hx] at h1)
  obtain ⟨vp, vs, ve, vc, v0, v1, ea, en, ec, ma, mn, mk, news, hv⟩ := h
  have HC : Hid (∀ W', Below U.heap.size U W' → Calls Tryz.prog 40 #[RulesV r vp vs ve, PlaceV q vc v0 v1, moveV (m1, m2, m3)] W' (PBad 13 W')) := Lib.hid (fun W' hb => by
    have hk := hv.keep (hb0.trans (hb.mono hb0.size))
    refine (After_any r q vp vs ve vc v0 v1 (m1, m2, m3) W' (hk.rules W' (fun _ _ _ => rfl) (Nat.le_refl _)) hk.now.plain).mono fun _ _ h2 => ?_
    have he : afterE r q (m1, m2, m3) = 13 := by rw [afterE, if_pos (placeE_iff.2 hv.ok), if_neg (by rw [hl]; simp)]
    rcases h2 with ⟨h2, _⟩ | ⟨_, h2⟩
    · rw [he] at h2; cases h2
    · rw [he] at h2; exact h2)
  have HG : Hid (∀ W', Below U.heap.size U W' → W'.cell? ⟨bb, 0, none⟩ = some (.string r.name) ∧ W'.cell? ⟨bb, 1, none⟩ = some (.int .i64 r.width) ∧ W'.cell? ⟨bb, 2, none⟩ = some (.int .i64 r.height) ∧ W'.cell? ⟨bb, 3, none⟩ = some (vp) ∧ W'.cell? ⟨bb, 4, none⟩ = some (vs) ∧ W'.cell? ⟨bb, 5, none⟩ = some (.bool r.falls) ∧ W'.cell? ⟨bb, 6, none⟩ = some (.bool r.keeps) ∧ W'.cell? ⟨bb, 7, none⟩ = some (ve) ∧ W'.cell? ⟨bb, 8, none⟩ = some (.int .i64 r.blocked) ∧ W'.cell? ⟨bb, 9, none⟩ = some (.int .i64 r.quiet) ∧ W'.cell? ⟨bb, 10, none⟩ = some (.int .i64 r.rep) ∧ W'.cell? ⟨bb, 11, none⟩ = some (vc) ∧ W'.cell? ⟨bb, 12, none⟩ = some (v0) ∧ W'.cell? ⟨bb, 13, none⟩ = some (v1) ∧ W'.cell? ⟨bb, 14, none⟩ = some (.int .i64 q.turn) ∧ W'.cell? ⟨bb, 15, none⟩ = some (.int .i64 q.quiet) ∧ W'.cell? ⟨W.heap.size, 0, none⟩ = some (.int .i64 m1) ∧ W'.cell? ⟨W.heap.size, 1, none⟩ = some (.int .i64 m2) ∧ W'.cell? ⟨W.heap.size, 2, none⟩ = some (.int .i64 m3)) := Lib.hid (fun W' hb => by
    have h16 := gotG hv.row (hb0.trans (hb.mono hb0.size))
    unfold Got16 at h16
    obtain ⟨y0, y1, y2, y3, y4, y5, y6, y7, y8, y9, y10, x0, x1, x2, x3, x4⟩ := h16
    have hm := bkeep hmv hb
    have hc : ∀ i, W'.cell? ⟨W.heap.size, i, none⟩ = (#[.int .i64 m1, .int .i64 m2, .int .i64 m3] : Array Value)[i]? := fun i => cell_of_row W' _ i _ _ (0, 0) hm
    exact ⟨y0, y1, y2, y3, y4, y5, y6, y7, y8, y9, y10, x0, x1, x2, x3, x4, hc 0, hc 1, hc 2⟩)
  have HV := Lib.hid hv
  have HB0 := Lib.hid hb0
  unfold RulesV PlaceV PlaceCells at HC
  unfold moveV at HC ⊢
  dsimp only at HC ⊢
  clear hv hx hl hb0 hmv hle
  go_enter Tryz.func15, Tryz.ntmps15
  go_wp2_with fail
  rw [← hU]
  clear hU
  go_at_call 13; refine HR.out.mono ?_; rintro e V ⟨rfl, hbV⟩
  obtain ⟨y0, y1, y2, y3, y4, y5, y6, y7, y8, y9, y10, x0, x1, x2, x3, x4, z0, z1, z2⟩ := HG.out V hbV
  have HBV := Lib.hid hbV
  have HG2 := HG
  have HC2 := HC
  clear HG HC
  have HG : Hid (∀ W', Below V.heap.size V W' → W'.cell? ⟨bb, 0, none⟩ = some (.string r.name) ∧ W'.cell? ⟨bb, 1, none⟩ = some (.int .i64 r.width) ∧ W'.cell? ⟨bb, 2, none⟩ = some (.int .i64 r.height) ∧ W'.cell? ⟨bb, 3, none⟩ = some (vp) ∧ W'.cell? ⟨bb, 4, none⟩ = some (vs) ∧ W'.cell? ⟨bb, 5, none⟩ = some (.bool r.falls) ∧ W'.cell? ⟨bb, 6, none⟩ = some (.bool r.keeps) ∧ W'.cell? ⟨bb, 7, none⟩ = some (ve) ∧ W'.cell? ⟨bb, 8, none⟩ = some (.int .i64 r.blocked) ∧ W'.cell? ⟨bb, 9, none⟩ = some (.int .i64 r.quiet) ∧ W'.cell? ⟨bb, 10, none⟩ = some (.int .i64 r.rep) ∧ W'.cell? ⟨bb, 11, none⟩ = some (vc) ∧ W'.cell? ⟨bb, 12, none⟩ = some (v0) ∧ W'.cell? ⟨bb, 13, none⟩ = some (v1) ∧ W'.cell? ⟨bb, 14, none⟩ = some (.int .i64 q.turn) ∧ W'.cell? ⟨bb, 15, none⟩ = some (.int .i64 q.quiet) ∧ W'.cell? ⟨W.heap.size, 0, none⟩ = some (.int .i64 m1) ∧ W'.cell? ⟨W.heap.size, 1, none⟩ = some (.int .i64 m2) ∧ W'.cell? ⟨W.heap.size, 2, none⟩ = some (.int .i64 m3)) := Lib.hid (fun W' hb => HG2.out W' (hbV.trans (hb.mono hbV.size)))
  have HC := Lib.hid (fun W' (hb : Below V.heap.size V W') => HC2.out W' (hbV.trans (hb.mono hbV.size)))
  clear HG2 HC2 HR hbV
  go_wp2_with fail
  have hBc : Below V.heap.size V V.drew := (Below.refl _ _).drew
  have hBd : ∀ o, Below V.heap.size V (V.alloc o) := fun o => (Below.refl _ _).alloc (Nat.le_refl _) _
  have hBe : ∀ o, Below V.heap.size V (V.alloc o).drew := fun o => (hBd o).drew
  have hBf : ∀ o, Below V.heap.size V (V.drew.alloc o) := fun o => hBc.alloc hBc.size _
  go_region_held3 (fun w' => w'.cell? ⟨bb, 0, none⟩ = some (.string r.name) ∧ w'.cell? ⟨bb, 1, none⟩ = some (.int .i64 r.width) ∧ w'.cell? ⟨bb, 2, none⟩ = some (.int .i64 r.height) ∧ w'.cell? ⟨bb, 3, none⟩ = some (vp) ∧ w'.cell? ⟨bb, 4, none⟩ = some (vs) ∧ w'.cell? ⟨bb, 5, none⟩ = some (.bool r.falls) ∧ w'.cell? ⟨bb, 6, none⟩ = some (.bool r.keeps) ∧ w'.cell? ⟨bb, 7, none⟩ = some (ve) ∧ w'.cell? ⟨bb, 8, none⟩ = some (.int .i64 r.blocked) ∧ w'.cell? ⟨bb, 9, none⟩ = some (.int .i64 r.quiet) ∧ w'.cell? ⟨bb, 10, none⟩ = some (.int .i64 r.rep) ∧ w'.cell? ⟨bb, 11, none⟩ = some (vc) ∧ w'.cell? ⟨bb, 12, none⟩ = some (v0) ∧ w'.cell? ⟨bb, 13, none⟩ = some (v1) ∧ w'.cell? ⟨bb, 14, none⟩ = some (.int .i64 q.turn) ∧ w'.cell? ⟨bb, 15, none⟩ = some (.int .i64 q.quiet) ∧ w'.cell? ⟨W.heap.size, 0, none⟩ = some (.int .i64 m1) ∧ w'.cell? ⟨W.heap.size, 1, none⟩ = some (.int .i64 m2) ∧ w'.cell? ⟨W.heap.size, 2, none⟩ = some (.int .i64 m3)) (first | with_reducible exact HG.out _ hBc | with_reducible exact HG.out _ (hBe _) | with_reducible exact HG.out _ (hBf _) | with_reducible exact HG.out _ (hBd _) | with_reducible exact HG.out _ (hBc.alloc hBc.size _) | with_reducible exact HG.out _ (hBs _ _ _ _ _)) (first
    | (go_at_call 40; refine (HC.out _ (by first | exact hBc | exact hBe _ | exact hBf _ | exact hBd _)).mono ?_; rintro e w5 ⟨rfl, hb⟩; have hB5 : Below V.heap.size V w5 := (by first | exact hBc.trans (hb.mono hBc.size) | exact (hBe _).trans (hb.mono (hBe _).size) | exact (hBf _).trans (hb.mono (hBf _).size) | exact (hBd _).trans (hb.mono (hBd _).size)); have hBc := hB5; have hBs : ∀ a b c d e, Below V.heap.size V (((((w5.setCell ⟨V.heap.size, 0, none⟩ a).setCell ⟨V.heap.size, 1, none⟩ b).setCell ⟨V.heap.size, 2, none⟩ c).setCell ⟨V.heap.size, 3, none⟩ d).setCell ⟨V.heap.size, 4, none⟩ e) := (fun a b c d e => ((((hB5.setCell (Nat.le_refl _) a).setCell (Nat.le_refl _) b).setCell (Nat.le_refl _) c).setCell (Nat.le_refl _) d).setCell (Nat.le_refl _) e); first | (have hz5 : PBox w5 V.heap.size 43 zeroP (.slice none 0 0) (.slice none 0 0) (.slice none 0 0) := hA_dr hb; obtain ⟨⟨k0, k1, k2, k3, k4⟩, l0, l1, l2, l3, l4⟩ := hz5.facts; unfold zeroP at k3 k4) | (have hz5 : PBox w5 V.heap.size 43 zeroP (.slice none 0 0) (.slice none 0 0) (.slice none 0 0) := hA_of hb; obtain ⟨⟨k0, k1, k2, k3, k4⟩, l0, l1, l2, l3, l4⟩ := hz5.facts; unfold zeroP at k3 k4) | skip; clear hb))
  all_goals
    first
      | (have hzz := hz5
         clear hzz
         have hP := hBs (.slice none 0 0) (.slice none 0 0) (.slice none 0 0) (.int .i64 0) (.int .i64 0)
         generalize (((((w5.setCell ⟨V.heap.size, 0, none⟩ (.slice none 0 0)).setCell ⟨V.heap.size, 1, none⟩ (.slice none 0 0)).setCell ⟨V.heap.size, 2, none⟩ (.slice none 0 0)).setCell ⟨V.heap.size, 3, none⟩ (.int .i64 0)).setCell ⟨V.heap.size, 4, none⟩ (.int .i64 0)) = wf at hP ⊢)
      | (have hP : Below V.heap.size V (w5.alloc (.cells #[.slice none 0 0, .slice none 0 0, .slice none 0 0, .int .i64 0, .int .i64 0] 43)) := hB5.alloc hB5.size _
         generalize w5.alloc (.cells #[.slice none 0 0, .slice none 0 0, .slice none 0 0, .int .i64 0, .int .i64 0] 43) = wf at hP ⊢)
    have HP := Lib.hid (HB0.out.trans ((HBV.out.trans (hP.mono HBV.out.size)).mono HB0.out.size))
    clear hP
    go_wp2_with fail
    go_ret
    exact ⟨rfl, HP.out⟩

/-! ### The three stores of Play -/
theorem fram_to {D E : Nat → Prop} {a b c : World} (h : Fram D a b) (h2 : Fram E b c) (hE : ∀ k, k < a.heap.size → E k → D k) : Fram D a c := ⟨h2.os.trans h.os, h2.tape.trans h.tape, h2.output.trans h.output, Nat.le_trans h.size h2.size, fun k hk hd => (h2.block k (by have := h.size; omega) (fun e => hd (hE k hk e))).trans (h.block k hk hd)⟩
/-- The position is put to the earlier ones. -/
theorem stepA {W1 : Nat → Prop} {D : Nat → Prop} {w6 X w7 : World} {bb gg n cap : Nat} {r : RulesD} {q : PlaceD} {es : List PlaceD} {ms : List MoveD} {vp vs ve : Value} {ea xa xb xc : Option Addr} {en ec xn xm yn ym zn zm : Nat} {ma : Option Addr} {mn mk : Nat} {news : List Value}
    (hV : GmeV W1 D w6 bb r q es ms vp vs ve (.slice xa xn xm) (.slice xb yn ym) (.slice xc zn zm) ea en ec ma mn mk news) (hX : Below w6.heap.size w6 X)
    (hown : w7.ownsRow (bb + 1) 43 5 (.slice (some ⟨gg, 0, none⟩) (n + 1) cap) (n + 1) (news ++ [.slice xa xn xm, .slice xb yn ym, .slice xc zn zm, .int .i64 q.turn, .int .i64 q.quiet])) (hgrow : X.grownBy w7 (Value.ownBlock (.slice ea en ec))) (hat : Value.ownBlock (.slice ea en ec) = some gg ∨ gg = w6.heap.size + 1) (hlt : gg < w7.heap.size) (hn : n = es.length) :
    GmeV W1 (Grow D w6 (w7.setCell ⟨bb, 16, none⟩ (.slice (some ⟨gg, 0, none⟩) (n + 1) cap))) (w7.setCell ⟨bb, 16, none⟩ (.slice (some ⟨gg, 0, none⟩) (n + 1) cap)) bb r q (es ++ [q]) ms vp vs ve (.slice xa xn xm) (.slice xb yn ym) (.slice xc zn zm) (some ⟨gg, 0, none⟩) (n + 1) cap ma mn mk (news ++ [.slice xa xn xm, .slice xb yn ym, .slice xc zn zm, .int .i64 q.turn, .int .i64 q.quiet])
    ∧ Fram D w6 (w7.setCell ⟨bb, 16, none⟩ (.slice (some ⟨gg, 0, none⟩) (n + 1) cap)) ∧ (D gg ∨ w6.heap.size ≤ gg) := by
  have hrb : ∀ k, Value.ownBlock (.slice ea en ec) = some k → bb + 1 ≤ k ∧ D k ∧ ∀ b, ma = some b → k ≠ b.block := fun k hk => by
    obtain ⟨a, ha, rfl⟩ := own_own hV.own hk
    exact ⟨(hV.own.lt _ hk).1, hV.de a ha, fun b hb => hV.ne a b ha hb⟩
  have hbb := hV.lt bb hV.db
  have hgb : bb + 1 ≤ gg := (hown.lt gg rfl).1
  have hnl : news.length = n * 5 := by rw [hV.own.1, hn]
  have h7 : ∀ k, k < w6.heap.size → Value.ownBlock (.slice ea en ec) ≠ some k → w7.heap[k]? = w6.heap[k]? := fun k hk hne => (hgrow.block k (by have := hX.size; omega) (fun e => hne e.symm)).trans (hX.block k hk)
  have hrow7 : w7.heap[bb]? = _ := (h7 bb hbb (fun e => by have := (hrb bb e).1; omega)).trans hV.row
  have hrow8 := gset16 hrow7 (.slice (some ⟨gg, 0, none⟩) (n + 1) cap)
  have h87 : ∀ k, k ≠ bb → (w7.setCell ⟨bb, 16, none⟩ (.slice (some ⟨gg, 0, none⟩) (n + 1) cap)).heap[k]? = w7.heap[k]? := fun k hk => heap_setCell_other _ _ _ _ hk
  have hs8 : (w7.setCell ⟨bb, 16, none⟩ (.slice (some ⟨gg, 0, none⟩) (n + 1) cap)).heap.size = w7.heap.size := World.size_setCell _ _ _
  have hB8 : Below 0 w6 (w7.setCell ⟨bb, 16, none⟩ (.slice (some ⟨gg, 0, none⟩) (n + 1) cap)) := ((hX.mono (Nat.zero_le _)).grown hgrow (Nat.zero_le _) (fun k _ => Nat.zero_le _)).setCell (Nat.zero_le _) _
  have hs7 : w6.heap.size ≤ w7.heap.size := Nat.le_trans hX.size hgrow.size
  generalize w7.setCell ⟨bb, 16, none⟩ (.slice (some ⟨gg, 0, none⟩) (n + 1) cap) = w8 at hrow8 h87 hs8 hB8 ⊢
  have h8 : ∀ k, k < w6.heap.size → k ≠ bb → Value.ownBlock (.slice ea en ec) ≠ some k → w8.heap[k]? = w6.heap[k]? := fun k h1 h2 h3 => (h87 k h2).trans (h7 k h1 h3)
  have hgg : ∀ k, k < w6.heap.size → Value.ownBlock (.slice ea en ec) ≠ some k → k ≠ gg := fun k h1 h2 e => by
    rcases hat with h | h
    · exact h2 (by rw [e]; exact h)
    · omega
  have hok : ∀ k, GOk D bb ea ma k → Value.ownBlock (.slice ea en ec) ≠ some k := fun k hk e => by
    obtain ⟨a, ha, hb⟩ := own_own hV.own e
    exact hk.2.2.1 a ha hb.symm
  have hmb : ∀ b, ma = some b → b.block < w6.heap.size ∧ b.block ≠ bb ∧ Value.ownBlock (.slice ea en ec) ≠ some b.block := fun b hb => ⟨hV.lt _ (hV.dm b hb), by subst hb; have := (hV.mown.lt b.block rfl).1; omega, fun e => (hrb _ e).2.2 b hb rfl⟩
  have hgD : D gg ∨ w6.heap.size ≤ gg := by
    rcases hat with h | h
    · exact .inl (hrb gg h).2.1
    · exact .inr (by omega)
  have hold : ∀ p (u0 u1 u2 : Value), PlaceF (GOk D bb ea ma) w6 p u0 u1 u2 → PlaceF (GOk (Grow D w6 w8) bb (some ⟨gg, 0, none⟩) ma) w8 p u0 u1 u2 := fun p u0 u1 u2 h => h.lt.on (fun k hk hl => h8 k hl hk.1.2.1 (hok k hk.1)) (fun k hk => ⟨.inl hk.1.1, hk.1.2.1, (fun a ha => by cases ha; exact hgg k hk.2 (hok k hk.1)), hk.1.2.2.2⟩)
  have hlo : ∀ k, k < bb → W1 k → w8.heap[k]? = w6.heap[k]? := fun k hk _ => h8 k (by omega) (by omega) (fun e => by have := (hrb k e).1; omega)
  refine ⟨?_, ⟨hB8.os, hB8.tape, hB8.output, by omega, fun k hk hd => h8 k hk (fun e => hd (e ▸ hV.db)) (fun e => hd (hrb k e).2.1)⟩, hgD⟩
  exact
    { row := hrow8, rules := hV.rules.on hlo (by omega), dir := hV.dir.on hlo (by omega)
      now := hold _ _ _ _ hV.now
      own := by
        have h1 := own_keep hown (h87 gg (by omega))
        rw [List.length_append, ← hn]; exact h1
      old := fun i p hi => by
        by_cases hin : i < n
        · rw [List.getElem?_append_left (by omega)] at hi
          obtain ⟨ca', cn', cc', a0', n0', c0', a1', n1', c1', h1, h2⟩ := hV.old i p hi
          exact ⟨ca', cn', cc', a0', n0', c0', a1', n1', c1', fun j hj => by rw [List.getElem?_append_left (by omega)]; exact h1 j hj, hold _ _ _ _ h2⟩
        · have hi2 := (List.getElem?_eq_some_iff.1 hi).1
          simp at hi2
          obtain rfl : i = n := by omega
          rw [List.getElem?_append_right (by omega), hn] at hi
          simp at hi
          subst hi
          refine ⟨xa, xn, xm, xb, yn, ym, xc, zn, zm, fun j hj => ?_, hold _ _ _ _ hV.now⟩
          rw [List.getElem?_append_right (by omega), hnl, Nat.add_sub_cancel_left]
          match j, hj with
          | 0, _ => rfl
          | 1, _ => rfl
          | 2, _ => rfl
          | 3, _ => rfl
          | 4, _ => rfl
      mown := own_at hV.mown (fun b hb => h8 _ (hmb b hb).1 (hmb b hb).2.1 (hmb b hb).2.2)
      db := .inl hV.db
      de := fun a ha => by
        cases ha
        rcases hgD with h | h
        · exact .inl h
        · exact .inr ⟨h, by show gg < w8.heap.size; omega⟩
      dm := fun b hb => .inl (hV.dm b hb)
      ne := fun a b ha hb => by
        cases ha
        exact (hgg b.block (hmb b hb).1 (hmb b hb).2.2).symm
      lt := fun k hk => by
        rcases hk with h | h
        · have := hV.lt k h; omega
        · exact h.2
      ok := hV.ok
      oks := fun p hp => by
        rcases List.mem_append.1 hp with h | h
        · exact hV.oks p h
        · rw [List.mem_singleton.1 h]; exact hV.ok }
/-- The move is put to the moves. -/
theorem stepB {W1 : Nat → Prop} {D : Nat → Prop} {w6 X w7 : World} {bb gg n cap : Nat} {r : RulesD} {q : PlaceD} {es : List PlaceD} {ms : List MoveD} {m : MoveD} {vp vs ve vc v0 v1 : Value} {ea : Option Addr} {en ec : Nat} {ma : Option Addr} {mn mk : Nat} {news : List Value}
    (hV : GmeV W1 D w6 bb r q es ms vp vs ve vc v0 v1 ea en ec ma mn mk news) (hX : Below w6.heap.size w6 X)
    (hown : w7.ownsRow (bb + 1) 47 3 (.slice (some ⟨gg, 0, none⟩) (n + 1) cap) (n + 1) (mcs ms ++ [.int .i64 m.1, .int .i64 m.2.1, .int .i64 m.2.2])) (hgrow : X.grownBy w7 (Value.ownBlock (.slice ma mn mk))) (hat : Value.ownBlock (.slice ma mn mk) = some gg ∨ gg = w6.heap.size + 1) (hlt : gg < w7.heap.size) (hn : n = ms.length) :
    GmeV W1 (Grow D w6 (w7.setCell ⟨bb, 17, none⟩ (.slice (some ⟨gg, 0, none⟩) (n + 1) cap))) (w7.setCell ⟨bb, 17, none⟩ (.slice (some ⟨gg, 0, none⟩) (n + 1) cap)) bb r q es (ms ++ [m]) vp vs ve vc v0 v1 ea en ec (some ⟨gg, 0, none⟩) (n + 1) cap news
    ∧ Fram D w6 (w7.setCell ⟨bb, 17, none⟩ (.slice (some ⟨gg, 0, none⟩) (n + 1) cap)) ∧ (D gg ∨ w6.heap.size ≤ gg) := by
  have hrb : ∀ k, Value.ownBlock (.slice ma mn mk) = some k → bb + 1 ≤ k ∧ D k ∧ ∀ a, ea = some a → a.block ≠ k := fun k hk => by
    obtain ⟨b, hb, rfl⟩ := own_own hV.mown hk
    exact ⟨(hV.mown.lt _ hk).1, hV.dm b hb, fun a ha => hV.ne a b ha hb⟩
  have hbb := hV.lt bb hV.db
  have hgb : bb + 1 ≤ gg := (hown.lt gg rfl).1
  have h7 : ∀ k, k < w6.heap.size → Value.ownBlock (.slice ma mn mk) ≠ some k → w7.heap[k]? = w6.heap[k]? := fun k hk hne => (hgrow.block k (by have := hX.size; omega) (fun e => hne e.symm)).trans (hX.block k hk)
  have hrow7 : w7.heap[bb]? = _ := (h7 bb hbb (fun e => by have := (hrb bb e).1; omega)).trans hV.row
  have hrow8 := gset17 hrow7 (.slice (some ⟨gg, 0, none⟩) (n + 1) cap)
  have h87 : ∀ k, k ≠ bb → (w7.setCell ⟨bb, 17, none⟩ (.slice (some ⟨gg, 0, none⟩) (n + 1) cap)).heap[k]? = w7.heap[k]? := fun k hk => heap_setCell_other _ _ _ _ hk
  have hs8 : (w7.setCell ⟨bb, 17, none⟩ (.slice (some ⟨gg, 0, none⟩) (n + 1) cap)).heap.size = w7.heap.size := World.size_setCell _ _ _
  have hB8 : Below 0 w6 (w7.setCell ⟨bb, 17, none⟩ (.slice (some ⟨gg, 0, none⟩) (n + 1) cap)) := ((hX.mono (Nat.zero_le _)).grown hgrow (Nat.zero_le _) (fun k _ => Nat.zero_le _)).setCell (Nat.zero_le _) _
  have hs7 : w6.heap.size ≤ w7.heap.size := Nat.le_trans hX.size hgrow.size
  generalize w7.setCell ⟨bb, 17, none⟩ (.slice (some ⟨gg, 0, none⟩) (n + 1) cap) = w8 at hrow8 h87 hs8 hB8 ⊢
  have h8 : ∀ k, k < w6.heap.size → k ≠ bb → Value.ownBlock (.slice ma mn mk) ≠ some k → w8.heap[k]? = w6.heap[k]? := fun k h1 h2 h3 => (h87 k h2).trans (h7 k h1 h3)
  have hgg : ∀ k, k < w6.heap.size → Value.ownBlock (.slice ma mn mk) ≠ some k → k ≠ gg := fun k h1 h2 e => by
    rcases hat with h | h
    · exact h2 (by rw [e]; exact h)
    · omega
  have hok : ∀ k, GOk D bb ea ma k → Value.ownBlock (.slice ma mn mk) ≠ some k := fun k hk e => by
    obtain ⟨a, ha, hb⟩ := own_own hV.mown e
    exact hk.2.2.2 a ha hb.symm
  have heb : ∀ b, ea = some b → b.block < w6.heap.size ∧ b.block ≠ bb ∧ Value.ownBlock (.slice ma mn mk) ≠ some b.block := fun b hb => ⟨hV.lt _ (hV.de b hb), by subst hb; have := (hV.own.lt b.block rfl).1; omega, fun e => (hrb _ e).2.2 b hb rfl⟩
  have hgD : D gg ∨ w6.heap.size ≤ gg := by
    rcases hat with h | h
    · exact .inl (hrb gg h).2.1
    · exact .inr (by omega)
  have hold : ∀ p (u0 u1 u2 : Value), PlaceF (GOk D bb ea ma) w6 p u0 u1 u2 → PlaceF (GOk (Grow D w6 w8) bb ea (some ⟨gg, 0, none⟩)) w8 p u0 u1 u2 := fun p u0 u1 u2 h => h.lt.on (fun k hk hl => h8 k hl hk.1.2.1 (hok k hk.1)) (fun k hk => ⟨.inl hk.1.1, hk.1.2.1, hk.1.2.2.1, fun a ha => by cases ha; exact hgg k hk.2 (hok k hk.1)⟩)
  have hlo : ∀ k, k < bb → W1 k → w8.heap[k]? = w6.heap[k]? := fun k hk _ => h8 k (by omega) (by omega) (fun e => by have := (hrb k e).1; omega)
  refine ⟨?_, ⟨hB8.os, hB8.tape, hB8.output, by omega, fun k hk hd => h8 k hk (fun e => hd (e ▸ hV.db)) (fun e => hd (hrb k e).2.1)⟩, hgD⟩
  exact
    { row := hrow8, rules := hV.rules.on hlo (by omega), dir := hV.dir.on hlo (by omega)
      now := hold _ _ _ _ hV.now
      own := own_at hV.own (fun b hb => h8 _ (heb b hb).1 (heb b hb).2.1 (heb b hb).2.2)
      old := fun i p hi => by
        obtain ⟨ca', cn', cc', a0', n0', c0', a1', n1', c1', h1, h2⟩ := hV.old i p hi
        exact ⟨ca', cn', cc', a0', n0', c0', a1', n1', c1', h1, hold _ _ _ _ h2⟩
      mown := by
        have h1 := own_keep hown (h87 gg (by omega))
        rw [List.length_append, ← hn, mcs_app]; exact h1
      db := .inl hV.db
      de := fun b hb => .inl (hV.de b hb)
      dm := fun a ha => by
        cases ha
        rcases hgD with h | h
        · exact .inl h
        · exact .inr ⟨h, by show gg < w8.heap.size; omega⟩
      ne := fun a b ha hb => by
        cases hb
        exact hgg a.block (heb a ha).1 (heb a ha).2.2
      lt := fun k hk => by
        rcases hk with h | h
        · have := hV.lt k h; omega
        · exact h.2
      ok := hV.ok
      oks := hV.oks }
/-- The position is another one. -/
theorem stepC {W1 : Nat → Prop} {D E : Nat → Prop} {w : World} {bb : Nat} {r : RulesD} {q q2 : PlaceD} {es : List PlaceD} {ms : List MoveD} {vp vs ve vc v0 v1 : Value} {ea : Option Addr} {en ec : Nat} {ma : Option Addr} {mn mk : Nat} {news : List Value} {u0 u1 u2 : Value}
    (hV : GmeV W1 D w bb r q es ms vp vs ve vc v0 v1 ea en ec ma mn mk news) (hE : ∀ k, D k → E k) (hEl : ∀ k, E k → k < w.heap.size) (hP : PlaceF (GOk E bb ea ma) w q2 u0 u1 u2) (hq2 : POkay r q2) : GmeV W1 E (fillB w bb q2 u0 u1 u2) bb r q2 es ms vp vs ve u0 u1 u2 ea en ec ma mn mk news := by
  have hV := hV.weak hE hEl
  have hrow := fillG_row hV.row q2 u0 u1 u2
  obtain ⟨hoo, hsz⟩ := fillB_other w bb q2 u0 u1 u2
  generalize fillB w bb q2 u0 u1 u2 = WF at hrow hoo hsz ⊢
  exact
    { row := hrow
      rules := hV.rules.on (fun k hk _ => hoo k (by omega)) (by omega)
      dir := hV.dir.on (fun k hk _ => hoo k (by omega)) (by omega)
      now := hP.on (fun k hk _ => hoo k hk.2.1) (fun _ h => h)
      own := own_at hV.own (fun a ha => hoo _ (by subst ha; have := (hV.own.lt a.block rfl).1; omega))
      old := hV.old.on (fun k hk _ => hoo k hk.2.1) (fun _ h => h)
      mown := own_at hV.mown (fun a ha => hoo _ (by subst ha; have := (hV.mown.lt a.block rfl).1; omega))
      db := hV.db, de := hV.de, dm := hV.dm, ne := hV.ne, lt := fun k hk => by rw [hsz]; exact hV.lt k hk
      ok := hq2, oks := hV.oks }
def GPlayOk (W1 : Nat → Prop) (D : Nat → Prop) (bb : Nat) (r : RulesD) (q : PlaceD) (es : List PlaceD) (ms : List MoveD) (w : World) (e : Ending) (w' : World) : Prop := e = .returned (.int .i64 0) ∧ Gme W1 (Grow D w w') w' bb r q es ms ∧ Fram D w w'
theorem gplay_end {W1 : Nat → Prop} {D : Nat → Prop} {W w6 w8 w10 : World} {bb gg mg n en2 cap mcap : Nat} {r : RulesD} {q q2 : PlaceD} {es : List PlaceD} {ms : List MoveD} {vp vs ve vc v0 v1 u0 u1 u2 : Value} {news : List Value}
    (hDW : ∀ k, D k → k < W.heap.size) (hB6 : Below W.heap.size W w6) (hA : Fram D w6 w8 ∧ (D gg ∨ w6.heap.size ≤ gg)) (hB : Fram (Grow D w6 w8) w8 w10 ∧ (Grow D w6 w8 mg ∨ w8.heap.size ≤ mg))
    (hV : GmeV W1 (Grow (Grow D w6 w8) w8 w10) w10 bb r q es ms vp vs ve vc v0 v1 (some ⟨gg, 0, none⟩) en2 cap (some ⟨mg, 0, none⟩) n mcap news) (hD : D bb) (hP : PlaceF (fun k => W.heap.size ≤ k) w6 q2 u0 u1 u2) (hq2 : POkay r q2) :
    GPlayOk W1 D bb r q2 es ms W (.returned (.int .i64 0)) (fillB w10 bb q2 u0 u1 u2) := by
  obtain ⟨hA, hg⟩ := hA
  obtain ⟨hB, hm⟩ := hB
  obtain ⟨hoo, hsz⟩ := fillB_other w10 bb q2 u0 u1 u2
  have hs1 := hB6.size
  have hs2 := hA.size
  have hs3 := hB.size
  have hbb := hDW bb hD
  have hp10 : PlaceF (fun k => W.heap.size ≤ k ∧ k < w6.heap.size) w10 q2 u0 u1 u2 := hP.lt.on (fun k hk hl => (hB.block k (by omega) (fun g => by
    rcases g with g | g
    · have := hDW k g; omega
    · omega)).trans (hA.block k hl (fun g => by have := hDW k g; omega))) (fun _ h => h)
  have hgm : ∀ k, W.heap.size ≤ k → k < w6.heap.size → k ≠ gg ∧ k ≠ mg := fun k h1 h2 => by
    refine ⟨fun e => ?_, fun e => ?_⟩
    · rcases hg with h | h
      · have := hDW gg h; omega
      · omega
    · rcases hm with (h | h) | h
      · have := hDW mg h; omega
      · omega
      · omega
  have hF := stepC (E := Grow D W (fillB w10 bb q2 u0 u1 u2)) hV (fun k hk => by
    rcases hk with (h | h) | h
    · exact .inl h
    · exact .inr ⟨by omega, by rw [hsz]; omega⟩
    · exact .inr ⟨by omega, by rw [hsz]; omega⟩) (fun k hk => by
    rcases hk with h | h
    · have := hDW k h; omega
    · rw [hsz] at h; exact h.2) (hp10.on (fun _ _ _ => rfl) (fun k hk => ⟨.inr ⟨hk.1, by rw [hsz]; omega⟩, by have := hk.1; omega, (fun a ha => by cases ha; exact (hgm k hk.1 hk.2).1), fun a ha => by cases ha; exact (hgm k hk.1 hk.2).2⟩)) hq2
  refine ⟨rfl, ⟨_, _, _, _, _, _, _, _, _, _, _, _, _, hF⟩, ?_⟩
  have hfb : Below 0 w10 (fillB w10 bb q2 u0 u1 u2) := fillB_below (Below.refl _ _) (Nat.zero_le _) q2 u0 u1 u2
  have h1 : Fram D W w10 := fram_to ((Fram.of (D := D) hB6).trans hA) hB (fun k hk g => by
    rcases g with g | g
    · exact g
    · omega)
  exact ⟨hfb.os.trans h1.os, hfb.tape.trans h1.tape, hfb.output.trans h1.output, by rw [hsz]; exact h1.size, fun k hk hd => (hoo k (fun e => hd (e ▸ hD))).trans (h1.block k hk hd)⟩
theorem infoPosG : (Tryz.prog.info? 43).map (fun i => (i.zero, i.size, i.bytes)) = some (some (.agg #[.slice none 0 0, .slice none 0 0, .slice none 0 0, .int .i64 0, .int .i64 0]), 5, 88) := by kernel_rfl
set_option maxHeartbeats 4000000 in
theorem gplay_ok {W1 : Nat → Prop} {D : Nat → Prop} {W : World} {bb : Nat} {r : RulesD} {q : PlaceD} {es : List PlaceD} {ms : List MoveD} (h : Gme W1 D W bb r q es ms) (hle : es.length ≤ 100) (hx : resG r q es = 0) (m : MoveD) (hl : legalB r q m = true) (hlen : es.length = ms.length) :
    Calls Tryz.prog 15 #[.pointer (some ⟨bb, 0, none⟩), moveV m] W (GPlayOk W1 D bb r (afterD r q m) (es ++ [q]) (ms ++ [m]) W) := by
  obtain ⟨i0, hi, hz0, hz1, hz2⟩ := info_parts infoPosG
  obtain ⟨i1, hi1, hy0, hy1, hy2⟩ := info_parts infoMoveG
  obtain ⟨q2, hq2⟩ : ∃ q2, q2 = afterD r q m := ⟨_, rfl⟩
  have HQ2 : Hid (POkay r q2) := Lib.hid (by rw [hq2]; exact after_ok h.ok.1 (legal_ok h.ok.1 hl))
  rw [← hq2]
  obtain ⟨m1, m2, m3⟩ := m
  obtain ⟨U, hU⟩ : ∃ U, U = W.alloc (.cells #[.int .i64 m1, .int .i64 m2, .int .i64 m3] 47) := ⟨_, rfl⟩
  have hb0 : Below W.heap.size W U := by rw [hU]; exact (Below.refl _ _).alloc (Nat.le_refl _) _
  have hmv : U.heap[W.heap.size]? = some (.cells #[.int .i64 m1, .int .i64 m2, .int .i64 m3] 47 (0, 0)) := by rw [hU]; exact heap_alloc_new W _
  have HR : Hid (Calls Tryz.prog 13 #[.pointer (some ⟨bb, 0, none⟩)] U (BelPost (.int .i64 0) U)) := Lib.hid (by
    have h1 := gresult (h.keep hb0) hle
    rwa [hx] at h1)
  have HBR := Lib.hid h
  obtain ⟨vp, vs, ve, vc, v0, v1, ea, en, ec, ma, mn, mk, news, hv⟩ := h
  have HC : Hid (∀ W', Below U.heap.size U W' → Calls Tryz.prog 40 #[RulesV r vp vs ve, PlaceV q vc v0 v1, moveV (m1, m2, m3)] W' (MadeP q2 W')) := Lib.hid (fun W' hb => by
    have hk := hv.keep (hb0.trans (hb.mono hb0.size))
    refine (After_any r q vp vs ve vc v0 v1 (m1, m2, m3) W' (hk.rules W' (fun _ _ _ => rfl) (Nat.le_refl _)) hk.now.plain).mono fun _ _ h2 => ?_
    have he : afterE r q (m1, m2, m3) = 0 := by rw [afterE, if_pos (placeE_iff.2 hv.ok), if_pos hl]
    rcases h2 with ⟨_, h2⟩ | ⟨h2, _⟩
    · rw [hq2]; exact h2
    · exact absurd he h2)
  have HG : Hid (∀ W', Below U.heap.size U W' → W'.cell? ⟨bb, 0, none⟩ = some (.string r.name) ∧ W'.cell? ⟨bb, 1, none⟩ = some (.int .i64 r.width) ∧ W'.cell? ⟨bb, 2, none⟩ = some (.int .i64 r.height) ∧ W'.cell? ⟨bb, 3, none⟩ = some (vp) ∧ W'.cell? ⟨bb, 4, none⟩ = some (vs) ∧ W'.cell? ⟨bb, 5, none⟩ = some (.bool r.falls) ∧ W'.cell? ⟨bb, 6, none⟩ = some (.bool r.keeps) ∧ W'.cell? ⟨bb, 7, none⟩ = some (ve) ∧ W'.cell? ⟨bb, 8, none⟩ = some (.int .i64 r.blocked) ∧ W'.cell? ⟨bb, 9, none⟩ = some (.int .i64 r.quiet) ∧ W'.cell? ⟨bb, 10, none⟩ = some (.int .i64 r.rep) ∧ W'.cell? ⟨bb, 11, none⟩ = some (vc) ∧ W'.cell? ⟨bb, 12, none⟩ = some (v0) ∧ W'.cell? ⟨bb, 13, none⟩ = some (v1) ∧ W'.cell? ⟨bb, 14, none⟩ = some (.int .i64 q.turn) ∧ W'.cell? ⟨bb, 15, none⟩ = some (.int .i64 q.quiet) ∧ W'.cell? ⟨W.heap.size, 0, none⟩ = some (.int .i64 m1) ∧ W'.cell? ⟨W.heap.size, 1, none⟩ = some (.int .i64 m2) ∧ W'.cell? ⟨W.heap.size, 2, none⟩ = some (.int .i64 m3)) := Lib.hid (fun W' hb => by
    have h16 := gotG hv.row (hb0.trans (hb.mono hb0.size))
    unfold Got16 at h16
    obtain ⟨y0, y1, y2, y3, y4, y5, y6, y7, y8, y9, y10, x0, x1, x2, x3, x4⟩ := h16
    have hm := bkeep hmv hb
    have hc : ∀ i, W'.cell? ⟨W.heap.size, i, none⟩ = (#[.int .i64 m1, .int .i64 m2, .int .i64 m3] : Array Value)[i]? := fun i => cell_of_row W' _ i _ _ (0, 0) hm
    exact ⟨y0, y1, y2, y3, y4, y5, y6, y7, y8, y9, y10, x0, x1, x2, x3, x4, hc 0, hc 1, hc 2⟩)
  have HV := Lib.hid hv
  have HB0 := Lib.hid hb0
  unfold RulesV PlaceV PlaceCells at HC
  unfold moveV at HC ⊢
  dsimp only at HC ⊢
  obtain ⟨n, hnn⟩ : ∃ n, n = es.length := ⟨_, rfl⟩
  rw [← hnn] at hle
  have HN := Lib.hid hnn
  have HN2 : Hid (n = ms.length) := Lib.hid (by omega)
  have HMV := Lib.hid hmv
  clear hv hx hl hb0 hmv hq2 hnn hlen
  go_enter Tryz.func15, Tryz.ntmps15
  go_wp2_with fail
  rw [← hU]
  clear hU
  go_at_call 13; refine HR.out.mono ?_; rintro e V ⟨rfl, hbV⟩
  obtain ⟨y0, y1, y2, y3, y4, y5, y6, y7, y8, y9, y10, x0, x1, x2, x3, x4, z0, z1, z2⟩ := HG.out V hbV
  have HBV := Lib.hid hbV
  have HG2 := HG
  have HC2 := HC
  clear HG HC
  have HG : Hid (∀ W', Below V.heap.size V W' → W'.cell? ⟨bb, 0, none⟩ = some (.string r.name) ∧ W'.cell? ⟨bb, 1, none⟩ = some (.int .i64 r.width) ∧ W'.cell? ⟨bb, 2, none⟩ = some (.int .i64 r.height) ∧ W'.cell? ⟨bb, 3, none⟩ = some (vp) ∧ W'.cell? ⟨bb, 4, none⟩ = some (vs) ∧ W'.cell? ⟨bb, 5, none⟩ = some (.bool r.falls) ∧ W'.cell? ⟨bb, 6, none⟩ = some (.bool r.keeps) ∧ W'.cell? ⟨bb, 7, none⟩ = some (ve) ∧ W'.cell? ⟨bb, 8, none⟩ = some (.int .i64 r.blocked) ∧ W'.cell? ⟨bb, 9, none⟩ = some (.int .i64 r.quiet) ∧ W'.cell? ⟨bb, 10, none⟩ = some (.int .i64 r.rep) ∧ W'.cell? ⟨bb, 11, none⟩ = some (vc) ∧ W'.cell? ⟨bb, 12, none⟩ = some (v0) ∧ W'.cell? ⟨bb, 13, none⟩ = some (v1) ∧ W'.cell? ⟨bb, 14, none⟩ = some (.int .i64 q.turn) ∧ W'.cell? ⟨bb, 15, none⟩ = some (.int .i64 q.quiet) ∧ W'.cell? ⟨W.heap.size, 0, none⟩ = some (.int .i64 m1) ∧ W'.cell? ⟨W.heap.size, 1, none⟩ = some (.int .i64 m2) ∧ W'.cell? ⟨W.heap.size, 2, none⟩ = some (.int .i64 m3)) := Lib.hid (fun W' hb => HG2.out W' (hbV.trans (hb.mono hbV.size)))
  have HC := Lib.hid (fun W' (hb : Below V.heap.size V W') => HC2.out W' (hbV.trans (hb.mono hbV.size)))
  clear HG2 HC2 HR hbV
  go_wp2_with fail
  have hBc : Below V.heap.size V V.drew := (Below.refl _ _).drew
  have hBd : ∀ o, Below V.heap.size V (V.alloc o) := fun o => (Below.refl _ _).alloc (Nat.le_refl _) _
  have hBe : ∀ o, Below V.heap.size V (V.alloc o).drew := fun o => (hBd o).drew
  have hBf : ∀ o, Below V.heap.size V (V.drew.alloc o) := fun o => hBc.alloc hBc.size _
  go_region_held3 (fun w' => w'.cell? ⟨bb, 0, none⟩ = some (.string r.name) ∧ w'.cell? ⟨bb, 1, none⟩ = some (.int .i64 r.width) ∧ w'.cell? ⟨bb, 2, none⟩ = some (.int .i64 r.height) ∧ w'.cell? ⟨bb, 3, none⟩ = some (vp) ∧ w'.cell? ⟨bb, 4, none⟩ = some (vs) ∧ w'.cell? ⟨bb, 5, none⟩ = some (.bool r.falls) ∧ w'.cell? ⟨bb, 6, none⟩ = some (.bool r.keeps) ∧ w'.cell? ⟨bb, 7, none⟩ = some (ve) ∧ w'.cell? ⟨bb, 8, none⟩ = some (.int .i64 r.blocked) ∧ w'.cell? ⟨bb, 9, none⟩ = some (.int .i64 r.quiet) ∧ w'.cell? ⟨bb, 10, none⟩ = some (.int .i64 r.rep) ∧ w'.cell? ⟨bb, 11, none⟩ = some (vc) ∧ w'.cell? ⟨bb, 12, none⟩ = some (v0) ∧ w'.cell? ⟨bb, 13, none⟩ = some (v1) ∧ w'.cell? ⟨bb, 14, none⟩ = some (.int .i64 q.turn) ∧ w'.cell? ⟨bb, 15, none⟩ = some (.int .i64 q.quiet) ∧ w'.cell? ⟨W.heap.size, 0, none⟩ = some (.int .i64 m1) ∧ w'.cell? ⟨W.heap.size, 1, none⟩ = some (.int .i64 m2) ∧ w'.cell? ⟨W.heap.size, 2, none⟩ = some (.int .i64 m3)) (first | with_reducible exact HG.out _ hBc | with_reducible exact HG.out _ (hBe _) | with_reducible exact HG.out _ (hBf _) | with_reducible exact HG.out _ (hBd _) | with_reducible exact HG.out _ (hBc.alloc hBc.size _) | with_reducible exact HG.out _ (hBs _ _ _ _ _)) (first
    | (go_at_call 40; refine (HC.out _ (by first | exact hBc | exact hBe _ | exact hBf _ | exact hBd _)).mono ?_; rintro e w5 ⟨ca, cn, cc, a0, n0, c0, a1, n1, c1, rfl, hpf, hb⟩; have hB5 : Below V.heap.size V w5 := (by first | exact hBc.trans (hb.mono hBc.size) | exact (hBe _).trans (hb.mono (hBe _).size) | exact (hBf _).trans (hb.mono (hBf _).size) | exact (hBd _).trans (hb.mono (hBd _).size)); have hBc := hB5; have hBs : ∀ a b c d e, Below V.heap.size V (((((w5.setCell ⟨V.heap.size, 0, none⟩ a).setCell ⟨V.heap.size, 1, none⟩ b).setCell ⟨V.heap.size, 2, none⟩ c).setCell ⟨V.heap.size, 3, none⟩ d).setCell ⟨V.heap.size, 4, none⟩ e) := (fun a b c d e => ((((hB5.setCell (Nat.le_refl _) a).setCell (Nat.le_refl _) b).setCell (Nat.le_refl _) c).setCell (Nat.le_refl _) d).setCell (Nat.le_refl _) e); first | (have hz5 : PBox w5 V.heap.size 43 zeroP (.slice none 0 0) (.slice none 0 0) (.slice none 0 0) := hA_dr hb; have hpf5 : PlaceF (fun k => V.heap.size < k) w5 q2 (.slice ca cn cc) (.slice a0 n0 c0) (.slice a1 n1 c1) := hpf.on (fun _ _ _ => rfl) (fun k hk => Nat.lt_of_lt_of_le (show V.heap.size < (V.alloc _).heap.size by simp) hk); obtain ⟨⟨k0, k1, k2, k3, k4⟩, l0, l1, l2, l3, l4⟩ := hz5.facts; unfold zeroP at k3 k4) | (have hz5 : PBox w5 V.heap.size 43 zeroP (.slice none 0 0) (.slice none 0 0) (.slice none 0 0) := hA_of hb; have hpf5 : PlaceF (fun k => V.heap.size < k) w5 q2 (.slice ca cn cc) (.slice a0 n0 c0) (.slice a1 n1 c1) := hpf.on (fun _ _ _ => rfl) (fun k hk => Nat.lt_of_lt_of_le (show V.heap.size < (V.drew.alloc _).heap.size by simp [World.drew]) hk); obtain ⟨⟨k0, k1, k2, k3, k4⟩, l0, l1, l2, l3, l4⟩ := hz5.facts; unfold zeroP at k3 k4) | (have hpf5 : PlaceF (fun k => V.heap.size ≤ k) w5 q2 (.slice ca cn cc) (.slice a0 n0 c0) (.slice a1 n1 c1) := hpf.on (fun _ _ _ => rfl) (fun k hk => hk)); clear hpf hb))
  all_goals
    first
      | (have hP : PEnd V (((((w5.setCell ⟨V.heap.size, 0, none⟩ (.slice ca cn cc)).setCell ⟨V.heap.size, 1, none⟩ (.slice a0 n0 c0)).setCell ⟨V.heap.size, 2, none⟩ (.slice a1 n1 c1)).setCell ⟨V.heap.size, 3, none⟩ (.int .i64 q2.turn)).setCell ⟨V.heap.size, 4, none⟩ (.int .i64 q2.quiet)) V.heap.size q2 (.slice ca cn cc) (.slice a0 n0 c0) (.slice a1 n1 c1) := pendB hB5 hz5 hpf5
         generalize (((((w5.setCell ⟨V.heap.size, 0, none⟩ (.slice ca cn cc)).setCell ⟨V.heap.size, 1, none⟩ (.slice a0 n0 c0)).setCell ⟨V.heap.size, 2, none⟩ (.slice a1 n1 c1)).setCell ⟨V.heap.size, 3, none⟩ (.int .i64 q2.turn)).setCell ⟨V.heap.size, 4, none⟩ (.int .i64 q2.quiet)) = wf at hP ⊢
         obtain ⟨pb, hpb⟩ : ∃ pb, pb = V.heap.size := ⟨_, rfl⟩
         rw [← hpb] at hP ⊢
         clear hpb)
      | (have hP : PEnd V (w5.alloc (.cells #[.slice ca cn cc, .slice a0 n0 c0, .slice a1 n1 c1, .int .i64 q2.turn, .int .i64 q2.quiet] 43)) w5.heap.size q2 (.slice ca cn cc) (.slice a0 n0 c0) (.slice a1 n1 c1) := pendA hB5 hpf5
         generalize w5.alloc (.cells #[.slice ca cn cc, .slice a0 n0 c0, .slice a1 n1 c1, .int .i64 q2.turn, .int .i64 q2.quiet] 43) = wf at hP ⊢
         generalize w5.heap.size = pb at hP ⊢)
    have hWV := HB0.out.trans (HBV.out.mono HB0.out.size)
    have hWf := hWV.trans (hP.bel.mono hWV.size)
    have hV6 := HV.out.keep hWf
    obtain ⟨xa, xn, xm, hxc⟩ := hV6.now.c.form
    subst hxc
    obtain ⟨xb, yn, ym, hxc⟩ := hV6.now.a.form
    subst hxc
    obtain ⟨xc, zn, zm, hxc⟩ := hV6.now.b.form
    subst hxc
    have HV6 := Lib.hid hV6
    have HB6 := Lib.hid hWf
    obtain ⟨-, ⟨x0, x1, x2, x3, x4⟩, z16, z17⟩ := gfacts hV6.row
    have f16 := bfrozen hV6.row 16
    have HPX := Lib.hid hP.box
    have HPF : Hid (PlaceF (fun k => V.heap.size ≤ k ∧ k ≠ pb) wf q2 (.slice ca cn cc) (.slice a0 n0 c0) (.slice a1 n1 c1)) := Lib.hid hP.pl
    have HPB := Lib.hid hP.low
    have HPL : Hid (V.heap.size ≥ W.heap.size + 1) := Lib.hid (by have := HBV.out.size; have := (Array.getElem?_eq_some_iff.1 HMV.out).1; omega)
    have HMB : Hid (wf.heap[W.heap.size]? = some (.cells #[.int .i64 m1, .int .i64 m2, .int .i64 m3] 47 (0, 0))) := Lib.hid (bkeep HMV.out (HBV.out.trans (hP.bel.mono HBV.out.size)))
    have hmm : mn = n := by have := own_len hV6.mown; rw [← HN2.out] at this; exact this
    subst hmm
    have hd4 : decide ((mn : Int) ≥ 400) = false := by simp; omega
    have hd5 : decide ((400 : Int) ≤ (mn : Int)) = false := by simp; omega
    have HDW : Hid (∀ k, D k → k < W.heap.size) := Lib.hid HBR.out.ok.2.2.1
    have hbb6 : bb < wf.heap.size := hV6.lt bb hV6.db
    have hown6 : wf.ownsRow (bb + 1) 43 5 (.slice ea en ec) mn news := by
      have h1 := hV6.own
      rwa [← HN.out] at h1
    have hrb : ∀ k, Value.ownBlock (.slice ea en ec) = some k → bb + 1 ≤ k ∧ k < W.heap.size := fun k hk => ⟨(hown6.lt k hk).1, by
      obtain ⟨a, ha, rfl⟩ := own_own hV6.own hk
      exact HDW.out _ (hV6.de a ha)⟩
    have hpbW : W.heap.size ≤ pb := by have := HPL.out; have := HPB.out; omega
    have HOW := Lib.hid hown6
    have HRB2 := Lib.hid hrb
    clear hown6 hrb hWV hWf hV6 hP
    go_wp2_with fail
    have ze : wf.drew.cell? ⟨bb, 16, none⟩ = some (.slice ea en ec) := z16
    have za : (wf.alloc (.cells #[.slice xa xn xm, .slice xb yn ym, .slice xc zn zm, .int .i64 q.turn, .int .i64 q.quiet] 43)).cell? ⟨bb, 16, none⟩ = some (.slice ea en ec) := Lib.cell?_alloc_some _ z16
    have zd : (wf.alloc (.cells #[.slice xa xn xm, .slice xb yn ym, .slice xc zn zm, .int .i64 q.turn, .int .i64 q.quiet] 43)).drew.cell? ⟨bb, 16, none⟩ = some (.slice ea en ec) := za
    have zf : (wf.drew.alloc (.cells #[.slice xa xn xm, .slice xb yn ym, .slice xc zn zm, .int .i64 q.turn, .int .i64 q.quiet] 43)).cell? ⟨bb, 16, none⟩ = some (.slice ea en ec) := Lib.cell?_alloc_some _ ze
    go_region_law ((refine step_append_lies _ (by rfl) _ _ _ (by rfl) (bb + 1) 43 i0 _ 5 88 Tryz.underlying85 hi hz0 hz1 hz2 rfl (by omega) (.slice ea en ec) mn news (by rfl) ((own_below HOW.out (Below.refl _ _).drew).alloc _) ⟨wf.heap.size, 0, none⟩ 1 1 [.slice xa xn xm, .slice xb yn ym, .slice xc zn zm, .int .i64 q.turn, .int .i64 q.quiet] (by rfl) (by rfl) (World.news_of_block (cs := #[.slice xa xn xm, .slice xb yn ym, .slice xc zn zm, .int .i64 q.turn, .int .i64 q.quiet]) (t := 43) (fr := (0, 0)) (heap_alloc_new wf _)) (by simp [Value.oneCell']) (by omega) (by unfold maxLen; omega) (by omega) (by simp; omega) (wf.heap.size + 1) (by simp) ?_; intro gg cap w7 hown7 hgrow7 hat7 hlt7; have hrow7 := (hgrow7.block bb (Nat.lt_of_lt_of_le hbb6 (by simp)) (fun e => by have := (HRB2.out bb e.symm).1; omega)).trans ((Below.heap_alloc wf _ bb hbb6).trans HV6.out.row); obtain ⟨-, -, z7, -⟩ := gfacts hrow7; have f7 := bfrozen hrow7 16))
    all_goals
      obtain ⟨hA1, hA2⟩ := stepA HV6.out (X := _) (by first | exact ((Below.refl _ _).alloc (Nat.le_refl _) _).drew | exact (Below.refl _ _).alloc (Nat.le_refl _) _ | exact (Below.refl _ _).drew.alloc (Nat.le_refl _) _ | exact ((Below.refl _ _).drew.alloc (Nat.le_refl _) _).drew) hown7 hgrow7 hat7 hlt7 HN.out
      clear hrow7 hown7 hgrow7 hat7 hlt7 z7 f7 ze za zd zf z16 z17 f16 x0 x1 x2 x3 x4
      generalize w7.setCell ⟨bb, 16, none⟩ (.slice (some ⟨gg, 0, none⟩) (mn + 1) cap) = w8 at hA1 hA2 ⊢
      have HA1 := Lib.hid hA1
      have HA2 := Lib.hid hA2
      obtain ⟨-, -, -, z17⟩ := gfacts hA1.row
      have f17 := bfrozen hA1.row 17
      have hmb : w8.heap[W.heap.size]? = some (.cells #[.int .i64 m1, .int .i64 m2, .int .i64 m3] 47 (0, 0)) := (hA2.1.block _ (by have := (Array.getElem?_eq_some_iff.1 HMB.out).1; omega) (fun g => by have := HDW.out _ g; omega)).trans HMB.out
      have hmc : ∀ i, w8.cell? ⟨W.heap.size, i, none⟩ = (#[.int .i64 m1, .int .i64 m2, .int .i64 m3] : Array Value)[i]? := fun i => cell_of_row w8 _ i _ _ (0, 0) hmb
      have u0 : w8.cell? ⟨W.heap.size, 0, none⟩ = some (.int .i64 m1) := hmc 0
      have u1 : w8.cell? ⟨W.heap.size, 1, none⟩ = some (.int .i64 m2) := hmc 1
      have u2 : w8.cell? ⟨W.heap.size, 2, none⟩ = some (.int .i64 m3) := hmc 2
      have hbb8 : bb < w8.heap.size := hA1.lt bb hA1.db
      have hown8 : w8.ownsRow (bb + 1) 47 3 (.slice ma mn mk) mn (mcs ms) := by
        have h1 := hA1.mown
        rwa [← HN2.out] at h1
      have HOW8 := Lib.hid hown8
      have HRB8 : Hid (∀ k, Value.ownBlock (.slice ma mn mk) = some k → bb + 1 ≤ k) := Lib.hid (fun k hk => (hown8.lt k hk).1)
      clear hA1 hA2 hmb hmc hown8
      go_wp2_with fail
      have ze : w8.drew.cell? ⟨bb, 17, none⟩ = some (.slice ma mn mk) := z17
      have za : (w8.alloc (.cells #[.int .i64 m1, .int .i64 m2, .int .i64 m3] 47)).cell? ⟨bb, 17, none⟩ = some (.slice ma mn mk) := Lib.cell?_alloc_some _ z17
      have zd : (w8.alloc (.cells #[.int .i64 m1, .int .i64 m2, .int .i64 m3] 47)).drew.cell? ⟨bb, 17, none⟩ = some (.slice ma mn mk) := za
      have zf : (w8.drew.alloc (.cells #[.int .i64 m1, .int .i64 m2, .int .i64 m3] 47)).cell? ⟨bb, 17, none⟩ = some (.slice ma mn mk) := Lib.cell?_alloc_some _ ze
      go_region_law ((refine step_append_lies _ (by rfl) _ _ _ (by rfl) (bb + 1) 47 i1 _ 3 24 Tryz.underlying38 hi1 hy0 hy1 hy2 rfl (by omega) (.slice ma mn mk) mn (mcs ms) (by rfl) ((own_below HOW8.out (Below.refl _ _).drew).alloc _) ⟨w8.heap.size, 0, none⟩ 1 1 [.int .i64 m1, .int .i64 m2, .int .i64 m3] (by rfl) (by rfl) (World.news_of_block (cs := #[.int .i64 m1, .int .i64 m2, .int .i64 m3]) (t := 47) (fr := (0, 0)) (heap_alloc_new w8 _)) (by simp [Value.oneCell']) (by omega) (by unfold maxLen; omega) (by omega) (by simp; omega) (w8.heap.size + 1) (by simp) ?_; intro mg mcap w9 hown9 hgrow9 hat9 hlt9; have hrow9 := (hgrow9.block bb (Nat.lt_of_lt_of_le hbb8 (by simp)) (fun e => by have := HRB8.out bb e.symm; omega)).trans ((Below.heap_alloc w8 _ bb hbb8).trans HA1.out.row); obtain ⟨-, -, -, z9⟩ := gfacts hrow9; have f9 := bfrozen hrow9 17))
      all_goals
        obtain ⟨hB1, hB2⟩ := stepB (m := (m1, m2, m3)) HA1.out (X := _) (by first | exact ((Below.refl _ _).alloc (Nat.le_refl _) _).drew | exact (Below.refl _ _).alloc (Nat.le_refl _) _ | exact (Below.refl _ _).drew.alloc (Nat.le_refl _) _ | exact ((Below.refl _ _).drew.alloc (Nat.le_refl _) _).drew) hown9 hgrow9 hat9 hlt9 HN2.out
        clear hrow9 hown9 hgrow9 hat9 hlt9 z9 f9 ze za zd zf z17 f17 u0 u1 u2
        generalize w9.setCell ⟨bb, 17, none⟩ (.slice (some ⟨mg, 0, none⟩) (mn + 1) mcap) = w10 at hB1 hB2 ⊢
        have hx10 : PBox w10 pb 43 q2 (.slice ca cn cc) (.slice a0 n0 c0) (.slice a1 n1 c1) := (hB2.1.block pb (by have := HPX.out.lt; have := HA2.out.1.size; omega) (fun g => by
          have h1 := HPX.out.lt
          rcases g with g | g
          · have := HDW.out _ g; omega
          · omega)).trans ((HA2.out.1.block pb HPX.out.lt (fun g => by have := HDW.out _ g; omega)).trans HPX.out)
        have HE := Lib.hid (gplay_end HDW.out HB6.out HA2.out hB2 hB1 HV6.out.db (HPF.out.on (fun _ _ _ => rfl) (fun k hk => by have := HPL.out; omega)) HQ2.out)
        unfold fillB at HE
        have g1 := bfrozen hB1.row 11
        have g2 := bfrozen hB1.row 12
        have g3 := bfrozen hB1.row 13
        have g4 := bfrozen hB1.row 14
        have g5 := bfrozen hB1.row 15
        obtain ⟨-, ⟨u0, u1, u2, u3, u4⟩, -⟩ := gfacts hB1.row
        obtain ⟨⟨p0, p1, p2, p3, p4⟩, -⟩ := hx10.facts
        clear hx10 hB1 hB2
        go_wp2_with fail
        go_ret
        exact HE.out
end Go.Proofs.YtomclohfppbegaaGreatDoor
