/- Boards: Result, Key, Moves, Do. (Written by genbrm.py.) -/
import Derived.Test.YtdhhdkbnlddnbaaGreatDoorBrdD
import Derived.Test.YtdhhdkbnlddnbaaGreatDoorAftA
import Derived.Test.YtdhhdkbnlddnbaaGreatDoorEndA
import Derived.Deep.AppendLies
set_option maxRecDepth 100000
namespace Go.Proofs.YtdhhdkbnlddnbaaGreatDoor
open Go.ChangeShapes Go.WideShapes Go.ChangeAt Go.RowKit

set_option maxHeartbeats 2000000 in
theorem bresult {W1 : Nat → Prop} {D : Nat → Prop} {W : World} {bb : Nat} {r : RulesD} {q : PlaceD} {es : List PlaceD} (h : Brd W1 D W bb r q es) :
    Calls Tryz.prog 86 #[.pointer (some ⟨bb, 0, none⟩)] W (BelPost (.int .i64 (resultD r q)) W) := by
  obtain ⟨vp, vs, ve, vc, v0, v1, ea, en, ec, news, hv⟩ := h
  have HC : Hid (∀ W', Below W.heap.size W W' → Calls Tryz.prog 105 #[RulesV r vp vs ve, PlaceV q vc v0 v1] W' (OfPost (resultD r q) 0 W')) := Lib.hid (fun W' hb => by
    have hk := hv.keep hb
    exact of_ok r q vp vs ve vc v0 v1 W' (hk.rules W' (fun _ _ _ => rfl) (Nat.le_refl _)) hk.now.plain hk.ok (hk.dir W' (fun _ _ _ => rfl) (Nat.le_refl _)))
  have HG : Hid (∀ W', Below W.heap.size W W' → Got16 W' bb r vp vs ve q vc v0 v1) := Lib.hid (fun W' hb => got16 hv.row hb)
  unfold Got16 at HG
  obtain ⟨y0, y1, y2, y3, y4, y5, y6, y7, y8, y9, y10, x0, x1, x2, x3, x4⟩ := HG.out W (Below.refl _ _)
  unfold RulesV PlaceV PlaceCells at HC
  clear hv
  go_enter Tryz.func86, Tryz.ntmps86
  go_wp2_with fail
  have hBc : Below W.heap.size W W.drew := (Below.refl _ _).drew
  go_region_held3 (fun w' => w'.cell? ⟨bb, 0, none⟩ = some (.string r.name) ∧ w'.cell? ⟨bb, 1, none⟩ = some (.int .i64 r.width) ∧ w'.cell? ⟨bb, 2, none⟩ = some (.int .i64 r.height) ∧ w'.cell? ⟨bb, 3, none⟩ = some (vp) ∧ w'.cell? ⟨bb, 4, none⟩ = some (vs) ∧ w'.cell? ⟨bb, 5, none⟩ = some (.bool r.falls) ∧ w'.cell? ⟨bb, 6, none⟩ = some (.bool r.keeps) ∧ w'.cell? ⟨bb, 7, none⟩ = some (ve) ∧ w'.cell? ⟨bb, 8, none⟩ = some (.int .i64 r.blocked) ∧ w'.cell? ⟨bb, 9, none⟩ = some (.int .i64 r.quiet) ∧ w'.cell? ⟨bb, 10, none⟩ = some (.int .i64 r.rep) ∧ w'.cell? ⟨bb, 11, none⟩ = some (vc) ∧ w'.cell? ⟨bb, 12, none⟩ = some (v0) ∧ w'.cell? ⟨bb, 13, none⟩ = some (v1) ∧ w'.cell? ⟨bb, 14, none⟩ = some (.int .i64 q.turn) ∧ w'.cell? ⟨bb, 15, none⟩ = some (.int .i64 q.quiet)) (with_reducible exact HG.out _ hBc) (first
    | (go_at_call 105; refine (HC.out _ hBc).mono ?_; rintro e w5 ⟨rfl, hb⟩; have hB5 : Below W.heap.size W w5 := hBc.trans (hb.mono hBc.size); have hBc := hB5; clear hb))
  have HB := Lib.hid hB5
  clear hB5
  go_wp2_with fail
  go_ret
  exact ⟨rfl, HB.out⟩
theorem moves_over {W1 : Nat → Prop} {D : Nat → Prop} {W : World} {bb : Nat} {r : RulesD} {q : PlaceD} {es : List PlaceD} (h : Brd W1 D W bb r q es) (hx : resultD r q ≠ 0) :
    Calls Tryz.prog 64 #[.pointer (some ⟨bb, 0, none⟩)] W (BelPost (.slice none 0 0) W) := by
  have HR := Lib.hid (bresult h)
  obtain ⟨x, hx2⟩ : ∃ x, x = resultD r q := ⟨_, rfl⟩
  rw [← hx2] at hx HR
  have hne : (x != 0) = true := by simpa using hx
  clear h hx hx2
  go_enter Tryz.func64, Tryz.ntmps64
  go_wp2_with fail
  go_at_call 86; refine HR.out.mono ?_; rintro e w1 ⟨rfl, hb⟩
  have HB := Lib.hid hb
  clear hb HR
  go_wp2_with fail
  go_ret
  exact ⟨rfl, HB.out⟩
def BMoves (ms : List MoveD) (w : World) (e : Ending) (w' : World) : Prop := ∃ a n c, e = .returned (.slice a n c) ∧ IsSl MoveAt 3 w' (.slice a n c) ms ∧ n = ms.length ∧ Below w.heap.size w w'
set_option maxHeartbeats 2000000 in
theorem moves_open {W1 : Nat → Prop} {D : Nat → Prop} {W : World} {bb : Nat} {r : RulesD} {q : PlaceD} {es : List PlaceD} (h : Brd W1 D W bb r q es) (hx : resultD r q = 0) :
    Calls Tryz.prog 64 #[.pointer (some ⟨bb, 0, none⟩)] W (BMoves (allD r q) W) := by
  have HR := Lib.hid (bresult h)
  rw [hx] at HR
  obtain ⟨vp, vs, ve, vc, v0, v1, ea, en, ec, news, hv⟩ := h
  have HC : Hid (∀ W', Below W.heap.size W W' → Calls Tryz.prog 34 #[RulesV r vp vs ve, PlaceV q vc v0 v1] W' (ListPost (allD r q) W')) := Lib.hid (fun W' hb => by
    have hk := hv.keep hb
    exact all_ok r q vp vs ve vc v0 v1 W' (hk.rules W' (fun _ _ _ => rfl) (Nat.le_refl _)) hk.now.plain hk.ok)
  have HG : Hid (∀ W', Below W.heap.size W W' → Got16 W' bb r vp vs ve q vc v0 v1) := Lib.hid (fun W' hb => got16 hv.row hb)
  unfold Got16 at HG
  unfold RulesV PlaceV PlaceCells at HC
  obtain ⟨L, hL⟩ : ∃ L, L = allD r q := ⟨_, rfl⟩
  rw [← hL] at HC ⊢
  clear hv hx hL
  go_enter Tryz.func64, Tryz.ntmps64
  go_wp2_with fail
  go_at_call 86; refine HR.out.mono ?_; rintro e w1 ⟨rfl, hb⟩
  have HB := Lib.hid hb
  obtain ⟨y0, y1, y2, y3, y4, y5, y6, y7, y8, y9, y10, x0, x1, x2, x3, x4⟩ := HG.out w1 hb
  clear hb HR
  go_wp2_with fail
  have hBc : Below W.heap.size W w1.drew := HB.out.drew
  go_region_held3 (fun w' => w'.cell? ⟨bb, 0, none⟩ = some (.string r.name) ∧ w'.cell? ⟨bb, 1, none⟩ = some (.int .i64 r.width) ∧ w'.cell? ⟨bb, 2, none⟩ = some (.int .i64 r.height) ∧ w'.cell? ⟨bb, 3, none⟩ = some (vp) ∧ w'.cell? ⟨bb, 4, none⟩ = some (vs) ∧ w'.cell? ⟨bb, 5, none⟩ = some (.bool r.falls) ∧ w'.cell? ⟨bb, 6, none⟩ = some (.bool r.keeps) ∧ w'.cell? ⟨bb, 7, none⟩ = some (ve) ∧ w'.cell? ⟨bb, 8, none⟩ = some (.int .i64 r.blocked) ∧ w'.cell? ⟨bb, 9, none⟩ = some (.int .i64 r.quiet) ∧ w'.cell? ⟨bb, 10, none⟩ = some (.int .i64 r.rep) ∧ w'.cell? ⟨bb, 11, none⟩ = some (vc) ∧ w'.cell? ⟨bb, 12, none⟩ = some (v0) ∧ w'.cell? ⟨bb, 13, none⟩ = some (v1) ∧ w'.cell? ⟨bb, 14, none⟩ = some (.int .i64 q.turn) ∧ w'.cell? ⟨bb, 15, none⟩ = some (.int .i64 q.quiet)) (with_reducible exact HG.out _ hBc) (first
    | (go_at_call 34; refine (HC.out _ hBc).mono ?_; rintro e w5 ⟨la, ln, lc, rfl, hI, hln, hb⟩; have HLN := Lib.hid hln; clear hln; have hB5 : Below W.heap.size W w5 := hBc.trans (hb.mono hBc.size); have hBc := hB5; clear hb))
  have HB5 := Lib.hid hB5
  have HI := Lib.hid hI
  clear hB5 hI
  go_wp2_with fail
  go_ret
  exact ⟨la, ln, lc, rfl, HI.out, HLN.out, HB5.out⟩

/-! ### Do -/
theorem do_over {W1 : Nat → Prop} {D : Nat → Prop} {W : World} {bb : Nat} {r : RulesD} {q : PlaceD} {es : List PlaceD} (h : Brd W1 D W bb r q es) (hx : resultD r q ≠ 0) (m : MoveD) :
    Calls Tryz.prog 87 #[.pointer (some ⟨bb, 0, none⟩), moveV m] W (BelPost (.int .i64 14) W) := by
  have hb0 : Below W.heap.size W (W.alloc (.cells #[.int .i64 m.1, .int .i64 m.2.1, .int .i64 m.2.2] 37)) := (Below.refl _ _).alloc (Nat.le_refl _) _
  have HB0 := Lib.hid hb0
  have HR := Lib.hid (bresult (h.keep hb0))
  obtain ⟨x, hx2⟩ : ∃ x, x = resultD r q := ⟨_, rfl⟩
  rw [← hx2] at hx HR
  have hne : (x != 0) = true := by simpa using hx
  clear h hx hx2 hb0
  unfold moveV
  go_enter Tryz.func87, Tryz.ntmps87
  go_wp2_with fail
  go_at_call 86; refine HR.out.mono ?_; rintro e w1 ⟨rfl, hb⟩
  have HB := Lib.hid (HB0.out.trans (hb.mono HB0.out.size))
  clear hb HR HB0
  go_wp2_with fail
  go_ret
  exact ⟨rfl, HB.out⟩
set_option maxHeartbeats 4000000 in
theorem do_bad {W1 : Nat → Prop} {D : Nat → Prop} {W : World} {bb : Nat} {r : RulesD} {q : PlaceD} {es : List PlaceD} (h : Brd W1 D W bb r q es) (hx : resultD r q = 0) (m : MoveD) (hl : legalB r q m = false) :
    Calls Tryz.prog 87 #[.pointer (some ⟨bb, 0, none⟩), moveV m] W (BelPost (.int .i64 13) W) := by
  obtain ⟨m1, m2, m3⟩ := m
  obtain ⟨U, hU⟩ : ∃ U, U = W.alloc (.cells #[.int .i64 m1, .int .i64 m2, .int .i64 m3] 37) := ⟨_, rfl⟩
  have hb0 : Below W.heap.size W U := by rw [hU]; exact (Below.refl _ _).alloc (Nat.le_refl _) _
  have hmv : U.heap[W.heap.size]? = some (.cells #[.int .i64 m1, .int .i64 m2, .int .i64 m3] 37 (0, 0)) := by rw [hU]; exact heap_alloc_new W _
  have HR : Hid (Calls Tryz.prog 86 #[.pointer (some ⟨bb, 0, none⟩)] U (BelPost (.int .i64 0) U)) := Lib.hid (by
    have h1 := bresult (h.keep hb0)
    rwa [hx] at h1)
  have HBR := Lib.hid h
  obtain ⟨vp, vs, ve, vc, v0, v1, ea, en, ec, news, hv⟩ := h
  have HC : Hid (∀ W', Below U.heap.size U W' → Calls Tryz.prog 17 #[RulesV r vp vs ve, PlaceV q vc v0 v1, moveV (m1, m2, m3)] W' (PBad 13 W')) := Lib.hid (fun W' hb => by
    have hk := hv.keep (hb0.trans (hb.mono hb0.size))
    refine (After_any r q vp vs ve vc v0 v1 (m1, m2, m3) W' (hk.rules W' (fun _ _ _ => rfl) (Nat.le_refl _)) hk.now.plain).mono fun _ _ h2 => ?_
    have he : afterE r q (m1, m2, m3) = 13 := by rw [afterE, if_pos (placeE_iff.2 hv.ok), if_neg (by rw [hl]; simp)]
    rcases h2 with ⟨h2, _⟩ | ⟨_, h2⟩
    · rw [he] at h2; cases h2
    · rw [he] at h2; exact h2)
  have HG : Hid (∀ W', Below U.heap.size U W' → W'.cell? ⟨bb, 0, none⟩ = some (.string r.name) ∧ W'.cell? ⟨bb, 1, none⟩ = some (.int .i64 r.width) ∧ W'.cell? ⟨bb, 2, none⟩ = some (.int .i64 r.height) ∧ W'.cell? ⟨bb, 3, none⟩ = some (vp) ∧ W'.cell? ⟨bb, 4, none⟩ = some (vs) ∧ W'.cell? ⟨bb, 5, none⟩ = some (.bool r.falls) ∧ W'.cell? ⟨bb, 6, none⟩ = some (.bool r.keeps) ∧ W'.cell? ⟨bb, 7, none⟩ = some (ve) ∧ W'.cell? ⟨bb, 8, none⟩ = some (.int .i64 r.blocked) ∧ W'.cell? ⟨bb, 9, none⟩ = some (.int .i64 r.quiet) ∧ W'.cell? ⟨bb, 10, none⟩ = some (.int .i64 r.rep) ∧ W'.cell? ⟨bb, 11, none⟩ = some (vc) ∧ W'.cell? ⟨bb, 12, none⟩ = some (v0) ∧ W'.cell? ⟨bb, 13, none⟩ = some (v1) ∧ W'.cell? ⟨bb, 14, none⟩ = some (.int .i64 q.turn) ∧ W'.cell? ⟨bb, 15, none⟩ = some (.int .i64 q.quiet) ∧ W'.cell? ⟨W.heap.size, 0, none⟩ = some (.int .i64 m1) ∧ W'.cell? ⟨W.heap.size, 1, none⟩ = some (.int .i64 m2) ∧ W'.cell? ⟨W.heap.size, 2, none⟩ = some (.int .i64 m3)) := Lib.hid (fun W' hb => by
    have h16 := got16 hv.row (hb0.trans (hb.mono hb0.size))
    unfold Got16 at h16
    obtain ⟨y0, y1, y2, y3, y4, y5, y6, y7, y8, y9, y10, x0, x1, x2, x3, x4⟩ := h16
    have hm := bkeep hmv hb
    have hc : ∀ i, W'.cell? ⟨W.heap.size, i, none⟩ = (#[.int .i64 m1, .int .i64 m2, .int .i64 m3] : Array Value)[i]? := fun i => cell_of_row W' _ i _ _ (0, 0) hm
    exact ⟨y0, y1, y2, y3, y4, y5, y6, y7, y8, y9, y10, x0, x1, x2, x3, x4, hc 0, hc 1, hc 2⟩)
  have HV := Lib.hid hv
  have HB0 := Lib.hid hb0
  unfold RulesV PlaceV PlaceCells at HC
  unfold moveV at HC ⊢
  dsimp only at HC ⊢
  clear hv hx hl hb0 hmv
  go_enter Tryz.func87, Tryz.ntmps87
  go_wp2_with fail
  rw [← hU]
  clear hU
  go_at_call 86; refine HR.out.mono ?_; rintro e V ⟨rfl, hbV⟩
  obtain ⟨y0, y1, y2, y3, y4, y5, y6, y7, y8, y9, y10, x0, x1, x2, x3, x4, z0, z1, z2⟩ := HG.out V hbV
  have HBV := Lib.hid hbV
  have HG2 := HG
  have HC2 := HC
  clear HG HC
  have HG : Hid (∀ W', Below V.heap.size V W' → W'.cell? ⟨bb, 0, none⟩ = some (.string r.name) ∧ W'.cell? ⟨bb, 1, none⟩ = some (.int .i64 r.width) ∧ W'.cell? ⟨bb, 2, none⟩ = some (.int .i64 r.height) ∧ W'.cell? ⟨bb, 3, none⟩ = some (vp) ∧ W'.cell? ⟨bb, 4, none⟩ = some (vs) ∧ W'.cell? ⟨bb, 5, none⟩ = some (.bool r.falls) ∧ W'.cell? ⟨bb, 6, none⟩ = some (.bool r.keeps) ∧ W'.cell? ⟨bb, 7, none⟩ = some (ve) ∧ W'.cell? ⟨bb, 8, none⟩ = some (.int .i64 r.blocked) ∧ W'.cell? ⟨bb, 9, none⟩ = some (.int .i64 r.quiet) ∧ W'.cell? ⟨bb, 10, none⟩ = some (.int .i64 r.rep) ∧ W'.cell? ⟨bb, 11, none⟩ = some (vc) ∧ W'.cell? ⟨bb, 12, none⟩ = some (v0) ∧ W'.cell? ⟨bb, 13, none⟩ = some (v1) ∧ W'.cell? ⟨bb, 14, none⟩ = some (.int .i64 q.turn) ∧ W'.cell? ⟨bb, 15, none⟩ = some (.int .i64 q.quiet) ∧ W'.cell? ⟨W.heap.size, 0, none⟩ = some (.int .i64 m1) ∧ W'.cell? ⟨W.heap.size, 1, none⟩ = some (.int .i64 m2) ∧ W'.cell? ⟨W.heap.size, 2, none⟩ = some (.int .i64 m3)) := Lib.hid (fun W' hb => HG2.out W' (hbV.trans (hb.mono hbV.size)))
  have HC := Lib.hid (fun W' (hb : Below V.heap.size V W') => HC2.out W' (hbV.trans (hb.mono hbV.size)))
  clear HG2 HC2 HR hbV
  go_wp2_with fail
  have hBc : Below V.heap.size V V.drew := (Below.refl _ _).drew
  have hBd : ∀ o, Below V.heap.size V (V.alloc o) := fun o => (Below.refl _ _).alloc (Nat.le_refl _) _
  have hBe : ∀ o, Below V.heap.size V (V.alloc o).drew := fun o => (hBd o).drew
  have hBf : ∀ o, Below V.heap.size V (V.drew.alloc o) := fun o => hBc.alloc hBc.size _
  go_region_held3 (fun w' => w'.cell? ⟨bb, 0, none⟩ = some (.string r.name) ∧ w'.cell? ⟨bb, 1, none⟩ = some (.int .i64 r.width) ∧ w'.cell? ⟨bb, 2, none⟩ = some (.int .i64 r.height) ∧ w'.cell? ⟨bb, 3, none⟩ = some (vp) ∧ w'.cell? ⟨bb, 4, none⟩ = some (vs) ∧ w'.cell? ⟨bb, 5, none⟩ = some (.bool r.falls) ∧ w'.cell? ⟨bb, 6, none⟩ = some (.bool r.keeps) ∧ w'.cell? ⟨bb, 7, none⟩ = some (ve) ∧ w'.cell? ⟨bb, 8, none⟩ = some (.int .i64 r.blocked) ∧ w'.cell? ⟨bb, 9, none⟩ = some (.int .i64 r.quiet) ∧ w'.cell? ⟨bb, 10, none⟩ = some (.int .i64 r.rep) ∧ w'.cell? ⟨bb, 11, none⟩ = some (vc) ∧ w'.cell? ⟨bb, 12, none⟩ = some (v0) ∧ w'.cell? ⟨bb, 13, none⟩ = some (v1) ∧ w'.cell? ⟨bb, 14, none⟩ = some (.int .i64 q.turn) ∧ w'.cell? ⟨bb, 15, none⟩ = some (.int .i64 q.quiet) ∧ w'.cell? ⟨W.heap.size, 0, none⟩ = some (.int .i64 m1) ∧ w'.cell? ⟨W.heap.size, 1, none⟩ = some (.int .i64 m2) ∧ w'.cell? ⟨W.heap.size, 2, none⟩ = some (.int .i64 m3)) (first | with_reducible exact HG.out _ hBc | with_reducible exact HG.out _ (hBe _) | with_reducible exact HG.out _ (hBf _) | with_reducible exact HG.out _ (hBd _) | with_reducible exact HG.out _ (hBc.alloc hBc.size _) | with_reducible exact HG.out _ (hBs _ _ _ _ _)) (first
    | (go_at_call 17; refine (HC.out _ (by first | exact hBc | exact hBe _ | exact hBf _ | exact hBd _)).mono ?_; rintro e w5 ⟨rfl, hb⟩; have hB5 : Below V.heap.size V w5 := (by first | exact hBc.trans (hb.mono hBc.size) | exact (hBe _).trans (hb.mono (hBe _).size) | exact (hBf _).trans (hb.mono (hBf _).size) | exact (hBd _).trans (hb.mono (hBd _).size)); have hBc := hB5; have hBs : ∀ a b c d e, Below V.heap.size V (((((w5.setCell ⟨V.heap.size, 0, none⟩ a).setCell ⟨V.heap.size, 1, none⟩ b).setCell ⟨V.heap.size, 2, none⟩ c).setCell ⟨V.heap.size, 3, none⟩ d).setCell ⟨V.heap.size, 4, none⟩ e) := (fun a b c d e => ((((hB5.setCell (Nat.le_refl _) a).setCell (Nat.le_refl _) b).setCell (Nat.le_refl _) c).setCell (Nat.le_refl _) d).setCell (Nat.le_refl _) e); first | (have hz5 : PBox w5 V.heap.size 29 zeroP (.slice none 0 0) (.slice none 0 0) (.slice none 0 0) := hA_dr hb; obtain ⟨⟨k0, k1, k2, k3, k4⟩, l0, l1, l2, l3, l4⟩ := hz5.facts; unfold zeroP at k3 k4) | (have hz5 : PBox w5 V.heap.size 29 zeroP (.slice none 0 0) (.slice none 0 0) (.slice none 0 0) := hA_of hb; obtain ⟨⟨k0, k1, k2, k3, k4⟩, l0, l1, l2, l3, l4⟩ := hz5.facts; unfold zeroP at k3 k4) | skip; clear hb))
  all_goals
    first
      | (have hzz := hz5
         clear hzz
         have hP := hBs (.slice none 0 0) (.slice none 0 0) (.slice none 0 0) (.int .i64 0) (.int .i64 0)
         generalize (((((w5.setCell ⟨V.heap.size, 0, none⟩ (.slice none 0 0)).setCell ⟨V.heap.size, 1, none⟩ (.slice none 0 0)).setCell ⟨V.heap.size, 2, none⟩ (.slice none 0 0)).setCell ⟨V.heap.size, 3, none⟩ (.int .i64 0)).setCell ⟨V.heap.size, 4, none⟩ (.int .i64 0)) = wf at hP ⊢)
      | (have hP : Below V.heap.size V (w5.alloc (.cells #[.slice none 0 0, .slice none 0 0, .slice none 0 0, .int .i64 0, .int .i64 0] 29)) := hB5.alloc hB5.size _
         generalize w5.alloc (.cells #[.slice none 0 0, .slice none 0 0, .slice none 0 0, .int .i64 0, .int .i64 0] 29) = wf at hP ⊢)
    have HP := Lib.hid (HB0.out.trans ((HBV.out.trans (hP.mono HBV.out.size)).mono HB0.out.size))
    clear hP
    go_wp2_with fail
    go_ret
    exact ⟨rfl, HP.out⟩
def DoOk (W1 : Nat → Prop) (D : Nat → Prop) (bb : Nat) (r : RulesD) (q : PlaceD) (es : List PlaceD) (w : World) (e : Ending) (w' : World) : Prop := e = .returned (.int .i64 0) ∧ Brd W1 (Grow D w w') w' bb r q es ∧ Fram D w w'
theorem infoPos : (Tryz.prog.info? 29).map (fun i => (i.zero, i.size, i.bytes)) = some (some (.agg #[.slice none 0 0, .slice none 0 0, .slice none 0 0, .int .i64 0, .int .i64 0]), 5, 88) := by kernel_rfl
theorem do_end {W1 : Nat → Prop} {D : Nat → Prop} {W w6 X w7 : World} {bb gg n cap : Nat} {r : RulesD} {q q2 : PlaceD} {es : List PlaceD} {vp vs ve : Value} {ea xa xb xc ca a0 a1 : Option Addr} {en ec xn xm yn ym zn zm cn cc n0 c0 n1 c1 : Nat} {news : List Value} (hDW : ∀ k, D k → k < W.heap.size) (hB6 : Below W.heap.size W w6)
    (hV : BrdV W1 D w6 bb r q es vp vs ve (.slice xa xn xm) (.slice xb yn ym) (.slice xc zn zm) ea en ec news) (hP : PlaceF (fun k => W.heap.size ≤ k) w6 q2 (.slice ca cn cc) (.slice a0 n0 c0) (.slice a1 n1 c1)) (hX : Below w6.heap.size w6 X)
    (hown : w7.ownsRow (bb + 1) 29 5 (.slice (some ⟨gg, 0, none⟩) (n + 1) cap) (n + 1) (news ++ [.slice xa xn xm, .slice xb yn ym, .slice xc zn zm, .int .i64 q.turn, .int .i64 q.quiet])) (hgrow : X.grownBy w7 (Value.ownBlock (.slice ea en ec))) (hat : Value.ownBlock (.slice ea en ec) = some gg ∨ gg = w6.heap.size + 1) (hlt : gg < w7.heap.size)
    (hn : n = es.length) (hq2 : POkay r q2) :
    DoOk W1 D bb r q2 (es ++ [q]) W (.returned (.int .i64 0)) ((((((w7.setCell ⟨bb, 16, none⟩ (.slice (some ⟨gg, 0, none⟩) (n + 1) cap)).setCell ⟨bb, 11, none⟩ (.slice ca cn cc)).setCell ⟨bb, 12, none⟩ (.slice a0 n0 c0)).setCell ⟨bb, 13, none⟩ (.slice a1 n1 c1)).setCell ⟨bb, 14, none⟩ (.int .i64 q2.turn)).setCell ⟨bb, 15, none⟩ (.int .i64 q2.quiet)) := by
  have hbbW := hDW bb hV.db
  have hrb : ∀ k, Value.ownBlock (.slice ea en ec) = some k → bb + 1 ≤ k ∧ D k := fun k hk => ⟨(hV.own.lt k hk).1, by
    cases ea with
    | none => simp [Value.ownBlock] at hk
    | some a => simp [Value.ownBlock] at hk; rw [← hk]; exact hV.de a rfl⟩
  have hgb : bb + 1 ≤ gg := (hown.lt gg rfl).1
  have hs6 : W.heap.size ≤ w6.heap.size := hB6.size
  have hnl : news.length = n * 5 := by rw [hV.own.1, hn]
  have h7 : ∀ k, k < w6.heap.size → Value.ownBlock (.slice ea en ec) ≠ some k → w7.heap[k]? = w6.heap[k]? := fun k hk hne => (hgrow.block k (by have := hX.size; omega) (fun e => hne e.symm)).trans (hX.block k hk)
  obtain ⟨w8, hw8⟩ : ∃ w8, w8 = w7.setCell ⟨bb, 16, none⟩ (.slice (some ⟨gg, 0, none⟩) (n + 1) cap) := ⟨_, rfl⟩
  obtain ⟨WF, hWF⟩ : ∃ WF, WF = fillB w8 bb q2 (.slice ca cn cc) (.slice a0 n0 c0) (.slice a1 n1 c1) := ⟨_, rfl⟩
  have hrow7 : w7.heap[bb]? = _ := (h7 bb (hV.lt bb hV.db) (fun e => by have := (hrb bb e).1; omega)).trans hV.row
  have hrow8 := bset16 hrow7 (.slice (some ⟨gg, 0, none⟩) (n + 1) cap)
  rw [← hw8] at hrow8
  have hrowF := fillB_row hrow8 q2 (.slice ca cn cc) (.slice a0 n0 c0) (.slice a1 n1 c1)
  have hoF := fillB_other w8 bb q2 (.slice ca cn cc) (.slice a0 n0 c0) (.slice a1 n1 c1)
  rw [← hWF] at hrowF hoF
  have hF7 : ∀ k, k ≠ bb → WF.heap[k]? = w7.heap[k]? := fun k hk => (hoF.1 k hk).trans (by rw [hw8]; exact heap_setCell_other _ _ _ _ hk)
  have hsF : WF.heap.size = w7.heap.size := by rw [hoF.2, hw8, World.size_setCell]
  have hs7 : w6.heap.size ≤ w7.heap.size := Nat.le_trans hX.size hgrow.size
  have hBF : ∀ B, B ≤ bb → Below B w6 WF := fun B hB => by
    rw [hWF, hw8]
    have hbw : B ≤ w6.heap.size := by omega
    exact fillB_below (((hX.mono hbw).grown hgrow (Nat.le_trans hbw hX.size) (fun k hk => by have := (hrb k hk).1; omega)).setCell hB _) hB q2 _ _ _
  have hF6 : ∀ k, k < w6.heap.size → k ≠ bb → Value.ownBlock (.slice ea en ec) ≠ some k → WF.heap[k]? = w6.heap[k]? := fun k h1 h2 h3 => (hF7 k h2).trans (h7 k h1 h3)
  have hgg : ∀ k, k < w6.heap.size → Value.ownBlock (.slice ea en ec) ≠ some k → k ≠ gg := fun k h1 h2 e => by
    rcases hat with h | h
    · exact h2 (by rw [e]; exact h)
    · omega
  have hok : ∀ k, BOk D bb ea k → Value.ownBlock (.slice ea en ec) ≠ some k := fun k hk e => by
    cases ea with
    | none => simp [Value.ownBlock] at e
    | some a => simp [Value.ownBlock] at e; exact hk.2.2 a rfl e.symm
  have hlo : ∀ k, k < bb → W1 k → WF.heap[k]? = w6.heap[k]? := fun k hk _ => hF6 k (by omega) (by omega) (fun e => by have := (hrb k e).1; omega)
  unfold fillB at hWF
  rw [hw8] at hWF
  rw [← hWF]
  clear hWF hw8
  have hold : ∀ p (u0 u1 u2 : Value), PlaceF (BOk D bb ea) w6 p u0 u1 u2 → PlaceF (BOk (Grow D W WF) bb (some ⟨gg, 0, none⟩)) WF p u0 u1 u2 := fun p u0 u1 u2 h => h.lt.on (fun k hk hl => hF6 k hl hk.1.2.1 (hok k hk.1)) (fun k hk => ⟨.inl hk.1.1, hk.1.2.1, fun a ha => by cases ha; exact hgg k hk.2 (hok k hk.1)⟩)
  refine ⟨rfl, ⟨vp, vs, ve, .slice ca cn cc, .slice a0 n0 c0, .slice a1 n1 c1, some ⟨gg, 0, none⟩, n + 1, cap, news ++ [.slice xa xn xm, .slice xb yn ym, .slice xc zn zm, .int .i64 q.turn, .int .i64 q.quiet], ?_⟩, ?_⟩
  · exact
      { row := hrowF, rules := hV.rules.on hlo (by omega), dir := hV.dir.on hlo (by omega)
        now := hP.lt.on (fun k hk hl => hF6 k hl (by omega) (fun e => by have := hDW k (hrb k e).2; omega)) (fun k hk => ⟨.inr ⟨hk.1, by omega⟩, by omega, fun a ha => by cases ha; exact hgg k hk.2 (fun e => by have := hDW k (hrb k e).2; omega)⟩)
        own := by
          have h1 := own_keep hown (hF7 gg (by omega))
          rw [List.length_append, ← hn]; exact h1
        old := fun i p hi => by
          by_cases hin : i < n
          · rw [List.getElem?_append_left (by omega)] at hi
            obtain ⟨ca', cn', cc', a0', n0', c0', a1', n1', c1', h1, h2⟩ := hV.old i p hi
            exact ⟨ca', cn', cc', a0', n0', c0', a1', n1', c1', fun j hj => by rw [List.getElem?_append_left (by omega)]; exact h1 j hj, hold _ _ _ _ h2⟩
          · have hi2 := (List.getElem?_eq_some_iff.1 hi).1
            simp at hi2
            obtain rfl : i = n := by omega
            rw [List.getElem?_append_right (by omega), hn] at hi
            simp at hi
            subst hi
            refine ⟨xa, xn, xm, xb, yn, ym, xc, zn, zm, fun j hj => ?_, hold _ _ _ _ hV.now⟩
            rw [List.getElem?_append_right (by omega), hnl, Nat.add_sub_cancel_left]
            match j, hj with
            | 0, _ => rfl
            | 1, _ => rfl
            | 2, _ => rfl
            | 3, _ => rfl
            | 4, _ => rfl
        db := .inl hV.db
        de := fun a ha => by
          cases ha
          rcases hat with h | h
          · exact .inl (hrb gg h).2
          · exact .inr ⟨by show W.heap.size ≤ gg; omega, by show gg < WF.heap.size; omega⟩
        lt := fun k hk => by
          rcases hk with h | h
          · have := hV.lt k h; omega
          · exact h.2
        ok := hq2
        oks := fun p hp => by
          rcases List.mem_append.1 hp with h | h
          · exact hV.oks p h
          · rw [List.mem_singleton.1 h]; exact hV.ok }
  · have h0 := hBF 0 (Nat.zero_le _)
    exact ⟨h0.os.trans hB6.os, h0.tape.trans hB6.tape, h0.output.trans hB6.output, by omega, fun k hk hd => (hF6 k (by omega) (fun e => hd (e ▸ hV.db)) (fun e => hd (hrb k e).2)).trans (hB6.block k hk)⟩
set_option maxHeartbeats 4000000 in
theorem do_ok {W1 : Nat → Prop} {D : Nat → Prop} {W : World} {bb : Nat} {r : RulesD} {q : PlaceD} {es : List PlaceD} (h : Brd W1 D W bb r q es) (hx : resultD r q = 0) (m : MoveD) (hl : legalB r q m = true) (hn : es.length ≤ 100) :
    Calls Tryz.prog 87 #[.pointer (some ⟨bb, 0, none⟩), moveV m] W (DoOk W1 D bb r (afterD r q m) (es ++ [q]) W) := by
  obtain ⟨i0, hi, hz0, hz1, hz2⟩ := info_parts infoPos
  obtain ⟨q2, hq2⟩ : ∃ q2, q2 = afterD r q m := ⟨_, rfl⟩
  have HQ2 : Hid (POkay r q2) := Lib.hid (by rw [hq2]; exact after_ok h.ok.1 (legal_ok h.ok.1 hl))
  rw [← hq2]
  obtain ⟨m1, m2, m3⟩ := m
  obtain ⟨U, hU⟩ : ∃ U, U = W.alloc (.cells #[.int .i64 m1, .int .i64 m2, .int .i64 m3] 37) := ⟨_, rfl⟩
  have hb0 : Below W.heap.size W U := by rw [hU]; exact (Below.refl _ _).alloc (Nat.le_refl _) _
  have hmv : U.heap[W.heap.size]? = some (.cells #[.int .i64 m1, .int .i64 m2, .int .i64 m3] 37 (0, 0)) := by rw [hU]; exact heap_alloc_new W _
  have HR : Hid (Calls Tryz.prog 86 #[.pointer (some ⟨bb, 0, none⟩)] U (BelPost (.int .i64 0) U)) := Lib.hid (by
    have h1 := bresult (h.keep hb0)
    rwa [hx] at h1)
  have HBR := Lib.hid h
  obtain ⟨vp, vs, ve, vc, v0, v1, ea, en, ec, news, hv⟩ := h
  have HC : Hid (∀ W', Below U.heap.size U W' → Calls Tryz.prog 17 #[RulesV r vp vs ve, PlaceV q vc v0 v1, moveV (m1, m2, m3)] W' (MadeP q2 W')) := Lib.hid (fun W' hb => by
    have hk := hv.keep (hb0.trans (hb.mono hb0.size))
    refine (After_any r q vp vs ve vc v0 v1 (m1, m2, m3) W' (hk.rules W' (fun _ _ _ => rfl) (Nat.le_refl _)) hk.now.plain).mono fun _ _ h2 => ?_
    have he : afterE r q (m1, m2, m3) = 0 := by rw [afterE, if_pos (placeE_iff.2 hv.ok), if_pos hl]
    rcases h2 with ⟨_, h2⟩ | ⟨h2, _⟩
    · rw [hq2]; exact h2
    · exact absurd he h2)
  have HG : Hid (∀ W', Below U.heap.size U W' → W'.cell? ⟨bb, 0, none⟩ = some (.string r.name) ∧ W'.cell? ⟨bb, 1, none⟩ = some (.int .i64 r.width) ∧ W'.cell? ⟨bb, 2, none⟩ = some (.int .i64 r.height) ∧ W'.cell? ⟨bb, 3, none⟩ = some (vp) ∧ W'.cell? ⟨bb, 4, none⟩ = some (vs) ∧ W'.cell? ⟨bb, 5, none⟩ = some (.bool r.falls) ∧ W'.cell? ⟨bb, 6, none⟩ = some (.bool r.keeps) ∧ W'.cell? ⟨bb, 7, none⟩ = some (ve) ∧ W'.cell? ⟨bb, 8, none⟩ = some (.int .i64 r.blocked) ∧ W'.cell? ⟨bb, 9, none⟩ = some (.int .i64 r.quiet) ∧ W'.cell? ⟨bb, 10, none⟩ = some (.int .i64 r.rep) ∧ W'.cell? ⟨bb, 11, none⟩ = some (vc) ∧ W'.cell? ⟨bb, 12, none⟩ = some (v0) ∧ W'.cell? ⟨bb, 13, none⟩ = some (v1) ∧ W'.cell? ⟨bb, 14, none⟩ = some (.int .i64 q.turn) ∧ W'.cell? ⟨bb, 15, none⟩ = some (.int .i64 q.quiet) ∧ W'.cell? ⟨W.heap.size, 0, none⟩ = some (.int .i64 m1) ∧ W'.cell? ⟨W.heap.size, 1, none⟩ = some (.int .i64 m2) ∧ W'.cell? ⟨W.heap.size, 2, none⟩ = some (.int .i64 m3)) := Lib.hid (fun W' hb => by
    have h16 := got16 hv.row (hb0.trans (hb.mono hb0.size))
    unfold Got16 at h16
    obtain ⟨y0, y1, y2, y3, y4, y5, y6, y7, y8, y9, y10, x0, x1, x2, x3, x4⟩ := h16
    have hm := bkeep hmv hb
    have hc : ∀ i, W'.cell? ⟨W.heap.size, i, none⟩ = (#[.int .i64 m1, .int .i64 m2, .int .i64 m3] : Array Value)[i]? := fun i => cell_of_row W' _ i _ _ (0, 0) hm
    exact ⟨y0, y1, y2, y3, y4, y5, y6, y7, y8, y9, y10, x0, x1, x2, x3, x4, hc 0, hc 1, hc 2⟩)
  have HV := Lib.hid hv
  have HB0 := Lib.hid hb0
  unfold RulesV PlaceV PlaceCells at HC
  unfold moveV at HC ⊢
  dsimp only at HC ⊢
  obtain ⟨n, hnn⟩ : ∃ n, n = es.length := ⟨_, rfl⟩
  rw [← hnn] at hn
  have HN := Lib.hid hnn
  clear hv hx hl hb0 hmv hq2 hnn
  go_enter Tryz.func87, Tryz.ntmps87
  go_wp2_with fail
  rw [← hU]
  clear hU
  go_at_call 86; refine HR.out.mono ?_; rintro e V ⟨rfl, hbV⟩
  obtain ⟨y0, y1, y2, y3, y4, y5, y6, y7, y8, y9, y10, x0, x1, x2, x3, x4, z0, z1, z2⟩ := HG.out V hbV
  have HBV := Lib.hid hbV
  have HG2 := HG
  have HC2 := HC
  clear HG HC
  have HG : Hid (∀ W', Below V.heap.size V W' → W'.cell? ⟨bb, 0, none⟩ = some (.string r.name) ∧ W'.cell? ⟨bb, 1, none⟩ = some (.int .i64 r.width) ∧ W'.cell? ⟨bb, 2, none⟩ = some (.int .i64 r.height) ∧ W'.cell? ⟨bb, 3, none⟩ = some (vp) ∧ W'.cell? ⟨bb, 4, none⟩ = some (vs) ∧ W'.cell? ⟨bb, 5, none⟩ = some (.bool r.falls) ∧ W'.cell? ⟨bb, 6, none⟩ = some (.bool r.keeps) ∧ W'.cell? ⟨bb, 7, none⟩ = some (ve) ∧ W'.cell? ⟨bb, 8, none⟩ = some (.int .i64 r.blocked) ∧ W'.cell? ⟨bb, 9, none⟩ = some (.int .i64 r.quiet) ∧ W'.cell? ⟨bb, 10, none⟩ = some (.int .i64 r.rep) ∧ W'.cell? ⟨bb, 11, none⟩ = some (vc) ∧ W'.cell? ⟨bb, 12, none⟩ = some (v0) ∧ W'.cell? ⟨bb, 13, none⟩ = some (v1) ∧ W'.cell? ⟨bb, 14, none⟩ = some (.int .i64 q.turn) ∧ W'.cell? ⟨bb, 15, none⟩ = some (.int .i64 q.quiet) ∧ W'.cell? ⟨W.heap.size, 0, none⟩ = some (.int .i64 m1) ∧ W'.cell? ⟨W.heap.size, 1, none⟩ = some (.int .i64 m2) ∧ W'.cell? ⟨W.heap.size, 2, none⟩ = some (.int .i64 m3)) := Lib.hid (fun W' hb => HG2.out W' (hbV.trans (hb.mono hbV.size)))
  have HC := Lib.hid (fun W' (hb : Below V.heap.size V W') => HC2.out W' (hbV.trans (hb.mono hbV.size)))
  clear HG2 HC2 HR hbV
  go_wp2_with fail
  have hBc : Below V.heap.size V V.drew := (Below.refl _ _).drew
  have hBd : ∀ o, Below V.heap.size V (V.alloc o) := fun o => (Below.refl _ _).alloc (Nat.le_refl _) _
  have hBe : ∀ o, Below V.heap.size V (V.alloc o).drew := fun o => (hBd o).drew
  have hBf : ∀ o, Below V.heap.size V (V.drew.alloc o) := fun o => hBc.alloc hBc.size _
  go_region_held3 (fun w' => w'.cell? ⟨bb, 0, none⟩ = some (.string r.name) ∧ w'.cell? ⟨bb, 1, none⟩ = some (.int .i64 r.width) ∧ w'.cell? ⟨bb, 2, none⟩ = some (.int .i64 r.height) ∧ w'.cell? ⟨bb, 3, none⟩ = some (vp) ∧ w'.cell? ⟨bb, 4, none⟩ = some (vs) ∧ w'.cell? ⟨bb, 5, none⟩ = some (.bool r.falls) ∧ w'.cell? ⟨bb, 6, none⟩ = some (.bool r.keeps) ∧ w'.cell? ⟨bb, 7, none⟩ = some (ve) ∧ w'.cell? ⟨bb, 8, none⟩ = some (.int .i64 r.blocked) ∧ w'.cell? ⟨bb, 9, none⟩ = some (.int .i64 r.quiet) ∧ w'.cell? ⟨bb, 10, none⟩ = some (.int .i64 r.rep) ∧ w'.cell? ⟨bb, 11, none⟩ = some (vc) ∧ w'.cell? ⟨bb, 12, none⟩ = some (v0) ∧ w'.cell? ⟨bb, 13, none⟩ = some (v1) ∧ w'.cell? ⟨bb, 14, none⟩ = some (.int .i64 q.turn) ∧ w'.cell? ⟨bb, 15, none⟩ = some (.int .i64 q.quiet) ∧ w'.cell? ⟨W.heap.size, 0, none⟩ = some (.int .i64 m1) ∧ w'.cell? ⟨W.heap.size, 1, none⟩ = some (.int .i64 m2) ∧ w'.cell? ⟨W.heap.size, 2, none⟩ = some (.int .i64 m3)) (first | with_reducible exact HG.out _ hBc | with_reducible exact HG.out _ (hBe _) | with_reducible exact HG.out _ (hBf _) | with_reducible exact HG.out _ (hBd _) | with_reducible exact HG.out _ (hBc.alloc hBc.size _) | with_reducible exact HG.out _ (hBs _ _ _ _ _)) (first
    | (go_at_call 17; refine (HC.out _ (by first | exact hBc | exact hBe _ | exact hBf _ | exact hBd _)).mono ?_; rintro e w5 ⟨ca, cn, cc, a0, n0, c0, a1, n1, c1, rfl, hpf, hb⟩; have hB5 : Below V.heap.size V w5 := (by first | exact hBc.trans (hb.mono hBc.size) | exact (hBe _).trans (hb.mono (hBe _).size) | exact (hBf _).trans (hb.mono (hBf _).size) | exact (hBd _).trans (hb.mono (hBd _).size)); have hBc := hB5; have hBs : ∀ a b c d e, Below V.heap.size V (((((w5.setCell ⟨V.heap.size, 0, none⟩ a).setCell ⟨V.heap.size, 1, none⟩ b).setCell ⟨V.heap.size, 2, none⟩ c).setCell ⟨V.heap.size, 3, none⟩ d).setCell ⟨V.heap.size, 4, none⟩ e) := (fun a b c d e => ((((hB5.setCell (Nat.le_refl _) a).setCell (Nat.le_refl _) b).setCell (Nat.le_refl _) c).setCell (Nat.le_refl _) d).setCell (Nat.le_refl _) e); first | (have hz5 : PBox w5 V.heap.size 29 zeroP (.slice none 0 0) (.slice none 0 0) (.slice none 0 0) := hA_dr hb; have hpf5 : PlaceF (fun k => V.heap.size < k) w5 q2 (.slice ca cn cc) (.slice a0 n0 c0) (.slice a1 n1 c1) := hpf.on (fun _ _ _ => rfl) (fun k hk => Nat.lt_of_lt_of_le (show V.heap.size < (V.alloc _).heap.size by simp) hk); obtain ⟨⟨k0, k1, k2, k3, k4⟩, l0, l1, l2, l3, l4⟩ := hz5.facts; unfold zeroP at k3 k4) | (have hz5 : PBox w5 V.heap.size 29 zeroP (.slice none 0 0) (.slice none 0 0) (.slice none 0 0) := hA_of hb; have hpf5 : PlaceF (fun k => V.heap.size < k) w5 q2 (.slice ca cn cc) (.slice a0 n0 c0) (.slice a1 n1 c1) := hpf.on (fun _ _ _ => rfl) (fun k hk => Nat.lt_of_lt_of_le (show V.heap.size < (V.drew.alloc _).heap.size by simp [World.drew]) hk); obtain ⟨⟨k0, k1, k2, k3, k4⟩, l0, l1, l2, l3, l4⟩ := hz5.facts; unfold zeroP at k3 k4) | (have hpf5 : PlaceF (fun k => V.heap.size ≤ k) w5 q2 (.slice ca cn cc) (.slice a0 n0 c0) (.slice a1 n1 c1) := hpf.on (fun _ _ _ => rfl) (fun k hk => hk)); clear hpf hb))
  all_goals
    first
      | (have hP : PEnd V (((((w5.setCell ⟨V.heap.size, 0, none⟩ (.slice ca cn cc)).setCell ⟨V.heap.size, 1, none⟩ (.slice a0 n0 c0)).setCell ⟨V.heap.size, 2, none⟩ (.slice a1 n1 c1)).setCell ⟨V.heap.size, 3, none⟩ (.int .i64 q2.turn)).setCell ⟨V.heap.size, 4, none⟩ (.int .i64 q2.quiet)) V.heap.size q2 (.slice ca cn cc) (.slice a0 n0 c0) (.slice a1 n1 c1) := pendB hB5 hz5 hpf5
         generalize (((((w5.setCell ⟨V.heap.size, 0, none⟩ (.slice ca cn cc)).setCell ⟨V.heap.size, 1, none⟩ (.slice a0 n0 c0)).setCell ⟨V.heap.size, 2, none⟩ (.slice a1 n1 c1)).setCell ⟨V.heap.size, 3, none⟩ (.int .i64 q2.turn)).setCell ⟨V.heap.size, 4, none⟩ (.int .i64 q2.quiet)) = wf at hP ⊢
         obtain ⟨pb, hpb⟩ : ∃ pb, pb = V.heap.size := ⟨_, rfl⟩
         rw [← hpb] at hP ⊢
         clear hpb)
      | (have hP : PEnd V (w5.alloc (.cells #[.slice ca cn cc, .slice a0 n0 c0, .slice a1 n1 c1, .int .i64 q2.turn, .int .i64 q2.quiet] 29)) w5.heap.size q2 (.slice ca cn cc) (.slice a0 n0 c0) (.slice a1 n1 c1) := pendA hB5 hpf5
         generalize w5.alloc (.cells #[.slice ca cn cc, .slice a0 n0 c0, .slice a1 n1 c1, .int .i64 q2.turn, .int .i64 q2.quiet] 29) = wf at hP ⊢
         generalize w5.heap.size = pb at hP ⊢)
    have hWV := HB0.out.trans (HBV.out.mono HB0.out.size)
    have hWf := hWV.trans (hP.bel.mono hWV.size)
    have HWF := Lib.hid hWf
    have HL : Hid (Calls Tryz.prog 106 #[.pointer (some ⟨bb, 0, none⟩)] wf (BelPost (.int .i64 (n : Int)) wf)) := Lib.hid (by
      have h1 := len_any (HBR.out.keep hWf)
      rwa [← HN.out] at h1)
    have HP := Lib.hid hP
    have HPL : Hid (V.heap.size ≥ W.heap.size) := Lib.hid hWV.size
    clear hP hWV hWf
    go_wp2_with fail
    go_at_call 106; refine HL.out.mono ?_; rintro e w6 ⟨rfl, hb⟩
    have hV6 := HV.out.keep (HWF.out.trans (hb.mono HWF.out.size))
    have hB6 := HWF.out.trans (hb.mono HWF.out.size)
    obtain ⟨xa, xn, xm, hxc⟩ := hV6.now.c.form
    subst hxc
    obtain ⟨xb, yn, ym, hxc⟩ := hV6.now.a.form
    subst hxc
    obtain ⟨xc, zn, zm, hxc⟩ := hV6.now.b.form
    subst hxc
    have HV6 := Lib.hid hV6
    have HB6 := Lib.hid hB6
    obtain ⟨-, ⟨x0, x1, x2, x3, x4⟩, z16⟩ := bfacts hV6.row
    have f16 := bfrozen hV6.row 16
    have hbx := HP.out.box.below hb HP.out.box.lt
    have HPX := Lib.hid hbx
    have HPF : Hid (PlaceF (fun k => V.heap.size ≤ k ∧ k ≠ pb) w6 q2 (.slice ca cn cc) (.slice a0 n0 c0) (.slice a1 n1 c1)) := Lib.hid (HP.out.pl.on (fun k _ hk => hb.block k hk) (fun _ h => h))
    have HPB := Lib.hid HP.out.low
    clear hV6 hB6 hb hbx HL HP HWF
    have hd4 : decide ((n : Int) ≥ 400) = false := by simp; omega
    have hd5 : decide ((400 : Int) ≤ (n : Int)) = false := by simp; omega
    have HDW : Hid (∀ k, D k → k < W.heap.size) := Lib.hid HBR.out.ok.2.2.1
    have hbb6 : bb < w6.heap.size := HV6.out.lt bb HV6.out.db
    have hown6 : w6.ownsRow (bb + 1) 29 5 (.slice ea en ec) n news := by
      have h1 := HV6.out.own
      rwa [← HN.out] at h1
    have hrb : ∀ k, Value.ownBlock (.slice ea en ec) = some k → bb + 1 ≤ k ∧ k < W.heap.size := fun k hk => ⟨(hown6.lt k hk).1, by
      cases ea with
      | none => simp [Value.ownBlock] at hk
      | some a => simp [Value.ownBlock] at hk; rw [← hk]; exact HDW.out _ (HV6.out.de a rfl)⟩
    have hpbW : W.heap.size ≤ pb := Nat.le_trans HPL.out HPB.out
    have HOW := Lib.hid hown6
    have HRB2 := Lib.hid hrb
    clear hown6 hrb
    go_wp2_with fail
    have ze : w6.drew.cell? ⟨bb, 16, none⟩ = some (.slice ea en ec) := z16
    have za : (w6.alloc (.cells #[.slice xa xn xm, .slice xb yn ym, .slice xc zn zm, .int .i64 q.turn, .int .i64 q.quiet] 29)).cell? ⟨bb, 16, none⟩ = some (.slice ea en ec) := Lib.cell?_alloc_some _ z16
    have zd : (w6.alloc (.cells #[.slice xa xn xm, .slice xb yn ym, .slice xc zn zm, .int .i64 q.turn, .int .i64 q.quiet] 29)).drew.cell? ⟨bb, 16, none⟩ = some (.slice ea en ec) := za
    have zf : (w6.drew.alloc (.cells #[.slice xa xn xm, .slice xb yn ym, .slice xc zn zm, .int .i64 q.turn, .int .i64 q.quiet] 29)).cell? ⟨bb, 16, none⟩ = some (.slice ea en ec) := Lib.cell?_alloc_some _ ze
    go_region_law ((refine step_append_lies _ (by rfl) _ _ _ (by rfl) (bb + 1) 29 i0 _ 5 88 Tryz.underlying99 hi hz0 hz1 hz2 rfl (by omega) (.slice ea en ec) n news (by rfl) ((own_below HOW.out (Below.refl _ _).drew).alloc _) ⟨w6.heap.size, 0, none⟩ 1 1 [.slice xa xn xm, .slice xb yn ym, .slice xc zn zm, .int .i64 q.turn, .int .i64 q.quiet] (by rfl) (by rfl) (World.news_of_block (cs := #[.slice xa xn xm, .slice xb yn ym, .slice xc zn zm, .int .i64 q.turn, .int .i64 q.quiet]) (t := 29) (fr := (0, 0)) (heap_alloc_new w6 _)) (by simp [Value.oneCell']) (by omega) (by unfold maxLen; omega) (by omega) (by simp; omega) (w6.heap.size + 1) (by simp) ?_; intro gg cap w7 hown7 hgrow7 hat7 hlt7; have hrow7 := (hgrow7.block bb (Nat.lt_of_lt_of_le hbb6 (by simp)) (fun e => by have := (HRB2.out bb e.symm).1; omega)).trans ((Below.heap_alloc w6 _ bb hbb6).trans HV6.out.row); obtain ⟨-, -, z7⟩ := bfacts hrow7; have f7 := bfrozen hrow7 16))
    all_goals
      have hx7 : PBox w7 pb 29 q2 (.slice ca cn cc) (.slice a0 n0 c0) (.slice a1 n1 c1) := (hgrow7.block pb (Nat.lt_of_lt_of_le HPX.out.lt (by simp)) (fun e => by have := (HRB2.out pb e.symm).2; omega)).trans ((Below.heap_alloc w6 _ pb HPX.out.lt).trans HPX.out)
      have hbbW : bb < W.heap.size := HDW.out bb HV6.out.db
      have hrow8 := bset16 hrow7 (.slice (some ⟨gg, 0, none⟩) (n + 1) cap)
      have hx8 := hx7.other (a := ⟨bb, 16, none⟩) (by simp; omega) (.slice (some ⟨gg, 0, none⟩) (n + 1) cap)
      have HE := Lib.hid (do_end HDW.out HB6.out HV6.out (HPF.out.on (fun _ _ _ => rfl) (fun k hk => Nat.le_trans HPL.out hk.1)) (by first | exact ((Below.refl _ _).alloc (Nat.le_refl _) _).drew | exact (Below.refl _ _).alloc (Nat.le_refl _) _ | exact (Below.refl _ _).drew.alloc (Nat.le_refl _) _ | exact ((Below.refl _ _).drew.alloc (Nat.le_refl _) _).drew) hown7 hgrow7 hat7 hlt7 HN.out HQ2.out)
      generalize w7.setCell ⟨bb, 16, none⟩ (.slice (some ⟨gg, 0, none⟩) (n + 1) cap) = w8 at HE hrow8 hx8 ⊢
      have g1 := bfrozen hrow8 11
      have g2 := bfrozen hrow8 12
      have g3 := bfrozen hrow8 13
      have g4 := bfrozen hrow8 14
      have g5 := bfrozen hrow8 15
      obtain ⟨-, ⟨u0, u1, u2, u3, u4⟩, -⟩ := bfacts hrow8
      obtain ⟨⟨p0, p1, p2, p3, p4⟩, -⟩ := hx8.facts
      clear hx7 hx8 hrow7 hrow8 hown7 hgrow7 hat7 hlt7 z7 f7 ze za zd zf z16 f16 x0 x1 x2 x3 x4
      go_wp2_with fail
      go_ret
      exact HE.out
end Go.Proofs.YtdhhdkbnlddnbaaGreatDoor
