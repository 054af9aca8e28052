/- Package perft: divide, Count, Divide, Tree. (Written by genpftf.py.) -/
import Derived.Test.YtdhhdkbnlddnbaaGreatDoorPftA
import Derived.OwnWalk
set_option maxRecDepth 100000
namespace Go.Proofs.YtdhhdkbnlddnbaaGreatDoor
open Go.ChangeShapes Go.WideShapes Go.ChangeAt Go.RowKit

/-- The error of a position and a depth. -/
def pftE (r : RulesD) (p : PlaceD) (least x : Int) : Int := if placeE r p ≠ 0 then placeE r p else if x < least ∨ 12 < x then 1 else if 50000 < treD r x.toNat p then 17 else 0
def partsOf (r : RulesD) (p : PlaceD) : Nat → List (MoveD × Nat)
  | 0 => []
  | d + 1 => partsD r d p
def dvdI (r : RulesD) (p : PlaceD) (least x : Int) : List (MoveD × Nat) := if pftE r p least x = 0 then partsOf r p x.toNat else []
def treI (r : RulesD) (p : PlaceD) (least x : Int) : Int := if pftE r p least x = 0 then (treD r x.toNat p : Int) else 0
def cntI (r : RulesD) (p : PlaceD) (x : Int) : Int := if pftE r p 0 x = 0 then (cntD r x.toNat p : Int) else 0
theorem pftE_in {r : RulesD} {p : PlaceD} {least x : Int} (h : pftE r p least x = 0) : POkay r p ∧ least ≤ x ∧ x ≤ 12 ∧ treD r x.toNat p ≤ 50000 := by
  unfold pftE at h
  split at h
  · rename_i g; exact absurd h g
  · rename_i g
    split at h
    · cases h
    · split at h
      · cases h
      · exact ⟨placeE_iff.1 (by simpa using g), by omega, by omega, by omega⟩
theorem pftE_range {r : RulesD} {p : PlaceD} {least x : Int} : pftE r p least x = placeE r p ∨ pftE r p least x = 1 ∨ pftE r p least x = 17 ∨ pftE r p least x = 0 := by
  unfold pftE
  repeat' split
  all_goals simp
theorem dvdI_bad {r : RulesD} {p : PlaceD} {least x : Int} (h : pftE r p least x ≠ 0) : dvdI r p least x = [] := if_neg h
theorem sum_dvdI {r : RulesD} {p : PlaceD} {x : Int} (h : pftE r p 0 x = 0) (hx : x ≠ 0) : (sumP (dvdI r p 0 x) : Int) = cntI r p x ∧ sumP (dvdI r p 0 x) ≤ 50000 ∧ (dvdI r p 0 x).length ≤ 5000 := by
  obtain ⟨hk, h0, h1, h2⟩ := pftE_in h
  obtain ⟨d, hd⟩ : ∃ d : Nat, x.toNat = d + 1 := ⟨x.toNat - 1, by omega⟩
  rw [dvdI, if_pos h, cntI, if_pos h, hd, partsOf, sumP_parts]
  rw [hd] at h2
  have := cnt_tre r (d + 1) (d + 1) p (Nat.le_refl _)
  refine ⟨rfl, by omega, ?_⟩
  rw [partsD, List.length_map]; exact steps_length hk
def DivPost (r : RulesD) (p : PlaceD) (least x : Int) (w : World) (e : Ending) (w' : World) : Prop :=
  ∃ a n c, e = .returned (.tuple #[.slice a n c, .int .i64 (treI r p least x), .int .i64 (pftE r p least x)]) ∧ IsSl PartAt 4 w' (.slice a n c) (dvdI r p least x) ∧ n = (dvdI r p least x).length ∧ Below w.heap.size w w'
theorem div_none {r : RulesD} {p : PlaceD} {least x : Int} {w w' : World} {c : Int} (hE : pftE r p least x = c) (hc : c ≠ 0) (hb : Below w.heap.size w w') : DivPost r p least x w (.returned (.tuple #[.slice none 0 0, .int .i64 0, .int .i64 c])) w' := by
  have h : pftE r p least x ≠ 0 := by rw [hE]; exact hc
  refine ⟨none, 0, 0, by rw [treI, if_neg h, hE], .inl ⟨dvdI_bad h, _, _, rfl⟩, by rw [dvdI_bad h]; rfl, hb⟩
set_option maxHeartbeats 8000000 in
theorem div_bad (r : RulesD) (p : PlaceD) (vp vs ve vc v0 v1 : Value) (least x : Int) (w : World) (hr : RulesIn w r vp vs ve) (hp : PlaceIn w p vc v0 v1) (hz : placeE r p ≠ 0) :
    Calls Tryz.prog 29 #[RulesV r vp vs ve, PlaceV p vc v0 v1, .int .i64 least, .int .i64 x] w (DivPost r p least x w) := by
  obtain ⟨hB, hY, hX⟩ := rp_boxes w r p vp vs ve vc v0 v1
  obtain ⟨V, hV⟩ : ∃ V, V = (w.alloc (.cells (RulesCells r vp vs ve) 26)).alloc (.cells (PlaceCells p vc v0 v1) 29) := ⟨_, rfl⟩
  rw [← hV] at hB hY hX
  have HB := Lib.hid hB
  have HNW := Lib.hid (new_bad r p vp vs ve vc v0 v1 V (hr.below hB (Nat.le_refl _)) (hp.below hB (Nat.le_refl _)) hz)
  have HE : Hid (pftE r p least x = placeE r p) := Lib.hid (by unfold pftE; rw [if_pos hz])
  obtain ⟨c, hc⟩ : ∃ c, c = placeE r p := ⟨_, rfl⟩
  rw [← hc] at HNW HE hz
  have hne : (c != 0) = true := by simpa using hz
  have HZ := Lib.hid hz
  obtain ⟨x0, x1, x2, x3, x4⟩ := hX
  obtain ⟨y0, y1, y2, y3, y4, y5, y6, y7, y8, y9, y10⟩ := hY
  have hV' := hV
  unfold RulesCells PlaceCells at hV'
  unfold RulesV PlaceV PlaceCells at HNW ⊢
  rw [hV] at x0 x1 x2 x3 x4 y0 y1 y2 y3 y4 y5 y6 y7 y8 y9 y10
  clear hr hp hz hc hB hV
  go_enter Tryz.func29, Tryz.ntmps29
  go_wp2_with fail
  rw [← hV']
  clear hV' x0 x1 x2 x3 x4 y0 y1 y2 y3 y4 y5 y6 y7 y8 y9 y10
  go_at_call 45; refine HNW.out.mono ?_; rintro e w1 ⟨rfl, hb⟩
  have HB1 := Lib.hid (HB.out.trans (hb.mono HB.out.size))
  clear hb HNW HB
  go_wp2_with fail
  go_ret3
  exact div_none HE.out HZ.out HB1.out
set_option maxHeartbeats 8000000 in
theorem div_arg (r : RulesD) (p : PlaceD) (vp vs ve vc v0 v1 : Value) (least x : Int) (w : World) (hr : RulesIn w r vp vs ve) (hp : PlaceIn w p vc v0 v1) (hk : POkay r p) (hT : Dir w) (hx : x < least ∨ 12 < x) :
    Calls Tryz.prog 29 #[RulesV r vp vs ve, PlaceV p vc v0 v1, .int .i64 least, .int .i64 x] w (DivPost r p least x w) := by
  obtain ⟨hB, hY, hX⟩ := rp_boxes w r p vp vs ve vc v0 v1
  obtain ⟨V, hV⟩ : ∃ V, V = (w.alloc (.cells (RulesCells r vp vs ve) 26)).alloc (.cells (PlaceCells p vc v0 v1) 29) := ⟨_, rfl⟩
  rw [← hV] at hB hY hX
  have HB := Lib.hid hB
  have HNW := Lib.hid (new_ok (fun _ => True) r p vp vs ve vc v0 v1 V (hr.below hB (Nat.le_refl _)) (hp.below hB (Nat.le_refl _)) hk (hT.below hB (Nat.le_refl _)) (fun _ _ => trivial) ((hr.below hB (Nat.le_refl _)).1.1.mono fun _ _ _ hx => pieceIn_of hx (fun _ _ => trivial)) trivial)
  have HE : Hid (pftE r p least x = 1) := Lib.hid (by unfold pftE; rw [if_neg (by simpa using placeE_iff.2 hk), if_pos hx])
  obtain ⟨x0, x1, x2, x3, x4⟩ := hX
  obtain ⟨y0, y1, y2, y3, y4, y5, y6, y7, y8, y9, y10⟩ := hY
  have hV' := hV
  unfold RulesCells PlaceCells at hV'
  unfold RulesV PlaceV PlaceCells at HNW ⊢
  rw [hV] at x0 x1 x2 x3 x4 y0 y1 y2 y3 y4 y5 y6 y7 y8 y9 y10
  clear hr hp hk hB hV hT
  go_enter Tryz.func29, Tryz.ntmps29
  go_wp2_with fail
  rw [← hV']
  clear hV' x0 x1 x2 x3 x4 y0 y1 y2 y3 y4 y5 y6 y7 y8 y9 y10
  go_at_call 45; refine HNW.out.mono ?_; rintro e w1 ⟨bb, rfl, hbrd, hb⟩
  have HB1 := Lib.hid (HB.out.trans (hb.mono HB.out.size))
  clear hb HNW HB hbrd
  by_cases hlt : x < least
  · have hd : decide (x < least) = true := by simpa using hlt
    clear hx
    go_wp2_with fail
    go_ret3
    exact div_none HE.out (by decide) HB1.out
  · have hd : decide (x < least) = false := by simpa using hlt
    have h12 : 12 < x := by omega
    have hd2 : decide (x > 12) = true := by simpa using h12
    clear hx hlt
    go_wp2_with fail
    go_ret3
    exact div_none HE.out (by decide) HB1.out
set_option maxHeartbeats 8000000 in
theorem div_zero (r : RulesD) (p : PlaceD) (vp vs ve vc v0 v1 : Value) (least x : Int) (w : World) (hr : RulesIn w r vp vs ve) (hp : PlaceIn w p vc v0 v1) (hk : POkay r p) (hT : Dir w) (hl : least ≤ 0) (hx : x = 0) :
    Calls Tryz.prog 29 #[RulesV r vp vs ve, PlaceV p vc v0 v1, .int .i64 least, .int .i64 x] w (DivPost r p least x w) := by
  subst hx
  obtain ⟨hB, hY, hX⟩ := rp_boxes w r p vp vs ve vc v0 v1
  obtain ⟨V, hV⟩ : ∃ V, V = (w.alloc (.cells (RulesCells r vp vs ve) 26)).alloc (.cells (PlaceCells p vc v0 v1) 29) := ⟨_, rfl⟩
  rw [← hV] at hB hY hX
  have HB := Lib.hid hB
  have HNW := Lib.hid (new_ok (fun _ => True) r p vp vs ve vc v0 v1 V (hr.below hB (Nat.le_refl _)) (hp.below hB (Nat.le_refl _)) hk (hT.below hB (Nat.le_refl _)) (fun _ _ => trivial) ((hr.below hB (Nat.le_refl _)).1.1.mono fun _ _ _ hx => pieceIn_of hx (fun _ _ => trivial)) trivial)
  have HE : Hid (pftE r p least 0 = 0) := Lib.hid (by
    unfold pftE
    rw [if_neg (by simpa using placeE_iff.2 hk), if_neg (by omega), if_neg (by show ¬ 50000 < 1; omega)])
  obtain ⟨x0, x1, x2, x3, x4⟩ := hX
  obtain ⟨y0, y1, y2, y3, y4, y5, y6, y7, y8, y9, y10⟩ := hY
  have hV' := hV
  unfold RulesCells PlaceCells at hV'
  unfold RulesV PlaceV PlaceCells at HNW ⊢
  rw [hV] at x0 x1 x2 x3 x4 y0 y1 y2 y3 y4 y5 y6 y7 y8 y9 y10
  have hd : decide ((0 : Int) < least) = false := by simpa using hl
  clear hr hp hk hB hV hT
  go_enter Tryz.func29, Tryz.ntmps29
  go_wp2_with fail
  rw [← hV']
  clear hV' x0 x1 x2 x3 x4 y0 y1 y2 y3 y4 y5 y6 y7 y8 y9 y10
  go_at_call 45; refine HNW.out.mono ?_; rintro e w1 ⟨bb, rfl, hbrd, hb⟩
  have hlt1 : ∀ k, V.heap.size ≤ k ∧ k < w1.heap.size → k < w1.heap.size := fun k hk => hk.2
  have hC2 : Ctr (fun k => V.heap.size ≤ k ∧ k < w1.heap.size) (w1.alloc (.cells #[.pointer (some ⟨bb, 0, none⟩), .int .i64 1] 81)) w1.heap.size bb r p [] 1 :=
    ⟨heap_alloc_new w1 _, hbrd.keep ((Below.refl _ _).alloc (Nat.le_refl _) _), fun g => by omega, hlt1 bb hbrd.ok.2.2.2⟩
  have hbw := HB.out.trans (hb.mono HB.out.size)
  have HB2 : Hid (Below w.heap.size w (w1.alloc (.cells #[.pointer (some ⟨bb, 0, none⟩), .int .i64 1] 81))) := Lib.hid (hbw.alloc hbw.size _)
  have HC2 := Lib.hid hC2
  have HWL : Hid (w.heap.size ≤ V.heap.size ∧ w.heap.size ≤ w1.heap.size) := Lib.hid ⟨HB.out.size, hbw.size⟩
  have hcs := hC2.cells
  obtain ⟨k0, k1, -⟩ := hcs
  clear hb HNW HB hbrd hC2 hlt1 hbw
  go_wp2_with fail
  generalize w1.alloc (.cells #[.pointer (some ⟨bb, 0, none⟩), .int .i64 1] 81) = w2 at HB2 HC2 k0 k1 ⊢
  go_wp2_with fail
  go_region
  all_goals
    go_wp2_with fail
    go_ret3
    exact ⟨none, 0, 0, by rw [treI, if_pos HE.out, HE.out]; rfl, .inl ⟨by rw [dvdI, if_pos HE.out]; rfl, _, _, rfl⟩, by rw [dvdI, if_pos HE.out]; rfl, by first | exact HB2.out | exact HB2.out.drew⟩
set_option maxHeartbeats 8000000 in
theorem div_pos (r : RulesD) (p : PlaceD) (vp vs ve vc v0 v1 : Value) (least x : Int) (w : World) (hr : RulesIn w r vp vs ve) (hp : PlaceIn w p vc v0 v1) (hk : POkay r p) (hT : Dir w) (hl : least ≤ x) (hx0 : 0 < x) (hx2 : x ≤ 12) :
    Calls Tryz.prog 29 #[RulesV r vp vs ve, PlaceV p vc v0 v1, .int .i64 least, .int .i64 x] w (DivPost r p least x w) := by
  obtain ⟨d, hdx⟩ : ∃ d : Nat, x.toNat = d + 1 := ⟨x.toNat - 1, by omega⟩
  have hxd : x = (d : Int) + 1 := by omega
  obtain ⟨hB, hY, hX⟩ := rp_boxes w r p vp vs ve vc v0 v1
  obtain ⟨V, hV⟩ : ∃ V, V = (w.alloc (.cells (RulesCells r vp vs ve) 26)).alloc (.cells (PlaceCells p vc v0 v1) 29) := ⟨_, rfl⟩
  rw [← hV] at hB hY hX
  have HB := Lib.hid hB
  have HNW := Lib.hid (new_ok (fun _ => True) r p vp vs ve vc v0 v1 V (hr.below hB (Nat.le_refl _)) (hp.below hB (Nat.le_refl _)) hk (hT.below hB (Nat.le_refl _)) (fun _ _ => trivial) ((hr.below hB (Nat.le_refl _)).1.1.mono fun _ _ _ hx => pieceIn_of hx (fun _ _ => trivial)) trivial)
  have HEI : Hid (pftE r p least x = if 50000 < treD r (d + 1) p then 17 else 0) := Lib.hid (by
    unfold pftE
    rw [if_neg (by simpa using placeE_iff.2 hk), if_neg (by omega), hdx])
  have HXD := Lib.hid hxd
  have HDX := Lib.hid hdx
  obtain ⟨x0, x1, x2, x3, x4⟩ := hX
  obtain ⟨y0, y1, y2, y3, y4, y5, y6, y7, y8, y9, y10⟩ := hY
  have hV' := hV
  unfold RulesCells PlaceCells at hV'
  unfold RulesV PlaceV PlaceCells at HNW ⊢
  rw [hV] at x0 x1 x2 x3 x4 y0 y1 y2 y3 y4 y5 y6 y7 y8 y9 y10
  have hd : decide (x < least) = false := by simpa using hl
  have hd2 : decide (x > 12) = false := by simpa using hx2
  have hd3 : decide (x > 0) = true := by simpa using hx0
  have HX2 := Lib.hid hx2
  clear hr hp hk hB hV hT hdx hxd hl
  go_enter Tryz.func29, Tryz.ntmps29
  go_wp2_with fail
  rw [← hV']
  clear hV' x0 x1 x2 x3 x4 y0 y1 y2 y3 y4 y5 y6 y7 y8 y9 y10
  go_at_call 45; refine HNW.out.mono ?_; rintro e w1 ⟨bb, rfl, hbrd, hb⟩
  have hlt1 : ∀ k, V.heap.size ≤ k ∧ k < w1.heap.size → k < w1.heap.size := fun k hk => hk.2
  have hC2 : Ctr (fun k => V.heap.size ≤ k ∧ k < w1.heap.size) (w1.alloc (.cells #[.pointer (some ⟨bb, 0, none⟩), .int .i64 1] 81)) w1.heap.size bb r p [] 1 :=
    ⟨heap_alloc_new w1 _, hbrd.keep ((Below.refl _ _).alloc (Nat.le_refl _) _), fun g => by omega, hlt1 bb hbrd.ok.2.2.2⟩
  have hbw := HB.out.trans (hb.mono HB.out.size)
  have HB2 : Hid (Below w.heap.size w (w1.alloc (.cells #[.pointer (some ⟨bb, 0, none⟩), .int .i64 1] 81))) := Lib.hid (hbw.alloc hbw.size _)
  have HC2 := Lib.hid hC2
  have HWL : Hid (w.heap.size ≤ V.heap.size ∧ w.heap.size ≤ w1.heap.size) := Lib.hid ⟨HB.out.size, hbw.size⟩
  have hcs := hC2.cells
  obtain ⟨k0, k1, -⟩ := hcs
  clear hb HNW HB hbrd hC2 hlt1 hbw
  go_wp2_with fail
  generalize w1.alloc (.cells #[.pointer (some ⟨bb, 0, none⟩), .int .i64 1] 81) = w2 at HB2 HC2 k0 k1 ⊢
  have HPR := Lib.hid (prt_all d _ w2 w1.heap.size bb r p [] 1 x HXD.out HC2.out (by have := HX2.out; have := HXD.out; simp; omega) (by omega))
  go_wp2_with fail
  go_at_call 46; refine HPR.out.mono ?_; rintro e w3 ⟨a, n, c, xs, u, D3, rfl, hI, hn, hL, hwent, hex, -, -⟩
  have HB3 : Hid (Below w.heap.size w w3) := Lib.hid (HB2.out.trans (hL.fram.below HB2.out.size (fun k hk => by
    have h1 := HWL.out
    rcases hk with hk | hk
    · omega
    · omega)))
  obtain ⟨-, j1, -⟩ := hL.ctr.cells
  have hu5 := hwent.2.2.2
  have HI := Lib.hid hI
  have HN := Lib.hid hn
  have HW := Lib.hid hwent
  have HX := Lib.hid hex
  clear hI hn hL hwent hex k0 k1 HPR HC2
  by_cases hu : 50000 < u
  · have HE : Hid (pftE r p least x = 17) := Lib.hid (by rw [HEI.out, if_pos (by have := HW.out.2.1; omega)])
    have hg : decide ((u : Int) > 50000) = true := by simp; omega
    go_wp2_with fail
    go_ret3
    exact div_none HE.out (by decide) HB3.out
  · have HT : Hid (u = treD r (d + 1) p) := Lib.hid (by have := HW.out.2.2.1 (by omega); omega)
    have HE : Hid (pftE r p least x = 0) := Lib.hid (by rw [HEI.out, if_neg (by rw [← HT.out]; exact hu)])
    have hg : decide ((u : Int) > 50000) = false := by simp; omega
    have HXS : Hid (xs = dvdI r p least x) := Lib.hid (by rw [dvdI, if_pos HE.out, HDX.out, partsOf]; exact HX.out (by omega))
    go_wp2_with fail
    go_region
    all_goals
      go_wp2_with fail
      go_ret3
      refine ⟨a, n, c, by rw [treI, if_pos HE.out, HE.out, HDX.out, ← HT.out]; rfl, ?_, by rw [← HXS.out]; exact HN.out, by first | exact HB3.out | exact HB3.out.drew⟩
      rw [← HXS.out]; exact HI.out
theorem div_any (r : RulesD) (p : PlaceD) (vp vs ve vc v0 v1 : Value) (least x : Int) (w : World) (hr : RulesIn w r vp vs ve) (hp : PlaceIn w p vc v0 v1) (hT : Dir w) (hl0 : 0 ≤ least) :
    Calls Tryz.prog 29 #[RulesV r vp vs ve, PlaceV p vc v0 v1, .int .i64 least, .int .i64 x] w (DivPost r p least x w) := by
  by_cases hz : placeE r p = 0
  · have hk := placeE_iff.1 hz
    by_cases hx : x < least ∨ 12 < x
    · exact div_arg r p vp vs ve vc v0 v1 least x w hr hp hk hT hx
    · by_cases h0 : x = 0
      · exact div_zero r p vp vs ve vc v0 v1 least x w hr hp hk hT (by omega) h0
      · exact div_pos r p vp vs ve vc v0 v1 least x w hr hp hk hT (by omega) (by omega) (by omega)
  · exact div_bad r p vp vs ve vc v0 v1 least x w hr hp hz
set_option maxHeartbeats 4000000 in
theorem tree_any (r : RulesD) (p : PlaceD) (vp vs ve vc v0 v1 : Value) (x : Int) (w : World) (hr : RulesIn w r vp vs ve) (hp : PlaceIn w p vc v0 v1) (hT : Dir w) :
    Calls Tryz.prog 12 #[RulesV r vp vs ve, PlaceV p vc v0 v1, .int .i64 x] w (BelPost (.tuple #[.int .i64 (treI r p 0 x), .int .i64 (pftE r p 0 x)]) w) := by
  obtain ⟨hB, hY, hX⟩ := rp_boxes w r p vp vs ve vc v0 v1
  obtain ⟨V, hV⟩ : ∃ V, V = (w.alloc (.cells (RulesCells r vp vs ve) 26)).alloc (.cells (PlaceCells p vc v0 v1) 29) := ⟨_, rfl⟩
  rw [← hV] at hB hY hX
  have HB := Lib.hid hB
  have HNW := Lib.hid (div_any r p vp vs ve vc v0 v1 0 x V (hr.below hB (Nat.le_refl _)) (hp.below hB (Nat.le_refl _)) (hT.below hB (Nat.le_refl _)) (by omega))
  obtain ⟨x0, x1, x2, x3, x4⟩ := hX
  obtain ⟨y0, y1, y2, y3, y4, y5, y6, y7, y8, y9, y10⟩ := hY
  have hV' := hV
  unfold RulesCells PlaceCells at hV'
  unfold RulesV PlaceV PlaceCells at HNW ⊢
  rw [hV] at x0 x1 x2 x3 x4 y0 y1 y2 y3 y4 y5 y6 y7 y8 y9 y10
  clear hr hp hB hV hT
  go_enter Tryz.func12, Tryz.ntmps12
  go_wp2_with fail
  rw [← hV']
  clear hV' x0 x1 x2 x3 x4 y0 y1 y2 y3 y4 y5 y6 y7 y8 y9 y10
  go_at_call 29; refine HNW.out.mono ?_; rintro e w1 ⟨a, n, c, rfl, hI, hn, hb⟩
  have HB1 := Lib.hid (HB.out.trans (hb.mono HB.out.size))
  have HI := Lib.hid hI
  have HN := Lib.hid hn
  clear hb hI hn HNW HB
  go_wp2_with fail
  go_ret2
  exact ⟨rfl, HB1.out⟩
def DvdPost (r : RulesD) (p : PlaceD) (x : Int) (w : World) (e : Ending) (w' : World) : Prop :=
  ∃ a n c, e = .returned (.tuple #[.slice a n c, .int .i64 (pftE r p 1 x)]) ∧ IsSl PartAt 4 w' (.slice a n c) (dvdI r p 1 x) ∧ n = (dvdI r p 1 x).length ∧ Below w.heap.size w w'
set_option maxHeartbeats 4000000 in
theorem divide_any (r : RulesD) (p : PlaceD) (vp vs ve vc v0 v1 : Value) (x : Int) (w : World) (hr : RulesIn w r vp vs ve) (hp : PlaceIn w p vc v0 v1) (hT : Dir w) :
    Calls Tryz.prog 6 #[RulesV r vp vs ve, PlaceV p vc v0 v1, .int .i64 x] w (DvdPost r p x w) := by
  obtain ⟨hB, hY, hX⟩ := rp_boxes w r p vp vs ve vc v0 v1
  obtain ⟨V, hV⟩ : ∃ V, V = (w.alloc (.cells (RulesCells r vp vs ve) 26)).alloc (.cells (PlaceCells p vc v0 v1) 29) := ⟨_, rfl⟩
  rw [← hV] at hB hY hX
  have HB := Lib.hid hB
  have HNW := Lib.hid (div_any r p vp vs ve vc v0 v1 1 x V (hr.below hB (Nat.le_refl _)) (hp.below hB (Nat.le_refl _)) (hT.below hB (Nat.le_refl _)) (by omega))
  obtain ⟨x0, x1, x2, x3, x4⟩ := hX
  obtain ⟨y0, y1, y2, y3, y4, y5, y6, y7, y8, y9, y10⟩ := hY
  have hV' := hV
  unfold RulesCells PlaceCells at hV'
  unfold RulesV PlaceV PlaceCells at HNW ⊢
  rw [hV] at x0 x1 x2 x3 x4 y0 y1 y2 y3 y4 y5 y6 y7 y8 y9 y10
  clear hr hp hB hV hT
  go_enter Tryz.func6, Tryz.ntmps6
  go_wp2_with fail
  rw [← hV']
  clear hV' x0 x1 x2 x3 x4 y0 y1 y2 y3 y4 y5 y6 y7 y8 y9 y10
  go_at_call 29; refine HNW.out.mono ?_; rintro e w1 ⟨a, n, c, rfl, hI, hn, hb⟩
  have HB1 := Lib.hid (HB.out.trans (hb.mono HB.out.size))
  have HI := Lib.hid hI
  have HN := Lib.hid hn
  clear hb hI hn HNW HB
  go_wp2_with fail
  go_ret2
  exact ⟨a, n, c, rfl, HI.out, HN.out, HB1.out⟩
set_option maxHeartbeats 4000000 in
theorem count_any (r : RulesD) (p : PlaceD) (vp vs ve vc v0 v1 : Value) (x : Int) (w : World) (hr : RulesIn w r vp vs ve) (hp : PlaceIn w p vc v0 v1) (hT : Dir w) :
    Calls Tryz.prog 13 #[RulesV r vp vs ve, PlaceV p vc v0 v1, .int .i64 x] w (BelPost (.tuple #[.int .i64 (cntI r p x), .int .i64 (pftE r p 0 x)]) w) := by
  obtain ⟨hB, hY, hX⟩ := rp_boxes w r p vp vs ve vc v0 v1
  obtain ⟨V, hV⟩ : ∃ V, V = (w.alloc (.cells (RulesCells r vp vs ve) 26)).alloc (.cells (PlaceCells p vc v0 v1) 29) := ⟨_, rfl⟩
  rw [← hV] at hB hY hX
  have HB := Lib.hid hB
  have HNW := Lib.hid (div_any r p vp vs ve vc v0 v1 0 x V (hr.below hB (Nat.le_refl _)) (hp.below hB (Nat.le_refl _)) (hT.below hB (Nat.le_refl _)) (by omega))
  obtain ⟨x0, x1, x2, x3, x4⟩ := hX
  obtain ⟨y0, y1, y2, y3, y4, y5, y6, y7, y8, y9, y10⟩ := hY
  have hV' := hV
  unfold RulesCells PlaceCells at hV'
  unfold RulesV PlaceV PlaceCells at HNW ⊢
  rw [hV] at x0 x1 x2 x3 x4 y0 y1 y2 y3 y4 y5 y6 y7 y8 y9 y10
  clear hr hp hB hV hT
  go_enter Tryz.func13, Tryz.ntmps13
  go_wp2_with fail
  rw [← hV']
  clear hV' x0 x1 x2 x3 x4 y0 y1 y2 y3 y4 y5 y6 y7 y8 y9 y10
  go_at_call 29; refine HNW.out.mono ?_; rintro e w1 ⟨a, n, c, rfl, hI, hn, hb⟩
  have HB1 := Lib.hid (HB.out.trans (hb.mono HB.out.size))
  have HI := Lib.hid hI
  have HN := Lib.hid hn
  clear hb hI hn HNW HB
  by_cases hE : pftE r p 0 x = 0
  · by_cases h0 : x = 0
    · subst h0
      have HR : Hid (cntI r p 0 = 1 ∧ pftE r p 0 0 = 0) := Lib.hid ⟨by rw [cntI, if_pos hE]; rfl, hE⟩
      rw [hE]
      clear hE
      go_wp2_with fail
      go_ret2
      exact ⟨by rw [HR.out.1, HR.out.2]; rfl, HB1.out⟩
    · obtain ⟨s1, s2, s3⟩ := sum_dvdI hE h0
      have HSU := Lib.hid (sum_any (dvdI r p 0 x) (.slice a n c) w1 HI.out (by omega) (by omega))
      rw [s1] at HSU
      have HEH := Lib.hid hE
      have hd : (x == 0) = false := by simpa using h0
      rw [hE]
      clear hE s1 s2 s3
      go_wp2_with fail
      go_at_call 30; refine HSU.out.mono ?_; rintro e w2 ⟨rfl, hb⟩
      have HB2 := Lib.hid (HB1.out.trans (hb.mono HB1.out.size))
      clear hb HSU
      go_wp2_with fail
      go_ret2
      exact ⟨by rw [HEH.out]; rfl, HB2.out⟩
  · have HR : Hid (cntI r p x = 0) := Lib.hid (by rw [cntI, if_neg hE])
    obtain ⟨E, hEE⟩ : ∃ E, E = pftE r p 0 x := ⟨_, rfl⟩
    rw [← hEE] at hE ⊢
    have hne : (E != 0) = true := by simpa using hE
    have HEE := Lib.hid hEE
    clear hE hEE
    go_wp2_with fail
    go_ret2
    exact ⟨by rw [HR.out, ← HEE.out]; rfl, HB1.out⟩
end Go.Proofs.YtdhhdkbnlddnbaaGreatDoor
