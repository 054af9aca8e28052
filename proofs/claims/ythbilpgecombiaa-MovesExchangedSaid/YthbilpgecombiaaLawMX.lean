/- The law MovesExchanged: without Falls, the moves of the position in which the players are exchanged are the moves, seen by the other player. -/
import Derived.Test.YthbilpgecombiaaPlayK
import Derived.Test.YthbilpgecombiaaOpenP
import Derived.Test.YthbilpgecombiaaExch
set_option maxRecDepth 100000
namespace Go.Proofs.Ythbilpgecombiaa
open Go.ChangeShapes Go.WideShapes Go.ChangeAt Go.RowKit

theorem w64_in {x : Int} (h : -9223372036854775808 ≤ x ∧ x ≤ 9223372036854775807) : wrap64 x = x := by unfold wrap64; omega
set_option maxHeartbeats 4000000 in
theorem turnS_any (r : RulesD) (vp vs ve : Value) (b : Nat) (s : Int) (w : World) (hY : BoxR w b r vp vs ve) (w1 : 1 ≤ r.width) (w2 : r.width ≤ 8) (h1 : 1 ≤ r.height) (h2 : r.height ≤ 8) (s1 : s < r.width * r.height) :
    Calls Try.prog 20 #[.int .i64 s, .pointer (some ⟨b, 0, none⟩)] w (BelPost (.int .i64 (turnI r s)) w) := by
  obtain ⟨y0, y1, y2, y3, y4, y5, y6, y7, y8, y9, y10⟩ := hY
  by_cases hs : s < 0
  · have hd : decide (s < 0) = true := by simpa using hs
    have K : Hid (s = turnI r s) := Lib.hid (by unfold turnI; rw [if_pos hs])
    go_enter Try.func20, Try.ntmps20
    go_wp2_with fail
    go_ret
    exact ⟨ret_i64 K.out, Below.refl _ _⟩
  · have hd : decide (s < 0) = false := by simpa using hs
    have K : Hid ((r.height - 1 - s / r.width) * r.width + s % r.width = turnI r s) := Lib.hid (by unfold turnI; rw [if_neg hs])
    have a64 : r.width * r.height ≤ 64 := by have := Int.mul_le_mul w2 h2 (by omega) (by omega); simpa using this
    have d0 : 0 ≤ s / r.width := Int.ediv_nonneg (by omega) (by omega)
    have d1 : s / r.width < r.height := Int.ediv_lt_of_lt_mul (by omega) (by rw [Int.mul_comm]; omega)
    have m0 := Int.emod_nonneg s (b := r.width) (by omega)
    have m1 := Int.emod_lt_of_pos s (b := r.width) (by omega)
    have e1 : wrap64 (s.tdiv r.width) = s / r.width := wrap_div (by omega) (by omega) w1
    have e2 : s.tmod r.width = s % r.width := Int.tmod_eq_emod_of_nonneg (by omega)
    have hz : (r.width == 0) = false := by simp; omega
    obtain ⟨q, hq⟩ : ∃ q, q = s / r.width := ⟨_, rfl⟩
    obtain ⟨t, ht⟩ : ∃ t, t = s % r.width := ⟨_, rfl⟩
    rw [← hq] at d0 d1
    rw [← ht] at m0 m1
    have e3 : wrap64 (r.height - 1) = r.height - 1 := w64_in (by omega)
    have e4 : wrap64 (r.height - 1 - s / r.width) = r.height - 1 - q := by rw [← hq]; exact w64_in (by omega)
    obtain ⟨M, hM⟩ : ∃ M, M = (r.height - 1 - q) * r.width := ⟨_, rfl⟩
    have hM1 : 0 ≤ M ∧ M ≤ 64 := by
      rw [hM]
      have a := Int.mul_nonneg (show 0 ≤ r.height - 1 - q by omega) (show 0 ≤ r.width by omega)
      have b := Int.mul_le_mul (show r.height - 1 - q ≤ 8 by omega) w2 (by omega) (by omega)
      omega
    have e5 : wrap64 ((r.height - 1 - q) * r.width) = M := by rw [← hM]; exact w64_in (by omega)
    have e6 : wrap64 (M + s % r.width) = M + t := by rw [← ht]; exact w64_in (by omega)
    have K2 : Hid (M + t = turnI r s) := Lib.hid (by rw [← K.out, hM, hq, ht])
    clear hM hq ht K
    go_enter Try.func20, Try.ntmps20
    go_wp2_with fail
    go_quiet (fail)
    go_wp2
    go_ret
    exact ⟨ret_i64 (e6.trans K2.out), below_drewN (Below.refl _ _) _⟩
def xList : List Int := [0, 0, 0, 1, 1, 0, 2, 2, 0]
def xD : PlaceD := ⟨xList, [3], [3], 1, 0⟩
theorem near_x : otherD three9 nearD = xD := by
  show PlaceD.mk (mirL 3 3 nearD.cells) [3] [3] (1 - 0) 0 = xD
  rw [show mirL 3 3 nearD.cells = xList by decide +kernel]
  rfl
/-- A position that was made, and its error. -/
def OthP (q : PlaceD) (n : Nat) (w : World) (e : Ending) (w' : World) : Prop :=
  ∃ ca cc a0 n0 c0 a1 n1 c1, e = .returned (.tuple #[.agg #[.slice ca n cc, .slice a0 n0 c0, .slice a1 n1 c1, .int .i64 q.turn, .int .i64 q.quiet], .int .i64 0]) ∧ PlaceIn w' q (.slice ca n cc) (.slice a0 n0 c0) (.slice a1 n1 c1) ∧ Below w.heap.size w w'
theorem othP_of {r : RulesD} {p q : PlaceD} {n : Nat} {w : World} {e : Ending} {w' : World} (h : OtherOk r p w e w') (hq : otherD r p = q) (hn : n = q.cells.length) : OthP q n w e w' := by
  subst hq
  obtain ⟨vc, v0, v1, rfl, hi, hb⟩ := h
  obtain ⟨ca, cc, rfl, _, _⟩ := hi.c.shape hn
  obtain ⟨a0, n0, c0, rfl⟩ := hi.a.form
  obtain ⟨a1, n1, c1, rfl⟩ := hi.b.form
  exact ⟨ca, cc, a0, n0, c0, a1, n1, c1, rfl, hi, hb⟩
theorem contains_yes {r : RulesD} {ms : List MoveD} {x : MoveD} {a : Option Addr} {n c : Nat} {w : World} (hm : turnM r x ∈ ms) (h : IsSl MoveAt 3 w (.slice a n c) ms) (hl : ms.length ≤ 5000) :
    Calls Try.prog 15 #[.slice a n c, .agg #[.int .i64 (turnI r x.1), .int .i64 (turnI r x.2.1), .int .i64 x.2.2]] w (BelPost (.bool true) w) := by
  have h1 := contains_any ms a n c (turnM r x) w h (by omega)
  rwa [decide_eq_true hm] at h1
set_option maxHeartbeats 16000000 in
theorem movesExchanged_full (r0 : RulesD) (vp vs ve : Value) (p : PlaceD) (vc v0 v1 : Value) (w : World) (hr0 : RulesIn w r0 vp vs ve) (hp : PlaceIn w p vc v0 v1) :
    Calls Try.prog 5 #[RulesV r0 vp vs ve, PlaceV p vc v0 v1] w fun e w' => e = .returned (.bool true) ∧ Below w.heap.size w w' := by
  have H3O : Hid (∀ vp vs ve vc v0 v1 W, RulesIn W three9 vp vs ve → PlaceIn W nearD vc v0 v1 → Calls Try.prog 18 #[RulesV three9 vp vs ve, PlaceV nearD vc v0 v1] W (OthP xD 9 W)) := Lib.hid (fun vp vs ve vc v0 v1 W h1 h2 => (other_ok three9 nearD vp vs ve vc v0 v1 W h1 h2 near_ok).mono fun _ _ h => othP_of h near_x rfl)
  obtain ⟨r, hrd⟩ : ∃ r : RulesD, r = { r0 with falls := false } := ⟨_, rfl⟩
  have hr : RulesIn w r vp vs ve := by rw [hrd]; exact hr0
  have hf : r.falls = false := by rw [hrd]
  obtain ⟨V, hV⟩ : ∃ V, V = (w.alloc (.cells #[.string r0.name, .int .i64 r0.width, .int .i64 r0.height, vp, vs, .bool false, .bool r0.keeps, ve, .int .i64 r0.blocked, .int .i64 r0.quiet, .int .i64 r0.rep] 26)).alloc (.cells (PlaceCells p vc v0 v1) 29) := ⟨_, rfl⟩
  obtain ⟨hB, hY, hX⟩ := rp_boxes w { r0 with falls := false } p vp vs ve vc v0 v1
  have hVV : (w.alloc (.cells (RulesCells { r0 with falls := false } vp vs ve) 26)).alloc (.cells (PlaceCells p vc v0 v1) 29) = V := hV.symm
  rw [hVV] at hB hY hX
  clear hVV
  rw [← hrd] at hY
  have HB := Lib.hid hB
  have HIR : Hid (∀ W, Below w.heap.size w W → RulesIn W r vp vs ve) := Lib.hid (fun W h => hr.below h (Nat.le_refl _))
  have HIP : Hid (∀ W, Below w.heap.size w W → PlaceIn W p vc v0 v1) := Lib.hid (fun W h => hp.below h (Nat.le_refl _))
  obtain ⟨c, hc⟩ : ∃ c, c = placeE r p := ⟨_, rfl⟩
  have HOK : Hid (c = 0 → POkay r p) := Lib.hid (fun h => placeE_iff.1 (by rw [← hc]; exact h))
  have HLB : Hid (c ≠ 0 → ∀ W, Below w.heap.size w W → Calls Try.prog 12 #[RulesV r vp vs ve, PlaceV p vc v0 v1] W (ListBad c W)) := Lib.hid (fun hz W h => by rw [hc]; exact all_bad r p vp vs ve vc v0 v1 W (HIR.out W h) (HIP.out W h) (by rw [← hc]; exact hz))
  have HLG : Hid (c = 0 → ∀ W, Below w.heap.size w W → Calls Try.prog 12 #[RulesV r vp vs ve, PlaceV p vc v0 v1] W (ListPost (allD r p) W)) := Lib.hid (fun hz W h => all_ok r p vp vs ve vc v0 v1 W (HIR.out W h) (HIP.out W h) (HOK.out hz))
  obtain ⟨q, hq⟩ : ∃ q, q = otherD r p := ⟨_, rfl⟩
  obtain ⟨m, hm⟩ : ∃ m, m = q.cells.length := ⟨_, rfl⟩
  have HOG : Hid (c = 0 → ∀ W, Below w.heap.size w W → Calls Try.prog 18 #[RulesV r vp vs ve, PlaceV p vc v0 v1] W (OthP q m W)) := Lib.hid (fun hz W h => (other_ok r p vp vs ve vc v0 v1 W (HIR.out W h) (HIP.out W h) (HOK.out hz)).mono fun _ _ h => othP_of h hq.symm hm)
  have HLQ : Hid (c = 0 → ∀ uc u0 u1 W, Below w.heap.size w W → PlaceIn W q uc u0 u1 → Calls Try.prog 12 #[RulesV r vp vs ve, .agg #[uc, u0, u1, .int .i64 q.turn, .int .i64 q.quiet]] W (ListPost (allD r q) W)) := Lib.hid (fun hz uc u0 u1 W h hi => all_ok r q vp vs ve uc u0 u1 W (HIR.out W h) hi (by rw [hq]; exact otherD_same (HOK.out hz)))
  obtain ⟨K, hK⟩ : ∃ K, K = allD r q := ⟨_, rfl⟩
  obtain ⟨L, hL⟩ : ∃ L, L = allD r p := ⟨_, rfl⟩
  have HKL : Hid (c = 0 → K.length = L.length ∧ L.length ≤ 5000 ∧ K.length ≤ 5000) := Lib.hid (fun hz => by
    rw [hK, hL, hq]
    have h1 := turned_length (HOK.out hz) hf
    have h2 := allD_length (HOK.out hz)
    omega)
  have HMK : Hid (c = 0 → ∀ x ∈ L, turnM r x ∈ K) := Lib.hid (fun hz x hx => by rw [hK, hq]; rw [hL] at hx; exact turned_mem (HOK.out hz) hf hx)
  have HTS : Hid (c = 0 → ∀ x ∈ L, ∀ W, Below V.heap.size V W → Calls Try.prog 20 #[.int .i64 x.1, .pointer (some ⟨w.heap.size, 0, none⟩)] W (BelPost (.int .i64 (turnI r x.1)) W) ∧ Calls Try.prog 20 #[.int .i64 x.2.1, .pointer (some ⟨w.heap.size, 0, none⟩)] W (BelPost (.int .i64 (turnI r x.2.1)) W)) := Lib.hid (fun hz x hx W h => by
    have hk := HOK.out hz
    obtain ⟨_, hw, hh, _⟩ := rulesE_ok hk.e
    rw [inB_iff] at hw hh
    rw [hL] at hx
    obtain ⟨f1, f2, f3⟩ := from_in hk hx
    have hcl := hk.cl
    exact ⟨turnS_any r vp vs ve w.heap.size x.1 W (hY.below h (Nat.le_refl _)) hw.1 hw.2 hh.1 hh.2 (by rcases f1 with h | h <;> omega), turnS_any r vp vs ve w.heap.size x.2.1 W (hY.below h (Nat.le_refl _)) hw.1 hw.2 hh.1 hh.2 (by omega)⟩)
  have HX : Hid (∀ W, Below V.heap.size V W → BoxP W (w.heap.size + 1) p vc v0 v1) := Lib.hid (fun W hb => hX.below hb (Nat.le_refl _))
  have HY : Hid (∀ W, Below V.heap.size V W → BoxR W w.heap.size r vp vs ve) := Lib.hid (fun W hb => hY.below hb (Nat.le_refl _))
  rw [← hK] at HLQ
  rw [← hL] at HLG
  unfold PlaceCells at hV
  unfold RulesV at HLB HLG HOG HLQ ⊢
  unfold PlaceV PlaceCells at HLB HLG HOG ⊢
  clear hr0 hr hp hc hK hL hq hm hB hX hY hf hrd
  go_enter Try.func5, Try.ntmps5
  go_wp2_with fail
  rw [← hV]
  clear hV
  go_at_call 10; refine (three_keep _).mono ?_; rintro e w1 ⟨vp1, vs1, ve1, rfl, hin, hb⟩
  have HBv1 := Lib.hid hb
  have HI1 := Lib.hid hin
  clear hb hin
  go_wp2_with fail
  go_at_call 11; refine (near_any _).mono ?_; rintro e w2 ⟨uc, u0, u1, rfl, hpn, hb⟩
  have HBv2 := Lib.hid (HBv1.out.trans (hb.mono HBv1.out.size))
  have HI2 := Lib.hid (HI1.out.below hb (Nat.le_refl _))
  have HN2 := Lib.hid hpn
  clear hb hpn HBv1 HI1
  go_wp2_with fail
  go_at_call 18; refine (H3O.out _ _ _ _ _ _ _ HI2.out HN2.out).mono ?_; rintro e w3 ⟨ca, cc, a0, n0, c0, a1, n1, c1, rfl, -, hb⟩
  have HBv3 := Lib.hid (HBv2.out.trans (hb.mono HBv2.out.size))
  clear hb HBv2 HI2 HN2 H3O
  unfold xD
  go_wp2_with fail
  go_at_call 8; refine (plays_any _).mono ?_; rintro e w4 ⟨rfl, hb⟩
  have HBv4 := Lib.hid (HBv3.out.trans ((Below.refl w3.heap.size w3).alloc (Nat.le_refl _) (.cells #[.slice ca 9 cc, .slice a0 n0 c0, .slice a1 n1 c1, .int .i64 1, .int .i64 0] 29) |>.trans (hb.mono (by simp)) |>.mono HBv3.out.size))
  clear hb HBv3
  obtain ⟨x0, x1, x2, x3, x4⟩ := HX.out _ HBv4.out
  obtain ⟨y0, y1, y2, y3, y4, y5, y6, y7, y8, y9, y10⟩ := HY.out _ HBv4.out
  have HB4 := Lib.hid (HB.out.trans (HBv4.out.mono HB.out.size))
  go_wp2_with fail
  by_cases hz : c = 0
  · have HLG1 := Lib.hid (HLG.out hz)
    have HOG1 := Lib.hid (HOG.out hz)
    have HLQ1 := Lib.hid (HLQ.out hz)
    have HMK1 := Lib.hid (HMK.out hz)
    have HTS1 := Lib.hid (HTS.out hz)
    obtain ⟨hkl, hl5, hk5⟩ := HKL.out hz
    have HKE := Lib.hid hkl
    clear HLG HOG HLQ HMK HTS HKL HLB HOK hz hkl
    go_at_call 12; refine (HLG1.out _ HB4.out).mono ?_; rintro e w5 ⟨la, ln, lc, rfl, hI, hll, hb⟩
    have HBv5 := Lib.hid (HBv4.out.trans (hb.mono HBv4.out.size))
    have HI5 := Lib.hid hI
    have HLL := Lib.hid hll
    have hln2 : ln ≤ 5000 := by rw [hll]; exact hl5
    clear hb hI hll HB4 HBv4 HLG1 x0 x1 x2 x3 x4 y0 y1 y2 y3 y4 y5 y6 y7 y8 y9 y10
    obtain ⟨la', lc', hlv, hlc, hcell⟩ := HI5.out.shape HLL.out
    simp only [Value.slice.injEq] at hlv
    obtain ⟨rfl, -, rfl⟩ := hlv
    have HEL : Hid (∀ W, Below w5.heap.size w5 W → ∀ j, j < ln → ∃ g off x, la = some ⟨g, off, none⟩ ∧ L[j]? = some x ∧ MoveAt W g (off + j * 3) x) := Lib.hid (fun W hb j hj => by
      obtain ⟨g, off, x, e1, e2, e3⟩ := hcell j hj
      exact ⟨g, off, x, e1, e2, move_keeps _ _ _ _ _ _ hb (Nat.le_refl _) e3⟩)
    clear hcell
    obtain ⟨x0, x1, x2, x3, x4⟩ := HX.out _ HBv5.out
    obtain ⟨y0, y1, y2, y3, y4, y5, y6, y7, y8, y9, y10⟩ := HY.out _ HBv5.out
    have HBw5 := Lib.hid (HB.out.trans (HBv5.out.mono HB.out.size))
    go_wp2_with fail
    go_at_call 18; refine (HOG1.out _ HBw5.out).mono ?_; rintro e w6 ⟨da, dc, e0, j0, k0, e1, j1, k1, rfl, hpi, hb⟩
    have HBv6 := Lib.hid (HBv5.out.trans (hb.mono HBv5.out.size))
    have HBl6 := Lib.hid hb
    clear x0 x1 x2 x3 x4 y0 y1 y2 y3 y4 y5 y6 y7 y8 y9 y10 HBw5
    have hal := (Below.refl w6.heap.size w6).alloc (Nat.le_refl _) (.cells #[.slice da m dc, .slice e0 j0 k0, .slice e1 j1 k1, .int .i64 q.turn, .int .i64 q.quiet] 29)
    have HBv7 := Lib.hid (HBv6.out.trans (hal.mono HBv6.out.size))
    have HBl7 := Lib.hid (HBl6.out.trans (hal.mono HBl6.out.size))
    have HPI7 := Lib.hid (hpi.below hal (Nat.le_refl _))
    have hQ7 := boxP_new w6 q (.slice da m dc) (.slice e0 j0 k0) (.slice e1 j1 k1) 29
    unfold PlaceCells at hQ7
    obtain ⟨z0, z1, z2, z3, z4⟩ := hQ7
    obtain ⟨y0, y1, y2, y3, y4, y5, y6, y7, y8, y9, y10⟩ := HY.out _ HBv7.out
    have HBw7 := Lib.hid (HB.out.trans (HBv7.out.mono HB.out.size))
    clear hb hal HBv6 HBl6 hpi
    go_wp2_with fail
    go_at_call 12; refine (HLQ1.out _ _ _ _ HBw7.out HPI7.out).mono ?_; rintro e w8 ⟨ka, kn, kc, rfl, hI, hkn, hb⟩
    have HBv8 := Lib.hid (HBv7.out.trans (hb.mono HBv7.out.size))
    have HBl8 := Lib.hid (HBl7.out.trans (hb.mono HBl7.out.size))
    have HI8 := Lib.hid hI
    obtain rfl : kn = ln := by rw [hkn, HKE.out, HLL.out]
    clear hb hI hkn HBv7 HBl7 HPI7 HBw7 z0 z1 z2 z3 z4 y0 y1 y2 y3 y4 y5 y6 y7 y8 y9 y10
    go_wp2_with fail
    go_at_call 19; refine (fine2 w8 _ rfl).mono ?_; rintro e w9 ⟨rfl, hb⟩
    have HBv9 := Lib.hid (HBv8.out.trans (hb.mono HBv8.out.size))
    have HBl9 := Lib.hid (HBl8.out.trans (hb.mono HBl8.out.size))
    have HI9 := Lib.hid (HI8.out.below move_keeps hb (Nat.le_refl _))
    clear hb HBv8 HBl8 HI8
    go_wp2_with fail
    go_loopw [15, 73] (fun _ i wr => ∃ k : Nat, k ≤ kn ∧ i = .int .i64 (k : Int) ∧ Hid (Below w9.heap.size w9 wr)) (fun _ i _ => kn - (intOf i).toNat)
    case atStart => exact ⟨0, by omega, rfl, Lib.hid (Below.refl _ _)⟩
    case round =>
      obtain ⟨k, hkl, rfl, hbel⟩ := hrel
      by_cases hlt : k < kn
      · obtain ⟨g, off, ⟨n1, n2, n3⟩, rfl, hx, c0, c1, c2⟩ := HEL.out wr (HBl9.out.trans (hbel.out.mono HBl9.out.size)) k hlt
        have hmem := List.mem_of_getElem? hx
        have HMM := Lib.hid (HMK1.out _ hmem)
        have HTT := Lib.hid (HTS1.out _ hmem)
        clear hx hmem
        go_wp2_with fail
        have hal := (Below.refl wr.heap.size wr).alloc (Nat.le_refl _) (.cells #[.int .i64 n1, .int .i64 n2, .int .i64 n3] 31)
        have hNB : MoveAt (wr.alloc (.cells #[.int .i64 n1, .int .i64 n2, .int .i64 n3] 31)) wr.heap.size 0 (n1, n2, n3) := by
          refine ⟨?_, ?_, ?_⟩ <;> (rw [World.cell?_alloc_at (hn := rfl)]; rfl)
        have HNB := Lib.hid hNB
        have HBW := Lib.hid (hbel.out.trans (hal.mono hbel.out.size))
        clear hNB hal hbel c0 c1 c2
        generalize wr.alloc (.cells #[.int .i64 n1, .int .i64 n2, .int .i64 n3] 31) = w10 at HNB HBW ⊢
        generalize wr.heap.size = nb at HNB ⊢
        have hBc : Below w10.heap.size w10 w10.drew := (Below.refl _ _).drew
        refine wp_region_noPanic ?_
        refine wp_region_held_drew (S := (fun w' => w'.cell? ⟨nb, 0, none⟩ = some (.int .i64 n1) ∧ w'.cell? ⟨nb, 0 + 1, none⟩ = some (.int .i64 n2) ∧ w'.cell? ⟨nb, 0 + 2, none⟩ = some (.int .i64 n3))) (by kernel_rfl) ?_ (fun hHeld => ?_)
        · exact MoveAt.below HNB.out hBc (Nat.le_refl _)
        refine wpAnyH_take (i := 0) (v := ?_) rfl (by kernel_rfl) (by kernel_rfl) (by kernel_rfl) (fun _ _ _ h => h) (Or.inl ⟨by rfl, ?_⟩) (by assumption) ?_
        rotate_left
        · intro w hSw
          (try dsimp only at hSw)
          go_simp
          all_goals with_reducible rfl
        simp only [Act.put, List.setIfInBounds_toArray, List.set_cons_zero, List.set_cons_succ, List.getElem_toArray, List.getElem_cons_zero]
        refine wpAnyH_take (i := 1) (v := ?_) rfl (by kernel_rfl) (by kernel_rfl) (by kernel_rfl) (fun _ _ _ h => h) (Or.inl ⟨by rfl, ?_⟩) (by assumption) ?_
        rotate_left
        · intro w hSw
          (try dsimp only at hSw)
          go_simp
          all_goals with_reducible rfl
        simp only [Act.put, List.setIfInBounds_toArray, List.set_cons_zero, List.set_cons_succ, List.getElem_toArray, List.getElem_cons_zero, List.getElem_cons_succ]
        refine wpAnyH_take (i := 2) (v := ?_) rfl (by kernel_rfl) (by kernel_rfl) (by kernel_rfl) (fun _ _ _ h => h) (Or.inl ⟨by rfl, ?_⟩) (by assumption) ?_
        rotate_left
        · intro w hSw
          (try dsimp only at hSw)
          go_simp
          all_goals with_reducible rfl
        simp only [Act.put, List.setIfInBounds_toArray, List.set_cons_zero, List.set_cons_succ, List.getElem_toArray, List.getElem_cons_zero, List.getElem_cons_succ]
        refine wpAnyH_take (i := 3) (v := ?_) rfl (by kernel_rfl) (by kernel_rfl) (by kernel_rfl) (fun _ _ _ h => h) (Or.inl ⟨by rfl, ?_⟩) (by assumption) ?_
        rotate_left
        · intro w hSw
          (try dsimp only at hSw)
          go_simp
          all_goals with_reducible rfl
        simp only [Act.put, List.setIfInBounds_toArray, List.set_cons_zero, List.set_cons_succ, List.getElem_toArray, List.getElem_cons_zero, List.getElem_cons_succ]
        refine wpAnyH_take (i := 5) (v := ?_) rfl (by kernel_rfl) (by kernel_rfl) (by kernel_rfl) (fun _ _ _ h => h) (Or.inl ⟨by rfl, ?_⟩) (by assumption) ?_
        rotate_left
        · intro w hSw
          (try dsimp only at hSw)
          go_simp
          all_goals with_reducible rfl
        simp only [Act.put, List.setIfInBounds_toArray, List.set_cons_zero, List.set_cons_succ, List.getElem_toArray, List.getElem_cons_zero, List.getElem_cons_succ]
        refine wpAnyH_take (i := 6) (v := ?_) rfl (by kernel_rfl) (by kernel_rfl) (by kernel_rfl) (fun _ _ _ h => h) (Or.inl ⟨by rfl, ?_⟩) (by assumption) ?_
        rotate_left
        · intro w hSw
          (try dsimp only at hSw)
          go_simp
          all_goals with_reducible rfl
        simp only [Act.put, List.setIfInBounds_toArray, List.set_cons_zero, List.set_cons_succ, List.getElem_toArray, List.getElem_cons_zero, List.getElem_cons_succ]
        refine wpAnyH_take (i := 7) (v := ?_) rfl (by kernel_rfl) (by kernel_rfl) (by kernel_rfl) (fun _ _ _ h => h) (Or.inl ⟨by rfl, ?_⟩) (by assumption) ?_
        rotate_left
        · intro w hSw
          (try dsimp only at hSw)
          go_simp
          all_goals with_reducible rfl
        simp only [Act.put, List.setIfInBounds_toArray, List.set_cons_zero, List.set_cons_succ, List.getElem_toArray, List.getElem_cons_zero, List.getElem_cons_succ]
        refine wpAnyH_take (i := 9) (v := ?_) rfl (by kernel_rfl) (by kernel_rfl) (by kernel_rfl) (fun _ _ _ h => h) (Or.inl ⟨by rfl, ?_⟩) (by assumption) ?_
        rotate_left
        · intro w hSw
          (try dsimp only at hSw)
          go_simp
          all_goals with_reducible rfl
        simp only [Act.put, List.setIfInBounds_toArray, List.set_cons_zero, List.set_cons_succ, List.getElem_toArray, List.getElem_cons_zero, List.getElem_cons_succ]
        refine wpAnyH_take (i := 10) (v := ?_) rfl (by kernel_rfl) (by kernel_rfl) (by kernel_rfl) (fun _ _ _ h => h) (Or.inl ⟨by rfl, ?_⟩) (by assumption) ?_
        rotate_left
        · intro w hSw
          (try dsimp only at hSw)
          go_simp
          all_goals with_reducible rfl
        simp only [Act.put, List.setIfInBounds_toArray, List.set_cons_zero, List.set_cons_succ, List.getElem_toArray, List.getElem_cons_zero, List.getElem_cons_succ]
        refine wpAnyH_ready (rs := [4]) (by kernel_rfl) (by simp) (AllReadyH.cons rfl (fun K hK => ?_) AllReadyH.nil)
        go_simp
        go_at_call 20; refine (HTT.out _ (HBv9.out.trans ((HBW.out.trans (hBc.mono HBW.out.size)).mono HBv9.out.size))).1.mono ?_; rintro e w11 ⟨rfl, hb⟩; have hBc := hBc.trans (hb.mono hBc.size); clear hb
        refine hK.out _ _ ?_ (fun hHeld => ?_)
        · exact MoveAt.below HNB.out hBc (Nat.le_refl _)
        clear hK K
        try simp only [Act.put, List.setIfInBounds_toArray, List.set_cons_zero, List.set_cons_succ, List.getElem_toArray, List.getElem_cons_zero, List.getElem_cons_succ]
        refine wpAnyH_ready (rs := [8]) (by kernel_rfl) (by simp) (AllReadyH.cons rfl (fun K hK => ?_) AllReadyH.nil)
        go_simp
        go_at_call 20; refine (HTT.out _ (HBv9.out.trans ((HBW.out.trans (hBc.mono HBW.out.size)).mono HBv9.out.size))).2.mono ?_; rintro e w12 ⟨rfl, hb⟩; have hBc := hBc.trans (hb.mono hBc.size); clear hb
        refine hK.out _ _ ?_ (fun hHeld => ?_)
        · exact MoveAt.below HNB.out hBc (Nat.le_refl _)
        clear hK K
        try simp only [Act.put, List.setIfInBounds_toArray, List.set_cons_zero, List.set_cons_succ, List.getElem_toArray, List.getElem_cons_zero, List.getElem_cons_succ]
        refine wpAnyH_take (i := 11) (v := ?_) rfl (by kernel_rfl) (by kernel_rfl) (by kernel_rfl) (fun _ _ _ h => h) (Or.inl ⟨by rfl, ?_⟩) (by assumption) ?_
        rotate_left
        · intro w hSw
          (try dsimp only at hSw)
          go_simp
          all_goals with_reducible rfl
        simp only [Act.put, List.setIfInBounds_toArray, List.set_cons_zero, List.set_cons_succ, List.getElem_toArray, List.getElem_cons_zero, List.getElem_cons_succ]
        refine wpAnyH_ready (rs := [12]) (by kernel_rfl) (by simp) (AllReadyH.cons rfl (fun K hK => ?_) AllReadyH.nil)
        go_simp
        go_at_call 15; refine (contains_yes HMM.out (HI9.out.below move_keeps (HBW.out.trans (hBc.mono HBW.out.size)) (Nat.le_refl _)) hk5).mono ?_; rintro e w13 ⟨rfl, hb⟩; have hBc := hBc.trans (hb.mono hBc.size); clear hb
        refine hK.out _ _ ?_ (fun hHeld => ?_)
        · exact MoveAt.below HNB.out hBc (Nat.le_refl _)
        clear hK K
        try simp only [Act.put, List.setIfInBounds_toArray, List.set_cons_zero, List.set_cons_succ, List.getElem_toArray, List.getElem_cons_zero, List.getElem_cons_succ]
        refine wpAnyH_take (i := 13) (v := ?_) rfl (by kernel_rfl) (by kernel_rfl) (by kernel_rfl) (fun _ _ _ h => h) (Or.inl ⟨by rfl, ?_⟩) (by assumption) ?_
        rotate_left
        · intro w hSw
          (try dsimp only at hSw)
          go_simp
          all_goals with_reducible rfl
        simp only [Act.put, List.setIfInBounds_toArray, List.set_cons_zero, List.set_cons_succ, List.getElem_toArray, List.getElem_cons_zero, List.getElem_cons_succ]
        refine wpAnyH_done (by kernel_rfl) ?_ _
        refine NoPanic.normal ?_
        have HBE := Lib.hid (HBW.out.trans (hBc.mono HBW.out.size))
        clear hBc hHeld
        go_wp2_with fail
        go_roundw
        case rel => exact ⟨k + 1, by omega, by go_num, HBE⟩
        case measure => simp [intOf]; omega
      · obtain rfl : k = kn := by omega
        have HBE := Lib.hid (HB.out.trans ((HBv9.out.trans (hbel.out.mono HBv9.out.size)).mono HB.out.size))
        clear hbel
        go_wp2_with fail
        go_ret
        exact ⟨rfl, HBE.out⟩
  · have HLB1 := Lib.hid (HLB.out hz)
    have hne : (c != 0) = true := by simpa using hz
    clear HLG HOG HLQ HMK HTS HKL HLB HOK hz
    go_at_call 12; refine (HLB1.out _ HB4.out).mono ?_; rintro e w5 ⟨rfl, hb⟩
    have HB5 := Lib.hid (HB4.out.trans (hb.mono HB4.out.size))
    clear hb HB4 HLB1
    go_wp2_with fail
    go_ret
    exact ⟨rfl, HB5.out⟩
end Go.Proofs.Ythbilpgecombiaa
