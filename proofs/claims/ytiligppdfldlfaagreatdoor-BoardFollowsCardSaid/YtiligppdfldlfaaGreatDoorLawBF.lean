/- The law BoardFollows: a board follows a script of moves and of moves that are taken back. (Written by genlawbf.py.) -/
import Derived.Test.YtiligppdfldlfaaGreatDoorBrdF
import Derived.Test.YtiligppdfldlfaaGreatDoorZobC
import Derived.Test.YtiligppdfldlfaaGreatDoorEndN
import Derived.Test.YtiligppdfldlfaaGreatDoorOpnA
set_option maxRecDepth 100000
namespace Go.Proofs.YtiligppdfldlfaaGreatDoor
open Go.ChangeShapes Go.WideShapes Go.ChangeAt Go.RowKit

theorem bool_of_nz {c : Int} (h : c ≠ 0) : (c != 0) = true := by simpa using h
theorem key_same (K : BitVec 64) : ((K.toNat : Int) == (K.toNat : Int)) = true := by simp
theorem last_is {es : List PlaceD} {n : Nat} (h : n + 1 = es.length) : ∃ fs x, es = fs ++ [x] ∧ fs.length = n := by
  have hne : es ≠ [] := fun e => by rw [e] at h; simp at h
  exact ⟨es.dropLast, es.getLast hne, (List.dropLast_concat_getLast hne).symm, by simp; omega⟩
theorem newT (r : RulesD) (p : PlaceD) (vp vs ve vc v0 v1 : Value) (w : World) (hr : RulesIn w r vp vs ve) (hp : PlaceIn w p vc v0 v1) (hok : POkay r p) (hT : Dir w) :
    Calls Tryz.prog 8 #[RulesV r vp vs ve, PlaceV p vc v0 v1] w fun e w' => ∃ bb, e = .returned (.tuple #[.pointer (some ⟨bb, 0, none⟩), .int .i64 0]) ∧ BAt w (fun _ => True) w' bb r p [] :=
  (new_ok (fun _ => True) r p vp vs ve vc v0 v1 w hr hp hok hT (fun _ _ => trivial) (hr.1.1.mono fun _ _ _ hx => pieceIn_of hx (fun _ _ => trivial)) trivial).mono fun _ _ ⟨bb, h1, h2, h3⟩ => ⟨bb, h1, ⟨_, h2, fun _ hk => hk.1⟩, h3⟩
theorem bf_start {V w8 w10 w11 : World} {bb pb : Nat} {r : RulesD} {p : PlaceD} {pca pa0 pa1 : Option Addr} {pl pcc pn0 pc0 pn1 pc1 : Nat} (hA : BAt w8 (fun _ => True) w10 bb r p []) (hal : Below w10.heap.size w10 w11) (hrw : w11.heap[pb]? = some (.cells #[.slice pca pl pcc, .slice pa0 pn0 pc0, .slice pa1 pn1 pc1, .int .i64 p.turn, .int .i64 p.quiet] 29 (0, 0))) (hpb : pb = w10.heap.size)
    (hV : PlaceF (fun k => k < V.heap.size) V p (.slice pca pl pcc) (.slice pa0 pn0 pc0) (.slice pa1 pn1 pc1)) (h8 : Below V.heap.size V w8) : BF w8 bb r w11 p [] (some ⟨pb, 0, none⟩) 1 1 := by
  have hV11 : Below V.heap.size V w11 := (h8.trans (hA.bel.mono h8.size)).trans (hal.mono (Nat.le_trans h8.size hA.bel.size))
  have hVs := h8.size
  obtain ⟨⟨D, h1, h2⟩, h3⟩ := hA
  have hlt := h1.ok.2.2.1
  have hdb := h1.ok.2.2.2
  have hbl := hlt bb hdb
  refine ⟨D, [.slice pca pl pcc, .slice pa0 pn0 pc0, .slice pa1 pn1 pc1, .int .i64 p.turn, .int .i64 p.quiet], h1.keep hal, h2, ⟨⟨rfl, .inr ⟨pb, 1, _, rfl, by omega, hrw, Nat.le_refl _, by decide, rfl, rfl⟩⟩, fun i q hi => ?_, fun a ha g => ?_⟩, h3.trans (hal.mono h3.size)⟩
  · have hi1 := (List.getElem?_eq_some_iff.1 hi).1
    simp at hi1
    subst hi1
    simp at hi
    subst hi
    refine ⟨pca, pl, pcc, pa0, pn0, pc0, pa1, pn1, pc1, fun j hj => ?_, hV.on (fun k hk _ => hV11.block k hk) (fun k hk => ⟨fun g => by have := h2 k g; omega, fun a ha => by cases ha; show k ≠ pb; have := h3.size; omega⟩)⟩
    match j, hj with
    | 0, _ => rfl
    | 1, _ => rfl
    | 2, _ => rfl
    | 3, _ => rfl
    | 4, _ => rfl
  · cases ha
    have := hlt pb g
    omega
set_option maxHeartbeats 16000000 in
theorem boardFollows_full (r : RulesD) (vp vs ve : Value) (p : PlaceD) (vc v0 v1 : Value) (xs : List Int) (xv : Value) (w : World) (hr : RulesIn w r vp vs ve) (hf : LettersFit r.pieces) (hp : PlaceIn w p vc v0 v1) (hx : IsSl IntAt 1 w xv xs) (hT : Dir w) :
    Calls Tryz.prog 5 #[RulesV r vp vs ve, PlaceV p vc v0 v1, xv] w fun e w' => e = .returned (.bool true) ∧ Below w.heap.size w w' := by
  obtain ⟨i0, hi, hz0, hz1, hz2⟩ := info_parts infoPos
  obtain ⟨pl, hpl⟩ : ∃ n, n = p.cells.length := ⟨_, rfl⟩
  obtain ⟨pca, pcc, rfl, hpcc, _⟩ := hp.c.shape hpl
  obtain ⟨pa0, pn0, pc0, rfl⟩ := hp.a.form
  obtain ⟨pa1, pn1, pc1, rfl⟩ := hp.b.form
  have hfit : pl ≤ 9223372036854775807 := by rw [hpl]; exact hp.c.fit
  obtain ⟨V, hV⟩ : ∃ V, V = (w.alloc (.cells (RulesCells r vp vs ve) 26)).alloc (.cells (PlaceCells p (.slice pca pl pcc) (.slice pa0 pn0 pc0) (.slice pa1 pn1 pc1)) 29) := ⟨_, rfl⟩
  obtain ⟨hB, hY, hX⟩ := rp_boxes w r p vp vs ve (.slice pca pl pcc) (.slice pa0 pn0 pc0) (.slice pa1 pn1 pc1)
  rw [← hV] at hB hY hX
  have HB := Lib.hid hB
  have HIR : Hid (∀ W, Below V.heap.size V W → RulesIn W r vp vs ve) := Lib.hid (fun W h => (hr.below hB (Nat.le_refl _)).below h (Nat.le_refl _))
  have HIP : Hid (∀ W, Below V.heap.size V W → PlaceIn W p (.slice pca pl pcc) (.slice pa0 pn0 pc0) (.slice pa1 pn1 pc1)) := Lib.hid (fun W h => (hp.below hB (Nat.le_refl _)).below h (Nat.le_refl _))
  have HIV : Hid (PlaceF (fun k => k < V.heap.size) V p (.slice pca pl pcc) (.slice pa0 pn0 pc0) (.slice pa1 pn1 pc1)) := Lib.hid (by
    have h := hp.below hB (Nat.le_refl _)
    have g : ∀ {v : Value} {l : List Int}, IsSl IntAt 1 V v l → IsSl (Blk (fun k => k < V.heap.size) IntAt) 1 V v l := fun h => h.mono fun _ _ _ hx => ⟨World.block_lt_of_cell? _ _ hx, hx⟩
    exact ⟨g h.c, g h.a, g h.b⟩)
  have HT : Hid (∀ W, Below V.heap.size V W → Dir W) := Lib.hid (fun W h => (hT.below hB (Nat.le_refl _)).below h (Nat.le_refl _))
  have HX : Hid (∀ W, Below V.heap.size V W → BoxP W (w.heap.size + 1) p (.slice pca pl pcc) (.slice pa0 pn0 pc0) (.slice pa1 pn1 pc1)) := Lib.hid (fun W hb => hX.below hb (Nat.le_refl _))
  have HY : Hid (∀ W, Below V.heap.size V W → BoxR W w.heap.size r vp vs ve) := Lib.hid (fun W hb => hY.below hb (Nat.le_refl _))
  obtain ⟨xa, xn, xc, rfl, hxn, hxc, hxs⟩ := hx.parts
  have HXS : Hid (∀ W, Below V.heap.size V W → ∀ k, k < xn → ∃ g o x, xa = some ⟨g, o, none⟩ ∧ W.cell? ⟨g, o + k, none⟩ = some (.int .i64 x)) := Lib.hid (fun W h k hk => by
    obtain ⟨g, o, x, e1, _, e3⟩ := hxs W (hB.trans (h.mono hB.size)) k hk
    exact ⟨g, o, x, e1, e3⟩)
  have hxm : xn ≤ maxLen := by rw [hxn]; exact hx.fit
  unfold maxLen at hxm
  obtain ⟨c, hc⟩ : ∃ c, c = placeE r p := ⟨_, rfl⟩
  have HOK : Hid (c = 0 → POkay r p) := Lib.hid (fun h => placeE_iff.1 (by rw [← hc]; exact h))
  have HNB : Hid (c ≠ 0 → ∀ W, Below V.heap.size V W → Calls Tryz.prog 8 #[RulesV r vp vs ve, PlaceV p (.slice pca pl pcc) (.slice pa0 pn0 pc0) (.slice pa1 pn1 pc1)] W (NewBad c W)) := Lib.hid (fun hz W h => by rw [hc]; exact new_bad r p vp vs ve _ _ _ W (HIR.out W h) (HIP.out W h) (by rw [← hc]; exact hz))
  have HNG : Hid (c = 0 → ∀ W, Below V.heap.size V W → Calls Tryz.prog 8 #[RulesV r vp vs ve, PlaceV p (.slice pca pl pcc) (.slice pa0 pn0 pc0) (.slice pa1 pn1 pc1)] W fun e w' => ∃ bb, e = .returned (.tuple #[.pointer (some ⟨bb, 0, none⟩), .int .i64 0]) ∧ BAt W (fun _ => True) w' bb r p []) := Lib.hid (fun hz W h => newT r p vp vs ve _ _ _ W (HIR.out W h) (HIP.out W h) (HOK.out hz) (HT.out W h))
  have HPE : Hid (∀ W, Below V.heap.size V W → Calls Tryz.prog 29 #[RulesV r vp vs ve, PlaceV p (.slice pca pl pcc) (.slice pa0 pn0 pc0) (.slice pa1 pn1 pc1)] W (BelPost (.int .i64 c) W)) := Lib.hid (fun W hb => by rw [hc]; exact placeErr_any r p vp vs ve _ _ _ W (HIR.out W hb) hf (HIP.out W hb))
  have HRM : Hid (∀ q a1 a2 a3 W, POkay r q → Below V.heap.size V W → PlaceIn W q a1 a2 a3 → Calls Tryz.prog 30 #[RulesV r vp vs ve, PlaceV q a1 a2 a3] W (MovesPost (allD r q) W)) := Lib.hid (fun q a1 a2 a3 W hk h h2 => refMoves_any r q vp vs ve a1 a2 a3 W (HIR.out W h).1 h2 hk)
  have HRR : Hid (∀ q a1 a2 a3 W, POkay r q → Below V.heap.size V W → PlaceIn W q a1 a2 a3 → Calls Tryz.prog 31 #[RulesV r vp vs ve, PlaceV q a1 a2 a3] W (BelPost (.int .i64 (resultD r q)) W)) := Lib.hid (fun q a1 a2 a3 W hk h h2 => result_any r q vp vs ve a1 a2 a3 W (HIR.out W h).1 h2 hk)
  have HRA : Hid (∀ q a1 a2 a3 m W, POkay r q → Below V.heap.size V W → PlaceIn W q a1 a2 a3 → Calls Tryz.prog 32 #[RulesV r vp vs ve, PlaceV q a1 a2 a3, moveV m] W (BelPost (.bool (legalB r q m)) W)) := Lib.hid (fun q a1 a2 a3 m W hk h h2 => allowed_any r q vp vs ve a1 a2 a3 m W (HIR.out W h).1 h2 hk)
  have HRF : Hid (∀ q a1 a2 a3 m W, POkay r q → PlaceIn W q a1 a2 a3 → legalB r q m = true → Calls Tryz.prog 33 #[RulesV r vp vs ve, PlaceV q a1 a2 a3, moveV m] W (RefAftF (afterD r q m) W)) := Lib.hid (fun q a1 a2 a3 m W hk h2 hl => refAfterF_any r q vp vs ve a1 a2 a3 m W h2 hk hl)
  obtain ⟨x0, x1, x2, x3, x4⟩ := HX.out _ (Below.refl _ _)
  obtain ⟨y0, y1, y2, y3, y4, y5, y6, y7, y8, y9, y10⟩ := HY.out _ (Below.refl _ _)
  have hV' := hV
  unfold RulesCells PlaceCells at hV'
  unfold RulesV PlaceV PlaceCells at HNB HNG HPE HRM HRR HRA HRF
  unfold moveV at HRA HRF
  unfold RulesV PlaceV PlaceCells
  clear hr hf hp hc hB hX hY hT hxn hxs hx hV hpl hpcc x0 x1 x2 x3 x4 y0 y1 y2 y3 y4 y5 y6 y7 y8 y9 y10
  go_enter Tryz.func5, Tryz.ntmps5
  go_wp2_with fail
  rw [← hV']
  clear hV'
  go_at_call 25; refine (three_law _).mono ?_; rintro e w1 ⟨vp1, vs1, ve1, rfl, hin, hb⟩
  have HB1 := Lib.hid hb
  have HI1 := Lib.hid hin
  clear hb hin
  go_wp2_with fail
  go_at_call 26; refine (won_any _).mono ?_; rintro e w2 ⟨uc, u0, u1, rfl, hpn, hb⟩
  have HB2 := Lib.hid (HB1.out.trans (hb.mono HB1.out.size))
  have HI2 := Lib.hid (HI1.out.below hb (Nat.le_refl _))
  have HN2 := Lib.hid hpn
  clear hb hpn HB1 HI1
  go_wp2_with fail
  go_at_call 8; refine (newB three9 wonL _ _ _ _ _ _ _ HI2.out HN2.out wonL_ok (HT.out _ HB2.out)).mono ?_; rintro e w3 ⟨bx, W1, rfl, hba⟩
  have HA := Lib.hid hba
  have hwr : resultD three9 wonL ≠ 0 := by rw [wonL_res]; decide
  have HWR := Lib.hid hwr
  clear hba HI2 HN2 hwr
  go_wp2_with fail
  go_at_call 27; refine (put_law _ _).mono ?_; rintro e w4 ⟨rfl, hb⟩
  have HA4 := Lib.hid (HA.out.keep hb)
  clear hb HA
  go_wp2_with fail
  go_at_call 11; refine (HA4.out.doOver HWR.out (-1, 8, 0)).mono ?_; rintro e w5 ⟨rfl, hb⟩
  have HA5 := Lib.hid (HA4.out.keep hb)
  clear hb HA4
  have HR5 := Lib.hid HA5.out.result
  rw [wonL_res] at HR5
  go_wp2_with fail
  go_at_call 23; refine HR5.out.mono ?_; rintro e w6 ⟨rfl, hb⟩
  have HA6 := Lib.hid (HA5.out.keep hb)
  have HT6 : Hid (Calls Tryz.prog 28 #[.pointer (some ⟨bx, 0, none⟩)] w6 (BelPost (.int .i64 1) w6)) := Lib.hid HA6.out.turn
  clear hb HA5 HR5
  go_wp2_with fail
  go_at_call 28; refine HT6.out.mono ?_; rintro e w7 ⟨rfl, hb⟩
  have HA7 := Lib.hid (HA6.out.keep hb)
  clear hb HA6 HT6
  go_wp2_with fail
  go_at_call 14; refine (HA7.out.undoNone rfl).mono ?_; rintro e w8 ⟨rfl, hb⟩
  have hB8 := HB2.out.trans ((HA7.out.keep hb).bel.mono HB2.out.size)
  have HB8 := Lib.hid hB8
  obtain ⟨x0, x1, x2, x3, x4⟩ := HX.out _ hB8
  obtain ⟨y0, y1, y2, y3, y4, y5, y6, y7, y8, y9, y10⟩ := HY.out _ hB8
  clear hb HA7 HB2 hB8 HWR
  go_wp2_with fail
  by_cases hz : c = 0
  · have HNG1 := Lib.hid (HNG.out hz)
    have HPK := Lib.hid (HOK.out hz)
    clear HNG HNB HOK
    subst hz
    go_at_call 8; refine (HNG1.out _ HB8.out).mono ?_; rintro e w9 ⟨bb, rfl, hba⟩
    have HA9 := Lib.hid hba
    have hB9 := HB8.out.trans (hba.bel.mono HB8.out.size)
    have HB9 := Lib.hid hB9
    clear hba HNG1 x0 x1 x2 x3 x4 y0 y1 y2 y3 y4 y5 y6 y7 y8 y9 y10
    obtain ⟨x0, x1, x2, x3, x4⟩ := HX.out _ hB9
    obtain ⟨y0, y1, y2, y3, y4, y5, y6, y7, y8, y9, y10⟩ := HY.out _ hB9
    clear hB9
    go_wp2_with fail
    go_at_call 29; refine (HPE.out _ HB9.out).mono ?_; rintro e w10 ⟨rfl, hb⟩
    have HA10 := Lib.hid (HA9.out.keep hb)
    have hB10 := HB9.out.trans (hb.mono HB9.out.size)
    have HB10 := Lib.hid hB10
    clear hb HA9 HB9 x0 x1 x2 x3 x4 y0 y1 y2 y3 y4 y5 y6 y7 y8 y9 y10
    obtain ⟨x0, x1, x2, x3, x4⟩ := HX.out _ hB10
    clear hB10
    by_cases hl20 : 20 < pl
    · have hdl : decide ((pl : Int) > 20) = true := by simp; omega
      have hdl2 : decide (20 < pl) = true := by simp; omega
      have hdl3 : decide ((20 : Int) < (pl : Int)) = true := by simp; omega
      have HBE := Lib.hid (HB.out.trans (HB10.out.mono HB.out.size))
      clear hl20 HA10
      go_wp2_with fail
      go_ret
      exact ⟨rfl, HBE.out⟩
    · have hdl : decide ((pl : Int) > 20) = false := by simp; omega
      have hdl2 : decide (20 < pl) = false := by simp; omega
      have hdl3 : decide ((20 : Int) < (pl : Int)) = false := by simp; omega
      obtain ⟨m, hm, hmn, hmc, hmx⟩ : ∃ m : Nat, m = min xn 12 ∧ m ≤ 12 ∧ m ≤ xc ∧ m ≤ xn := ⟨_, rfl, by omega, by omega, by omega⟩
      have hm1 : min (xn : Int) 12 = (m : Int) := by omega
      have hm2 : max (m : Int) 0 = (m : Int) := by omega
      clear hm hl20
      obtain ⟨pb, hpb⟩ : ∃ n, n = w10.heap.size := ⟨_, rfl⟩
      have hal := (Below.refl w10.heap.size w10).alloc (Nat.le_refl _) (.cells #[.slice pca pl pcc, .slice pa0 pn0 pc0, .slice pa1 pn1 pc1, .int .i64 p.turn, .int .i64 p.quiet] 29)
      have hrw := heap_alloc_new w10 (.cells #[.slice pca pl pcc, .slice pa0 pn0 pc0, .slice pa1 pn1 pc1, .int .i64 p.turn, .int .i64 p.quiet] 29)
      go_wp2_with fail
      rw [← hpb] at hrw ⊢
      generalize w10.alloc (.cells #[.slice pca pl pcc, .slice pa0 pn0 pc0, .slice pa1 pn1 pc1, .int .i64 p.turn, .int .i64 p.quiet] 29) = w11 at hal hrw ⊢
      have HF0 := Lib.hid (bf_start HA10.out hal hrw hpb HIV.out HB8.out)
      clear hal hrw hpb HA10 HB10 x0 x1 x2 x3 x4
      go_loopw [10, 12, 13, 14, 15, 16, 17, 85, 135, 140] (fun pv _ _ _ _ _ _ i _ _ wr => ∃ (k n : Nat) (q : PlaceD) (es : List PlaceD) (pa : Option Addr) (pc : Nat), k ≤ m ∧ i = .int .i64 (k : Int) ∧ pv = .slice pa (n + 1) pc ∧ n ≤ k ∧ Hid (n = es.length) ∧ Hid (BF w8 bb r wr q es pa (n + 1) pc)) (fun _ _ _ _ _ _ _ i _ _ _ => m - (intOf i).toNat)
      case atStart => exact ⟨0, 0, p, [], some ⟨pb, 0, none⟩, 1, by omega, rfl, rfl, by omega, Lib.hid rfl, HF0⟩
      case round =>
        clear HF0
        obtain ⟨k, n, q, es, pa, pc, hk, rfl, rfl, hnk, hNE, hF⟩ := hrel
        have hPO := hF.out.bat.ok
        have HPO := Lib.hid hPO
        have HVW := Lib.hid (HB8.out.trans (hF.out.bel.mono HB8.out.size))
        obtain ⟨g, hga, hpc, hgl, ca, cn, cc, a0, n0, c0, a1, n1, c1, ⟨e0, e1, e2, e3, e4⟩, hpi⟩ : ∃ g, pa = some ⟨g, 0, none⟩ ∧ n + 1 ≤ pc ∧ g < wr.heap.size ∧ ∃ ca cn cc a0 n0 c0 a1 n1 c1, (wr.cell? ⟨g, n * 5, none⟩ = some (.slice ca cn cc) ∧ wr.cell? ⟨g, n * 5 + 1, none⟩ = some (.slice a0 n0 c0) ∧ wr.cell? ⟨g, n * 5 + 2, none⟩ = some (.slice a1 n1 c1) ∧ wr.cell? ⟨g, n * 5 + 3, none⟩ = some (.int .i64 q.turn) ∧ wr.cell? ⟨g, n * 5 + 4, none⟩ = some (.int .i64 q.quiet)) ∧ PlaceIn wr q (.slice ca cn cc) (.slice a0 n0 c0) (.slice a1 n1 c1) := by
          obtain ⟨D, news, h1, h2, h3, h4⟩ := hF.out
          obtain ⟨g, hga, _, hpc, rest⟩ := h3.last hNE.out
          exact ⟨g, hga, hpc, (h3.plt _ hga).2, rest⟩
        subst hga
        have hal := (Below.refl wr.heap.size wr).alloc (Nat.le_refl _) (.cells #[.slice ca cn cc, .slice a0 n0 c0, .slice a1 n1 c1, .int .i64 q.turn, .int .i64 q.quiet] 29)
        have HF1 := Lib.hid (hF.out.keep hal)
        have HP1 := Lib.hid (hpi.below hal (Nat.le_refl _))
        have HV1 := Lib.hid (HVW.out.trans (hal.mono HVW.out.size))
        have hnbx := boxP_new wr q (.slice ca cn cc) (.slice a0 n0 c0) (.slice a1 n1 c1) 29
        have HGL := Lib.hid hgl
        unfold PlaceCells BoxP at hnbx
        have HNB : Hid (∀ W, Below (wr.alloc (.cells #[.slice ca cn cc, .slice a0 n0 c0, .slice a1 n1 c1, .int .i64 q.turn, .int .i64 q.quiet] 29)).heap.size (wr.alloc (.cells #[.slice ca cn cc, .slice a0 n0 c0, .slice a1 n1 c1, .int .i64 q.turn, .int .i64 q.quiet] 29)) W → W.cell? ⟨wr.heap.size, 0, none⟩ = some (.slice ca cn cc) ∧ W.cell? ⟨wr.heap.size, 1, none⟩ = some (.slice a0 n0 c0) ∧ W.cell? ⟨wr.heap.size, 2, none⟩ = some (.slice a1 n1 c1) ∧ W.cell? ⟨wr.heap.size, 3, none⟩ = some (.int .i64 q.turn) ∧ W.cell? ⟨wr.heap.size, 4, none⟩ = some (.int .i64 q.quiet)) := Lib.hid (fun W h => ⟨cell_keeps h (Nat.le_refl _) hnbx.1, cell_keeps h (Nat.le_refl _) hnbx.2.1, cell_keeps h (Nat.le_refl _) hnbx.2.2.1, cell_keeps h (Nat.le_refl _) hnbx.2.2.2.1, cell_keeps h (Nat.le_refl _) hnbx.2.2.2.2⟩)
        have hnlt : wr.heap.size < (wr.alloc (.cells #[.slice ca cn cc, .slice a0 n0 c0, .slice a1 n1 c1, .int .i64 q.turn, .int .i64 q.quiet] 29)).heap.size := by simp
        have HGA := Lib.hid (Nat.lt_trans hgl hnlt)
        clear hF hal hpi hPO hnbx hgl
        obtain ⟨y0, y1, y2, y3, y4, y5, y6, y7, y8, y9, y10⟩ := HY.out _ HV1.out
        by_cases hlt : k < m
        · obtain ⟨xg, xo, x, rfl, cx⟩ := HXS.out wr HVW.out k (by omega)
          have hn12 : n ≤ 12 := by omega
          by_cases hx1 : x = -1
          · have hxt : (x == -1) = true := by simpa using hx1
            clear hx1
            by_cases hn0 : n = 0
            · subst hn0
              have he : es = [] := List.eq_nil_of_length_eq_zero hNE.out.symm
              have HU := Lib.hid (HF1.out.bat.undoNone he)
              clear he
              go_wp2_with fail
              go_at_call 14; refine HU.out.mono ?_; rintro e w12 ⟨rfl, hb⟩
              have HF2 := Lib.hid (HF1.out.keep hb)
              clear hb HU
              go_wp2_with fail
              go_roundw
              case rel => exact ⟨k + 1, 0, q, es, _, _, by omega, by go_num, rfl, by omega, hNE, HF2⟩
              case measure => simp [intOf]; omega
            · obtain ⟨n', rfl⟩ : ∃ n', n = n' + 1 := ⟨n - 1, by omega⟩
              obtain ⟨fs, p', he, hfl⟩ := last_is hNE.out
              have HU := Lib.hid (HF1.out.undo hNE.out he (by omega))
              have HFL := Lib.hid hfl
              have hq1 : ((n' : Int) + 1 + 1 == 1) = false := by simp; omega
              have hq2 : (((n' + 1 + 1 : Nat) : Int) == 1) = false := by simp; omega
              clear he hfl hn0
              go_wp2_with fail
              go_at_call 14; refine HU.out.mono ?_; rintro e w12 ⟨rfl, hb⟩
              have HF2 := Lib.hid hb
              clear hb HU
              go_wp2_with fail
              go_roundw
              case rel => exact ⟨k + 1, n', p', fs, _, _, by omega, by go_num, by first | rfl | go_num, by omega, Lib.hid HFL.out.symm, HF2⟩
              case measure => simp [intOf]; omega
          · have hxt : (x == -1) = false := by simpa using hx1
            have HM1 := Lib.hid (HRM.out q _ _ _ _ HPO.out HV1.out HP1.out)
            go_wp2_with fail
            go_at_call 30; refine HM1.out.mono ?_; rintro e u2 ⟨la, ln, lc, rfl, hI, hb⟩
            have hln := hI.len
            have hL5 : ln ≤ 5000 := by rw [hln]; exact allD_length HPO.out
            have HF2 := Lib.hid (HF1.out.keep hb)
            have HP2 := Lib.hid (HP1.out.below hb (Nat.le_refl _))
            have HV2 := Lib.hid (HV1.out.trans (hb.mono HV1.out.size))
            obtain ⟨nb, hnb⟩ : ∃ nb, nb = wr.heap.size := ⟨_, rfl⟩
            rw [← hnb] at HNB ⊢
            have HNB2 := Lib.hid (fun W (h : Below u2.heap.size u2 W) => HNB.out W (hb.trans (h.mono hb.size)))
            have HG2 : Hid (g < u2.heap.size) := Lib.hid (Nat.lt_of_lt_of_le HGA.out hb.size)
            have HLN := Lib.hid hln
            clear hb HM1 HNB y0 y1 y2 y3 y4 y5 y6 y7 y8 y9 y10 hln hnb
            by_cases hin : 0 ≤ x ∧ x < (ln : Int)
            · obtain ⟨xi, rfl⟩ : ∃ xi : Nat, x = (xi : Int) := ⟨x.toNat, by omega⟩
              have hxl : xi < ln := by omega
              obtain ⟨a', cp', e1', hcp, hcl⟩ := hI.shape HLN.out
              simp only [Value.slice.injEq, true_and] at e1'
              obtain ⟨rfl, rfl⟩ := e1'
              obtain ⟨lg, lo, ⟨m1, m2, m3⟩, rfl, hxm, hmq⟩ := hcl xi hxl
              have hal0 := (Below.refl u2.heap.size u2).alloc (Nat.le_refl _) (.cells #[.int .i64 (xi : Int), .int .i64 (xi : Int), .int .i64 (xi : Int)] 41)
              obtain ⟨d0, d1, d2⟩ := move_keeps _ _ _ _ _ _ hal0 (Nat.le_refl _) hmq
              dsimp only at d0 d1 d2
              have hg1 : decide ((xi : Int) ≥ 0) = true := by simp
              have hg2 : decide ((0 : Int) ≤ (xi : Int)) = true := by simp
              have hg3 : decide ((xi : Int) < (ln : Int)) = true := by simp; omega
              have hg4 : decide (xi < ln) = true := by simp; omega
              clear hin hcl hxm hmq hal0 hI
              have hal := (Below.refl u2.heap.size u2).alloc (Nat.le_refl _) (.cells #[.int .i64 m1, .int .i64 m2, .int .i64 m3] 41)
              have HF3 := Lib.hid (HF2.out.keep hal)
              have HP3 := Lib.hid (HP2.out.below hal (Nat.le_refl _))
              have HV3 := Lib.hid (HV2.out.trans (hal.mono HV2.out.size))
              have HNB3 : Hid (∀ W, Below (u2.alloc (.cells #[.int .i64 m1, .int .i64 m2, .int .i64 m3] 41)).heap.size (u2.alloc (.cells #[.int .i64 m1, .int .i64 m2, .int .i64 m3] 41)) W → W.cell? ⟨nb, 0, none⟩ = some (.slice ca cn cc) ∧ W.cell? ⟨nb, 1, none⟩ = some (.slice a0 n0 c0) ∧ W.cell? ⟨nb, 2, none⟩ = some (.slice a1 n1 c1) ∧ W.cell? ⟨nb, 3, none⟩ = some (.int .i64 q.turn) ∧ W.cell? ⟨nb, 4, none⟩ = some (.int .i64 q.quiet)) := Lib.hid (fun W h => HNB2.out W ((hal).trans (h.mono hal.size)))
              have hmm : MoveAt (u2.alloc (.cells #[.int .i64 m1, .int .i64 m2, .int .i64 m3] 41)) u2.heap.size 0 (m1, m2, m3) := by
                refine ⟨?_, ?_, ?_⟩ <;> (rw [World.cell?_alloc_at (hn := rfl)]; rfl)
              have HMM := Lib.hid hmm
              obtain ⟨y0, y1, y2, y3, y4, y5, y6, y7, y8, y9, y10⟩ := HY.out _ HV3.out
              obtain ⟨b0, b1, b2, b3, b4⟩ := HNB3.out _ (Below.refl _ _)
              go_wp2_with fail
              generalize hu3 : u2.alloc (.cells #[.int .i64 m1, .int .i64 m2, .int .i64 m3] 41) = u3 at HF3 HP3 HV3 HNB3 HMM y0 y1 y2 y3 y4 y5 y6 y7 y8 y9 y10 b0 b1 b2 b3 b4 ⊢
              have hmb : u2.heap.size < u3.heap.size := by rw [← hu3]; simp
              obtain ⟨mb, hmbe⟩ : ∃ mb, mb = u2.heap.size := ⟨_, rfl⟩
              rw [← hmbe] at HMM hmb ⊢
              have hgm : g < mb := by rw [hmbe]; exact HG2.out
              have HGM := Lib.hid (And.intro hgm hmb)
              clear hal hmm hu3 hmb hmbe hgm
              have HRS := Lib.hid (HRR.out q _ _ _ _ HPO.out HV3.out HP3.out)
              obtain ⟨X, hX⟩ : ∃ X, X = resultD r q := ⟨_, rfl⟩
              rw [← hX] at HRS
              have HXQ := Lib.hid hX
              clear hX
              go_at_call 31; refine HRS.out.mono ?_; rintro e v1 ⟨rfl, hb⟩
              have HF4 := Lib.hid (HF3.out.keep hb)
              have HP4 := Lib.hid (HP3.out.below hb (Nat.le_refl _))
              have HV4 := Lib.hid (HV3.out.trans (hb.mono HV3.out.size))
              have HM4 := Lib.hid (MoveAt.below HMM.out hb (Nat.le_refl _))
              have HNB4 := Lib.hid (fun W (h : Below v1.heap.size v1 W) => HNB3.out W (hb.trans (h.mono hb.size)))
              have HS4 : Hid (u3.heap.size ≤ v1.heap.size) := Lib.hid hb.size
              clear y0 y1 y2 y3 y4 y5 y6 y7 y8 y9 y10 b0 b1 b2 b3 b4
              obtain ⟨z0, z1, z2⟩ := moveAt_parts HM4.out
              dsimp only at z0 z1 z2
              clear hb HRS HF3 HP3 HV3 HMM HNB3
              by_cases hres : X = 0
              · subst hres
                obtain ⟨y0, y1, y2, y3, y4, y5, y6, y7, y8, y9, y10⟩ := HY.out _ HV4.out
                obtain ⟨b0, b1, b2, b3, b4⟩ := HNB4.out _ (Below.refl _ _)
                have HAL := Lib.hid (HRA.out q _ _ _ (m1, m2, m3) _ HPO.out HV4.out HP4.out)
                dsimp only at HAL
                go_wp2_with fail
                cases hlb : legalB r q (m1, m2, m3)
                · rw [hlb] at HAL
                  have HLB := Lib.hid hlb
                  clear hlb
                  go_at_call 32; refine HAL.out.mono ?_; rintro e v2 ⟨rfl, hb⟩
                  have HF5 := Lib.hid (HF4.out.keep hb)
                  have HM5 := Lib.hid (MoveAt.below HM4.out hb (Nat.le_refl _))
                  clear y0 y1 y2 y3 y4 y5 y6 y7 y8 y9 y10 b0 b1 b2 b3 b4 z0 z1 z2
                  obtain ⟨z0, z1, z2⟩ := moveAt_parts HM5.out
                  dsimp only at z0 z1 z2
                  have HD := Lib.hid (HF5.out.bat.doBad HXQ.out.symm (m1, m2, m3) HLB.out)
                  unfold moveV at HD
                  clear hb HAL HF4
                  go_wp2_with fail
                  go_at_call 11; refine HD.out.mono ?_; rintro e v3 ⟨rfl, hb⟩
                  have HF6 := Lib.hid (HF5.out.keep hb)
                  clear hb HD z0 z1 z2
                  go_wp2_with fail
                  go_roundw
                  case rel => exact ⟨k + 1, n, q, es, _, _, by omega, by go_num, rfl, by omega, hNE, HF6⟩
                  case measure => simp [intOf]; omega
                · rw [hlb] at HAL
                  have HLB := Lib.hid hlb
                  clear hlb
                  go_at_call 32; refine HAL.out.mono ?_; rintro e v2 ⟨rfl, hb⟩
                  have HF5 := Lib.hid (HF4.out.keep hb)
                  have HP5 := Lib.hid (HP4.out.below hb (Nat.le_refl _))
                  have HV5 := Lib.hid (HV4.out.trans (hb.mono HV4.out.size))
                  have HM5 := Lib.hid (MoveAt.below HM4.out hb (Nat.le_refl _))
                  clear y0 y1 y2 y3 y4 y5 y6 y7 y8 y9 y10 b0 b1 b2 b3 b4 z0 z1 z2
                  obtain ⟨y0, y1, y2, y3, y4, y5, y6, y7, y8, y9, y10⟩ := HY.out _ HV5.out
                  obtain ⟨b0, b1, b2, b3, b4⟩ := HNB4.out _ hb
                  obtain ⟨z0, z1, z2⟩ := moveAt_parts HM5.out
                  dsimp only at z0 z1 z2
                  have HRF5 := Lib.hid (HRF.out q _ _ _ (m1, m2, m3) v2 HPO.out HP5.out HLB.out)
                  dsimp only at HRF5
                  have HS5 : Hid (u3.heap.size ≤ v2.heap.size) := Lib.hid (Nat.le_trans HS4.out hb.size)
                  clear hb HAL HF4 HP4 HV4 HM4
                  go_wp2_with fail
                  go_at_call 33; refine HRF5.out.mono ?_; rintro e v3 ⟨qa, qan, qac, qb, qbn, qbc, qc, qcn, qcc, rfl, hpf, hb⟩
                  clear y0 y1 y2 y3 y4 y5 y6 y7 y8 y9 y10 b0 b1 b2 b3 b4 z0 z1 z2
                  obtain ⟨D, news, g1, g2, g3, g4⟩ := HF5.out
                  have HG1 := Lib.hid (g1.keep hb)
                  have HG3 := Lib.hid (g3.keep hb)
                  have HG4 := Lib.hid (g4.trans (hb.mono g4.size))
                  have HDN : Hid (∀ k, D k → k < v2.heap.size) := Lib.hid g1.ok.2.2.1
                  have HPN : Hid (∀ a, some (⟨g, 0, none⟩ : Addr) = some a → a.block < v2.heap.size) := Lib.hid (fun a ha => (g3.plt a ha).2)
                  have HD2 := Lib.hid g2
                  have HNW := Lib.hid hb.size
                  have HPQ := Lib.hid hpf
                  have HM6 := Lib.hid (MoveAt.below HM5.out hb (Nat.le_refl _))
                  have hown : v3.ownsRow (bb + 1) 29 5 (.slice (some ⟨g, 0, none⟩) (n + 1) pc) (n + 1) news := by
                    have h1 := HG3.out.own
                    rw [List.length_append, ← hNE.out] at h1
                    exact h1
                  have HOW := Lib.hid hown
                  have hbb3 : bb + 1 ≤ v3.heap.size := by have := g1.ok.2.2.1 bb g1.ok.2.2.2; have := hb.size; omega
                  have hes12 : es.length ≤ 100 := by have := hNE.out; omega
                  have HE12 := Lib.hid hes12
                  obtain ⟨q2, hq2⟩ : ∃ q2, q2 = afterD r q (m1, m2, m3) := ⟨_, rfl⟩
                  have HQ2 := Lib.hid hq2
                  rw [← hq2] at HPQ ⊢
                  clear g1 g2 g3 g4 hpf hb hown hes12 hq2 HRF5 HF5 HM5 HP5
                  go_wp2_with (at_builtin; refine wpList_append_lies _ rfl _ _ 59 rfl (bb + 1) 29 i0 (.agg #[.slice none 0 0, .slice none 0 0, .slice none 0 0, .int .i64 0, .int .i64 0]) 5 88 Tryz.underlying59 hi hz0 hz1 hz2 rfl (by decide) (.slice (some ⟨g, 0, none⟩) (n + 1) pc) (n + 1) news rfl (HOW.out.alloc _) ⟨v3.heap.size, 0, none⟩ 1 1 [.slice qa qan qac, .slice qb qbn qbc, .slice qc qcn qcc, .int .i64 q2.turn, .int .i64 q2.quiet] rfl rfl (World.news_of_block (cs := #[.slice qa qan qac, .slice qb qbn qbc, .slice qc qcn qcc, .int .i64 q2.turn, .int .i64 q2.quiet]) (t := 29) (fr := (0, 0)) (heap_alloc_new v3 _)) (by simp [Value.oneCell']) (by omega) (by unfold maxLen; omega) (by omega) (by simp; omega) (v3.heap.size + 1) (by simp) ?_)
                  intro gg cap v4 hown4 hgrow4 hat4 hlt4
                  have hdo := BF.doOk (N := v2.heap.size) (m := (m1, m2, m3)) HG1.out HD2.out HG3.out HG4.out HXQ.out.symm HLB.out HE12.out ((Below.refl v3.heap.size v3).alloc (Nat.le_refl _) _) (by rw [← HQ2.out]; exact HPQ.out) HDN.out HPN.out HNW.out (by rw [← HQ2.out, List.length_append, ← hNE.out]; exact hown4) hgrow4 hat4
                  have hmb4 : v4.heap[mb]? = v3.heap[mb]? := (hgrow4.block mb (by have := HGM.out.2; have := HS5.out; have := HNW.out; simp; omega) (fun e => by have := HGM.out.1; simp [Value.ownBlock] at e; omega)).trans (Below.heap_alloc v3 _ mb (by have := HGM.out.2; have := HS5.out; have := HNW.out; omega))
                  have hm4 : ∀ i u, v3.cell? ⟨mb, i, none⟩ = some u → v4.cell? ⟨mb, i, none⟩ = some u := fun i u h => (World.cell?_of_block hmb4).trans h
                  obtain ⟨z0, z1, z2⟩ := moveAt_parts HM6.out
                  dsimp only at z0 z1 z2
                  have z0 := hm4 _ _ z0
                  have z1 := hm4 _ _ z1
                  have z2 := hm4 _ _ z2
                  have HD := Lib.hid hdo.2
                  unfold moveV at HD
                  rw [List.length_append, ← hNE.out, ← HQ2.out] at HD
                  have HN1 : Hid (n + 1 = (es ++ [q]).length) := Lib.hid (by rw [List.length_append, ← hNE.out]; rfl)
                  clear hdo hmb4 hm4 hown4 hgrow4 hat4 hlt4
                  go_wp2_with fail
                  go_at_call 11; refine HD.out.mono ?_; rintro e v5 ⟨rfl, hb⟩
                  have HF6 := Lib.hid hb
                  clear hb HD z0 z1 z2
                  go_wp2_with fail
                  go_roundw
                  case rel => exact ⟨k + 1, n + 1, q2, es ++ [q], _, _, by omega, by go_num, by first | rfl | go_num, by omega, HN1, HF6⟩
                  case measure => simp [intOf]; omega
              · have hx1' : (X == 0) = false := by simpa using hres
                have hx2' : (X != 0) = true := by simpa using hres
                have HD := Lib.hid (HF4.out.bat.doOver (by rw [← HXQ.out]; exact hres) (m1, m2, m3))
                unfold moveV at HD
                clear hres
                go_wp2_with fail
                go_at_call 11; refine HD.out.mono ?_; rintro e v3 ⟨rfl, hb⟩
                have HF6 := Lib.hid (HF4.out.keep hb)
                clear hb HD z0 z1 z2
                go_wp2_with fail
                go_roundw
                case rel => exact ⟨k + 1, n, q, es, _, _, by omega, by go_num, rfl, by omega, hNE, HF6⟩
                case measure => simp [intOf]; omega
            · have hg : (decide (x ≥ 0) && decide (x < (ln : Int))) = false := by
                cases h1 : decide (x ≥ 0)
                · rfl
                · cases h2 : decide (x < (ln : Int))
                  · rfl
                  · exact absurd ⟨of_decide_eq_true h1, of_decide_eq_true h2⟩ hin
              clear hI
              by_cases hg0 : 0 ≤ x
              · have hg1 : decide (x ≥ 0) = true := by simp; omega
                have hg2 : decide (0 ≤ x) = true := by simp; omega
                have hg3 : decide (x < (ln : Int)) = false := by simp; omega
                clear hg hin
                have hal := (Below.refl u2.heap.size u2).alloc (Nat.le_refl _) (.cells #[.int .i64 x, .int .i64 x, .int .i64 x] 41)
                have HF3 := Lib.hid (HF2.out.keep hal)
                have HP3 := Lib.hid (HP2.out.below hal (Nat.le_refl _))
                have HV3 := Lib.hid (HV2.out.trans (hal.mono HV2.out.size))
                have HNB3 : Hid (∀ W, Below (u2.alloc (.cells #[.int .i64 x, .int .i64 x, .int .i64 x] 41)).heap.size (u2.alloc (.cells #[.int .i64 x, .int .i64 x, .int .i64 x] 41)) W → W.cell? ⟨nb, 0, none⟩ = some (.slice ca cn cc) ∧ W.cell? ⟨nb, 1, none⟩ = some (.slice a0 n0 c0) ∧ W.cell? ⟨nb, 2, none⟩ = some (.slice a1 n1 c1) ∧ W.cell? ⟨nb, 3, none⟩ = some (.int .i64 q.turn) ∧ W.cell? ⟨nb, 4, none⟩ = some (.int .i64 q.quiet)) := Lib.hid (fun W h => HNB2.out W ((hal).trans (h.mono hal.size)))
                have hmm : MoveAt (u2.alloc (.cells #[.int .i64 x, .int .i64 x, .int .i64 x] 41)) u2.heap.size 0 (x, x, x) := by
                  refine ⟨?_, ?_, ?_⟩ <;> (rw [World.cell?_alloc_at (hn := rfl)]; rfl)
                have HMM := Lib.hid hmm
                obtain ⟨y0, y1, y2, y3, y4, y5, y6, y7, y8, y9, y10⟩ := HY.out _ HV3.out
                obtain ⟨b0, b1, b2, b3, b4⟩ := HNB3.out _ (Below.refl _ _)
                go_wp2_with fail
                generalize hu3 : u2.alloc (.cells #[.int .i64 x, .int .i64 x, .int .i64 x] 41) = u3 at HF3 HP3 HV3 HNB3 HMM y0 y1 y2 y3 y4 y5 y6 y7 y8 y9 y10 b0 b1 b2 b3 b4 ⊢
                have hmb : u2.heap.size < u3.heap.size := by rw [← hu3]; simp
                obtain ⟨mb, hmbe⟩ : ∃ mb, mb = u2.heap.size := ⟨_, rfl⟩
                rw [← hmbe] at HMM hmb ⊢
                have hgm : g < mb := by rw [hmbe]; exact HG2.out
                have HGM := Lib.hid (And.intro hgm hmb)
                clear hal hmm hu3 hmb hmbe hgm
                have HRS := Lib.hid (HRR.out q _ _ _ _ HPO.out HV3.out HP3.out)
                obtain ⟨X, hX⟩ : ∃ X, X = resultD r q := ⟨_, rfl⟩
                rw [← hX] at HRS
                have HXQ := Lib.hid hX
                clear hX
                go_at_call 31; refine HRS.out.mono ?_; rintro e v1 ⟨rfl, hb⟩
                have HF4 := Lib.hid (HF3.out.keep hb)
                have HP4 := Lib.hid (HP3.out.below hb (Nat.le_refl _))
                have HV4 := Lib.hid (HV3.out.trans (hb.mono HV3.out.size))
                have HM4 := Lib.hid (MoveAt.below HMM.out hb (Nat.le_refl _))
                have HNB4 := Lib.hid (fun W (h : Below v1.heap.size v1 W) => HNB3.out W (hb.trans (h.mono hb.size)))
                have HS4 : Hid (u3.heap.size ≤ v1.heap.size) := Lib.hid hb.size
                clear y0 y1 y2 y3 y4 y5 y6 y7 y8 y9 y10 b0 b1 b2 b3 b4
                obtain ⟨z0, z1, z2⟩ := moveAt_parts HM4.out
                dsimp only at z0 z1 z2
                clear hb HRS HF3 HP3 HV3 HMM HNB3
                by_cases hres : X = 0
                · subst hres
                  obtain ⟨y0, y1, y2, y3, y4, y5, y6, y7, y8, y9, y10⟩ := HY.out _ HV4.out
                  obtain ⟨b0, b1, b2, b3, b4⟩ := HNB4.out _ (Below.refl _ _)
                  have HAL := Lib.hid (HRA.out q _ _ _ (x, x, x) _ HPO.out HV4.out HP4.out)
                  dsimp only at HAL
                  go_wp2_with fail
                  cases hlb : legalB r q (x, x, x)
                  · rw [hlb] at HAL
                    have HLB := Lib.hid hlb
                    clear hlb
                    go_at_call 32; refine HAL.out.mono ?_; rintro e v2 ⟨rfl, hb⟩
                    have HF5 := Lib.hid (HF4.out.keep hb)
                    have HM5 := Lib.hid (MoveAt.below HM4.out hb (Nat.le_refl _))
                    clear y0 y1 y2 y3 y4 y5 y6 y7 y8 y9 y10 b0 b1 b2 b3 b4 z0 z1 z2
                    obtain ⟨z0, z1, z2⟩ := moveAt_parts HM5.out
                    dsimp only at z0 z1 z2
                    have HD := Lib.hid (HF5.out.bat.doBad HXQ.out.symm (x, x, x) HLB.out)
                    unfold moveV at HD
                    clear hb HAL HF4
                    go_wp2_with fail
                    go_at_call 11; refine HD.out.mono ?_; rintro e v3 ⟨rfl, hb⟩
                    have HF6 := Lib.hid (HF5.out.keep hb)
                    clear hb HD z0 z1 z2
                    go_wp2_with fail
                    go_roundw
                    case rel => exact ⟨k + 1, n, q, es, _, _, by omega, by go_num, rfl, by omega, hNE, HF6⟩
                    case measure => simp [intOf]; omega
                  · rw [hlb] at HAL
                    have HLB := Lib.hid hlb
                    clear hlb
                    go_at_call 32; refine HAL.out.mono ?_; rintro e v2 ⟨rfl, hb⟩
                    have HF5 := Lib.hid (HF4.out.keep hb)
                    have HP5 := Lib.hid (HP4.out.below hb (Nat.le_refl _))
                    have HV5 := Lib.hid (HV4.out.trans (hb.mono HV4.out.size))
                    have HM5 := Lib.hid (MoveAt.below HM4.out hb (Nat.le_refl _))
                    clear y0 y1 y2 y3 y4 y5 y6 y7 y8 y9 y10 b0 b1 b2 b3 b4 z0 z1 z2
                    obtain ⟨y0, y1, y2, y3, y4, y5, y6, y7, y8, y9, y10⟩ := HY.out _ HV5.out
                    obtain ⟨b0, b1, b2, b3, b4⟩ := HNB4.out _ hb
                    obtain ⟨z0, z1, z2⟩ := moveAt_parts HM5.out
                    dsimp only at z0 z1 z2
                    have HRF5 := Lib.hid (HRF.out q _ _ _ (x, x, x) v2 HPO.out HP5.out HLB.out)
                    dsimp only at HRF5
                    have HS5 : Hid (u3.heap.size ≤ v2.heap.size) := Lib.hid (Nat.le_trans HS4.out hb.size)
                    clear hb HAL HF4 HP4 HV4 HM4
                    go_wp2_with fail
                    go_at_call 33; refine HRF5.out.mono ?_; rintro e v3 ⟨qa, qan, qac, qb, qbn, qbc, qc, qcn, qcc, rfl, hpf, hb⟩
                    clear y0 y1 y2 y3 y4 y5 y6 y7 y8 y9 y10 b0 b1 b2 b3 b4 z0 z1 z2
                    obtain ⟨D, news, g1, g2, g3, g4⟩ := HF5.out
                    have HG1 := Lib.hid (g1.keep hb)
                    have HG3 := Lib.hid (g3.keep hb)
                    have HG4 := Lib.hid (g4.trans (hb.mono g4.size))
                    have HDN : Hid (∀ k, D k → k < v2.heap.size) := Lib.hid g1.ok.2.2.1
                    have HPN : Hid (∀ a, some (⟨g, 0, none⟩ : Addr) = some a → a.block < v2.heap.size) := Lib.hid (fun a ha => (g3.plt a ha).2)
                    have HD2 := Lib.hid g2
                    have HNW := Lib.hid hb.size
                    have HPQ := Lib.hid hpf
                    have HM6 := Lib.hid (MoveAt.below HM5.out hb (Nat.le_refl _))
                    have hown : v3.ownsRow (bb + 1) 29 5 (.slice (some ⟨g, 0, none⟩) (n + 1) pc) (n + 1) news := by
                      have h1 := HG3.out.own
                      rw [List.length_append, ← hNE.out] at h1
                      exact h1
                    have HOW := Lib.hid hown
                    have hbb3 : bb + 1 ≤ v3.heap.size := by have := g1.ok.2.2.1 bb g1.ok.2.2.2; have := hb.size; omega
                    have hes12 : es.length ≤ 100 := by have := hNE.out; omega
                    have HE12 := Lib.hid hes12
                    obtain ⟨q2, hq2⟩ : ∃ q2, q2 = afterD r q (x, x, x) := ⟨_, rfl⟩
                    have HQ2 := Lib.hid hq2
                    rw [← hq2] at HPQ ⊢
                    clear g1 g2 g3 g4 hpf hb hown hes12 hq2 HRF5 HF5 HM5 HP5
                    go_wp2_with (at_builtin; refine wpList_append_lies _ rfl _ _ 59 rfl (bb + 1) 29 i0 (.agg #[.slice none 0 0, .slice none 0 0, .slice none 0 0, .int .i64 0, .int .i64 0]) 5 88 Tryz.underlying59 hi hz0 hz1 hz2 rfl (by decide) (.slice (some ⟨g, 0, none⟩) (n + 1) pc) (n + 1) news rfl (HOW.out.alloc _) ⟨v3.heap.size, 0, none⟩ 1 1 [.slice qa qan qac, .slice qb qbn qbc, .slice qc qcn qcc, .int .i64 q2.turn, .int .i64 q2.quiet] rfl rfl (World.news_of_block (cs := #[.slice qa qan qac, .slice qb qbn qbc, .slice qc qcn qcc, .int .i64 q2.turn, .int .i64 q2.quiet]) (t := 29) (fr := (0, 0)) (heap_alloc_new v3 _)) (by simp [Value.oneCell']) (by omega) (by unfold maxLen; omega) (by omega) (by simp; omega) (v3.heap.size + 1) (by simp) ?_)
                    intro gg cap v4 hown4 hgrow4 hat4 hlt4
                    have hdo := BF.doOk (N := v2.heap.size) (m := (x, x, x)) HG1.out HD2.out HG3.out HG4.out HXQ.out.symm HLB.out HE12.out ((Below.refl v3.heap.size v3).alloc (Nat.le_refl _) _) (by rw [← HQ2.out]; exact HPQ.out) HDN.out HPN.out HNW.out (by rw [← HQ2.out, List.length_append, ← hNE.out]; exact hown4) hgrow4 hat4
                    have hmb4 : v4.heap[mb]? = v3.heap[mb]? := (hgrow4.block mb (by have := HGM.out.2; have := HS5.out; have := HNW.out; simp; omega) (fun e => by have := HGM.out.1; simp [Value.ownBlock] at e; omega)).trans (Below.heap_alloc v3 _ mb (by have := HGM.out.2; have := HS5.out; have := HNW.out; omega))
                    have hm4 : ∀ i u, v3.cell? ⟨mb, i, none⟩ = some u → v4.cell? ⟨mb, i, none⟩ = some u := fun i u h => (World.cell?_of_block hmb4).trans h
                    obtain ⟨z0, z1, z2⟩ := moveAt_parts HM6.out
                    dsimp only at z0 z1 z2
                    have z0 := hm4 _ _ z0
                    have z1 := hm4 _ _ z1
                    have z2 := hm4 _ _ z2
                    have HD := Lib.hid hdo.2
                    unfold moveV at HD
                    rw [List.length_append, ← hNE.out, ← HQ2.out] at HD
                    have HN1 : Hid (n + 1 = (es ++ [q]).length) := Lib.hid (by rw [List.length_append, ← hNE.out]; rfl)
                    clear hdo hmb4 hm4 hown4 hgrow4 hat4 hlt4
                    go_wp2_with fail
                    go_at_call 11; refine HD.out.mono ?_; rintro e v5 ⟨rfl, hb⟩
                    have HF6 := Lib.hid hb
                    clear hb HD z0 z1 z2
                    go_wp2_with fail
                    go_roundw
                    case rel => exact ⟨k + 1, n + 1, q2, es ++ [q], _, _, by omega, by go_num, by first | rfl | go_num, by omega, HN1, HF6⟩
                    case measure => simp [intOf]; omega
                · have hx1' : (X == 0) = false := by simpa using hres
                  have hx2' : (X != 0) = true := by simpa using hres
                  have HD := Lib.hid (HF4.out.bat.doOver (by rw [← HXQ.out]; exact hres) (x, x, x))
                  unfold moveV at HD
                  clear hres
                  go_wp2_with fail
                  go_at_call 11; refine HD.out.mono ?_; rintro e v3 ⟨rfl, hb⟩
                  have HF6 := Lib.hid (HF4.out.keep hb)
                  clear hb HD z0 z1 z2
                  go_wp2_with fail
                  go_roundw
                  case rel => exact ⟨k + 1, n, q, es, _, _, by omega, by go_num, rfl, by omega, hNE, HF6⟩
                  case measure => simp [intOf]; omega
              · have hg1 : decide (x ≥ 0) = false := by simp; omega
                have hg2 : decide (0 ≤ x) = false := by simp; omega
                clear hg hin
                have hal := (Below.refl u2.heap.size u2).alloc (Nat.le_refl _) (.cells #[.int .i64 x, .int .i64 x, .int .i64 x] 41)
                have HF3 := Lib.hid (HF2.out.keep hal)
                have HP3 := Lib.hid (HP2.out.below hal (Nat.le_refl _))
                have HV3 := Lib.hid (HV2.out.trans (hal.mono HV2.out.size))
                have HNB3 : Hid (∀ W, Below (u2.alloc (.cells #[.int .i64 x, .int .i64 x, .int .i64 x] 41)).heap.size (u2.alloc (.cells #[.int .i64 x, .int .i64 x, .int .i64 x] 41)) W → W.cell? ⟨nb, 0, none⟩ = some (.slice ca cn cc) ∧ W.cell? ⟨nb, 1, none⟩ = some (.slice a0 n0 c0) ∧ W.cell? ⟨nb, 2, none⟩ = some (.slice a1 n1 c1) ∧ W.cell? ⟨nb, 3, none⟩ = some (.int .i64 q.turn) ∧ W.cell? ⟨nb, 4, none⟩ = some (.int .i64 q.quiet)) := Lib.hid (fun W h => HNB2.out W ((hal).trans (h.mono hal.size)))
                have hmm : MoveAt (u2.alloc (.cells #[.int .i64 x, .int .i64 x, .int .i64 x] 41)) u2.heap.size 0 (x, x, x) := by
                  refine ⟨?_, ?_, ?_⟩ <;> (rw [World.cell?_alloc_at (hn := rfl)]; rfl)
                have HMM := Lib.hid hmm
                obtain ⟨y0, y1, y2, y3, y4, y5, y6, y7, y8, y9, y10⟩ := HY.out _ HV3.out
                obtain ⟨b0, b1, b2, b3, b4⟩ := HNB3.out _ (Below.refl _ _)
                go_wp2_with fail
                generalize hu3 : u2.alloc (.cells #[.int .i64 x, .int .i64 x, .int .i64 x] 41) = u3 at HF3 HP3 HV3 HNB3 HMM y0 y1 y2 y3 y4 y5 y6 y7 y8 y9 y10 b0 b1 b2 b3 b4 ⊢
                have hmb : u2.heap.size < u3.heap.size := by rw [← hu3]; simp
                obtain ⟨mb, hmbe⟩ : ∃ mb, mb = u2.heap.size := ⟨_, rfl⟩
                rw [← hmbe] at HMM hmb ⊢
                have hgm : g < mb := by rw [hmbe]; exact HG2.out
                have HGM := Lib.hid (And.intro hgm hmb)
                clear hal hmm hu3 hmb hmbe hgm
                have HRS := Lib.hid (HRR.out q _ _ _ _ HPO.out HV3.out HP3.out)
                obtain ⟨X, hX⟩ : ∃ X, X = resultD r q := ⟨_, rfl⟩
                rw [← hX] at HRS
                have HXQ := Lib.hid hX
                clear hX
                go_at_call 31; refine HRS.out.mono ?_; rintro e v1 ⟨rfl, hb⟩
                have HF4 := Lib.hid (HF3.out.keep hb)
                have HP4 := Lib.hid (HP3.out.below hb (Nat.le_refl _))
                have HV4 := Lib.hid (HV3.out.trans (hb.mono HV3.out.size))
                have HM4 := Lib.hid (MoveAt.below HMM.out hb (Nat.le_refl _))
                have HNB4 := Lib.hid (fun W (h : Below v1.heap.size v1 W) => HNB3.out W (hb.trans (h.mono hb.size)))
                have HS4 : Hid (u3.heap.size ≤ v1.heap.size) := Lib.hid hb.size
                clear y0 y1 y2 y3 y4 y5 y6 y7 y8 y9 y10 b0 b1 b2 b3 b4
                obtain ⟨z0, z1, z2⟩ := moveAt_parts HM4.out
                dsimp only at z0 z1 z2
                clear hb HRS HF3 HP3 HV3 HMM HNB3
                by_cases hres : X = 0
                · subst hres
                  obtain ⟨y0, y1, y2, y3, y4, y5, y6, y7, y8, y9, y10⟩ := HY.out _ HV4.out
                  obtain ⟨b0, b1, b2, b3, b4⟩ := HNB4.out _ (Below.refl _ _)
                  have HAL := Lib.hid (HRA.out q _ _ _ (x, x, x) _ HPO.out HV4.out HP4.out)
                  dsimp only at HAL
                  go_wp2_with fail
                  cases hlb : legalB r q (x, x, x)
                  · rw [hlb] at HAL
                    have HLB := Lib.hid hlb
                    clear hlb
                    go_at_call 32; refine HAL.out.mono ?_; rintro e v2 ⟨rfl, hb⟩
                    have HF5 := Lib.hid (HF4.out.keep hb)
                    have HM5 := Lib.hid (MoveAt.below HM4.out hb (Nat.le_refl _))
                    clear y0 y1 y2 y3 y4 y5 y6 y7 y8 y9 y10 b0 b1 b2 b3 b4 z0 z1 z2
                    obtain ⟨z0, z1, z2⟩ := moveAt_parts HM5.out
                    dsimp only at z0 z1 z2
                    have HD := Lib.hid (HF5.out.bat.doBad HXQ.out.symm (x, x, x) HLB.out)
                    unfold moveV at HD
                    clear hb HAL HF4
                    go_wp2_with fail
                    go_at_call 11; refine HD.out.mono ?_; rintro e v3 ⟨rfl, hb⟩
                    have HF6 := Lib.hid (HF5.out.keep hb)
                    clear hb HD z0 z1 z2
                    go_wp2_with fail
                    go_roundw
                    case rel => exact ⟨k + 1, n, q, es, _, _, by omega, by go_num, rfl, by omega, hNE, HF6⟩
                    case measure => simp [intOf]; omega
                  · rw [hlb] at HAL
                    have HLB := Lib.hid hlb
                    clear hlb
                    go_at_call 32; refine HAL.out.mono ?_; rintro e v2 ⟨rfl, hb⟩
                    have HF5 := Lib.hid (HF4.out.keep hb)
                    have HP5 := Lib.hid (HP4.out.below hb (Nat.le_refl _))
                    have HV5 := Lib.hid (HV4.out.trans (hb.mono HV4.out.size))
                    have HM5 := Lib.hid (MoveAt.below HM4.out hb (Nat.le_refl _))
                    clear y0 y1 y2 y3 y4 y5 y6 y7 y8 y9 y10 b0 b1 b2 b3 b4 z0 z1 z2
                    obtain ⟨y0, y1, y2, y3, y4, y5, y6, y7, y8, y9, y10⟩ := HY.out _ HV5.out
                    obtain ⟨b0, b1, b2, b3, b4⟩ := HNB4.out _ hb
                    obtain ⟨z0, z1, z2⟩ := moveAt_parts HM5.out
                    dsimp only at z0 z1 z2
                    have HRF5 := Lib.hid (HRF.out q _ _ _ (x, x, x) v2 HPO.out HP5.out HLB.out)
                    dsimp only at HRF5
                    have HS5 : Hid (u3.heap.size ≤ v2.heap.size) := Lib.hid (Nat.le_trans HS4.out hb.size)
                    clear hb HAL HF4 HP4 HV4 HM4
                    go_wp2_with fail
                    go_at_call 33; refine HRF5.out.mono ?_; rintro e v3 ⟨qa, qan, qac, qb, qbn, qbc, qc, qcn, qcc, rfl, hpf, hb⟩
                    clear y0 y1 y2 y3 y4 y5 y6 y7 y8 y9 y10 b0 b1 b2 b3 b4 z0 z1 z2
                    obtain ⟨D, news, g1, g2, g3, g4⟩ := HF5.out
                    have HG1 := Lib.hid (g1.keep hb)
                    have HG3 := Lib.hid (g3.keep hb)
                    have HG4 := Lib.hid (g4.trans (hb.mono g4.size))
                    have HDN : Hid (∀ k, D k → k < v2.heap.size) := Lib.hid g1.ok.2.2.1
                    have HPN : Hid (∀ a, some (⟨g, 0, none⟩ : Addr) = some a → a.block < v2.heap.size) := Lib.hid (fun a ha => (g3.plt a ha).2)
                    have HD2 := Lib.hid g2
                    have HNW := Lib.hid hb.size
                    have HPQ := Lib.hid hpf
                    have HM6 := Lib.hid (MoveAt.below HM5.out hb (Nat.le_refl _))
                    have hown : v3.ownsRow (bb + 1) 29 5 (.slice (some ⟨g, 0, none⟩) (n + 1) pc) (n + 1) news := by
                      have h1 := HG3.out.own
                      rw [List.length_append, ← hNE.out] at h1
                      exact h1
                    have HOW := Lib.hid hown
                    have hbb3 : bb + 1 ≤ v3.heap.size := by have := g1.ok.2.2.1 bb g1.ok.2.2.2; have := hb.size; omega
                    have hes12 : es.length ≤ 100 := by have := hNE.out; omega
                    have HE12 := Lib.hid hes12
                    obtain ⟨q2, hq2⟩ : ∃ q2, q2 = afterD r q (x, x, x) := ⟨_, rfl⟩
                    have HQ2 := Lib.hid hq2
                    rw [← hq2] at HPQ ⊢
                    clear g1 g2 g3 g4 hpf hb hown hes12 hq2 HRF5 HF5 HM5 HP5
                    go_wp2_with (at_builtin; refine wpList_append_lies _ rfl _ _ 59 rfl (bb + 1) 29 i0 (.agg #[.slice none 0 0, .slice none 0 0, .slice none 0 0, .int .i64 0, .int .i64 0]) 5 88 Tryz.underlying59 hi hz0 hz1 hz2 rfl (by decide) (.slice (some ⟨g, 0, none⟩) (n + 1) pc) (n + 1) news rfl (HOW.out.alloc _) ⟨v3.heap.size, 0, none⟩ 1 1 [.slice qa qan qac, .slice qb qbn qbc, .slice qc qcn qcc, .int .i64 q2.turn, .int .i64 q2.quiet] rfl rfl (World.news_of_block (cs := #[.slice qa qan qac, .slice qb qbn qbc, .slice qc qcn qcc, .int .i64 q2.turn, .int .i64 q2.quiet]) (t := 29) (fr := (0, 0)) (heap_alloc_new v3 _)) (by simp [Value.oneCell']) (by omega) (by unfold maxLen; omega) (by omega) (by simp; omega) (v3.heap.size + 1) (by simp) ?_)
                    intro gg cap v4 hown4 hgrow4 hat4 hlt4
                    have hdo := BF.doOk (N := v2.heap.size) (m := (x, x, x)) HG1.out HD2.out HG3.out HG4.out HXQ.out.symm HLB.out HE12.out ((Below.refl v3.heap.size v3).alloc (Nat.le_refl _) _) (by rw [← HQ2.out]; exact HPQ.out) HDN.out HPN.out HNW.out (by rw [← HQ2.out, List.length_append, ← hNE.out]; exact hown4) hgrow4 hat4
                    have hmb4 : v4.heap[mb]? = v3.heap[mb]? := (hgrow4.block mb (by have := HGM.out.2; have := HS5.out; have := HNW.out; simp; omega) (fun e => by have := HGM.out.1; simp [Value.ownBlock] at e; omega)).trans (Below.heap_alloc v3 _ mb (by have := HGM.out.2; have := HS5.out; have := HNW.out; omega))
                    have hm4 : ∀ i u, v3.cell? ⟨mb, i, none⟩ = some u → v4.cell? ⟨mb, i, none⟩ = some u := fun i u h => (World.cell?_of_block hmb4).trans h
                    obtain ⟨z0, z1, z2⟩ := moveAt_parts HM6.out
                    dsimp only at z0 z1 z2
                    have z0 := hm4 _ _ z0
                    have z1 := hm4 _ _ z1
                    have z2 := hm4 _ _ z2
                    have HD := Lib.hid hdo.2
                    unfold moveV at HD
                    rw [List.length_append, ← hNE.out, ← HQ2.out] at HD
                    have HN1 : Hid (n + 1 = (es ++ [q]).length) := Lib.hid (by rw [List.length_append, ← hNE.out]; rfl)
                    clear hdo hmb4 hm4 hown4 hgrow4 hat4 hlt4
                    go_wp2_with fail
                    go_at_call 11; refine HD.out.mono ?_; rintro e v5 ⟨rfl, hb⟩
                    have HF6 := Lib.hid hb
                    clear hb HD z0 z1 z2
                    go_wp2_with fail
                    go_roundw
                    case rel => exact ⟨k + 1, n + 1, q2, es ++ [q], _, _, by omega, by go_num, by first | rfl | go_num, by omega, HN1, HF6⟩
                    case measure => simp [intOf]; omega
                · have hx1' : (X == 0) = false := by simpa using hres
                  have hx2' : (X != 0) = true := by simpa using hres
                  have HD := Lib.hid (HF4.out.bat.doOver (by rw [← HXQ.out]; exact hres) (x, x, x))
                  unfold moveV at HD
                  clear hres
                  go_wp2_with fail
                  go_at_call 11; refine HD.out.mono ?_; rintro e v3 ⟨rfl, hb⟩
                  have HF6 := Lib.hid (HF4.out.keep hb)
                  clear hb HD z0 z1 z2
                  go_wp2_with fail
                  go_roundw
                  case rel => exact ⟨k + 1, n, q, es, _, _, by omega, by go_num, rfl, by omega, hNE, HF6⟩
                  case measure => simp [intOf]; omega
        · have hn0 : k ≤ k := Nat.le_refl _
          clear hn0
          have HM1 := Lib.hid (HRM.out q _ _ _ _ HPO.out HV1.out HP1.out)
          have hn12 : n ≤ 12 := by omega
          go_wp2_with fail
          go_at_call 30; refine HM1.out.mono ?_; rintro e u2 ⟨la, ln, lc, rfl, hI, hb⟩
          have HF2 := Lib.hid (HF1.out.keep hb)
          have HP2 := Lib.hid (HP1.out.below hb (Nat.le_refl _))
          have HV2 := Lib.hid (HV1.out.trans (hb.mono HV1.out.size))
          have HI2 := Lib.hid hI
          obtain ⟨nb, hnb⟩ : ∃ nb, nb = wr.heap.size := ⟨_, rfl⟩
          rw [← hnb] at HNB ⊢
          have HNB2 := Lib.hid (fun W (h : Below u2.heap.size u2 W) => HNB.out W (hb.trans (h.mono hb.size)))
          clear hb HM1 HNB y0 y1 y2 y3 y4 y5 y6 y7 y8 y9 y10 hnb hI e0 e1 e2 e3 e4
          obtain ⟨y0, y1, y2, y3, y4, y5, y6, y7, y8, y9, y10⟩ := HY.out _ HV2.out
          obtain ⟨b0, b1, b2, b3, b4⟩ := HNB2.out _ (Below.refl _ _)
          have HRS := Lib.hid (HRR.out q _ _ _ _ HPO.out HV2.out HP2.out)
          obtain ⟨X, hX⟩ : ∃ X, X = resultD r q := ⟨_, rfl⟩
          rw [← hX] at HRS
          have HXQ := Lib.hid hX
          clear hX
          go_wp2_with fail
          go_at_call 31; refine HRS.out.mono ?_; rintro e v1 ⟨rfl, hb⟩
          have HF3 := Lib.hid (HF2.out.keep hb)
          have HP3 := Lib.hid (HP2.out.below hb (Nat.le_refl _))
          have HV3 := Lib.hid (HV2.out.trans (hb.mono HV2.out.size))
          have HI3 := Lib.hid (HI2.out.below move_keeps hb (Nat.le_refl _))
          have HNB3 := Lib.hid (fun W (h : Below v1.heap.size v1 W) => HNB2.out W (hb.trans (h.mono hb.size)))
          clear hb HRS HF2 HP2 HV2 HNB2 HI2 y0 y1 y2 y3 y4 y5 y6 y7 y8 y9 y10 b0 b1 b2 b3 b4
          have HVK := Lib.hid (fun W (h : Below v1.heap.size v1 W) => HV3.out.trans (h.mono HV3.out.size))
          have HSK : Hid (∀ W, Below v1.heap.size v1 W → W.cell? ⟨w.heap.size, 0, none⟩ = some (.string r.name) ∧ W.cell? ⟨w.heap.size, 1, none⟩ = some (.int .i64 r.width) ∧ W.cell? ⟨w.heap.size, 2, none⟩ = some (.int .i64 r.height) ∧ W.cell? ⟨w.heap.size, 3, none⟩ = some vp ∧ W.cell? ⟨w.heap.size, 4, none⟩ = some vs ∧ W.cell? ⟨w.heap.size, 5, none⟩ = some (.bool r.falls) ∧ W.cell? ⟨w.heap.size, 6, none⟩ = some (.bool r.keeps) ∧ W.cell? ⟨w.heap.size, 7, none⟩ = some ve ∧ W.cell? ⟨w.heap.size, 8, none⟩ = some (.int .i64 r.blocked) ∧ W.cell? ⟨w.heap.size, 9, none⟩ = some (.int .i64 r.quiet) ∧ W.cell? ⟨w.heap.size, 10, none⟩ = some (.int .i64 r.rep) ∧ W.cell? ⟨nb, 0, none⟩ = some (.slice ca cn cc) ∧ W.cell? ⟨nb, 1, none⟩ = some (.slice a0 n0 c0) ∧ W.cell? ⟨nb, 2, none⟩ = some (.slice a1 n1 c1) ∧ W.cell? ⟨nb, 3, none⟩ = some (.int .i64 q.turn) ∧ W.cell? ⟨nb, 4, none⟩ = some (.int .i64 q.quiet)) := Lib.hid (fun W h => by
            obtain ⟨y0, y1, y2, y3, y4, y5, y6, y7, y8, y9, y10⟩ := HY.out W (HVK.out W h)
            exact ⟨y0, y1, y2, y3, y4, y5, y6, y7, y8, y9, y10, HNB3.out W h⟩)
          have HBA := Lib.hid (fun W (h : Below v1.heap.size v1 W) => (HF3.out.keep h).bat)
          obtain ⟨K, hK⟩ : ∃ K, K = keyZ q := ⟨_, rfl⟩
          have hkk := key_same K
          have HKB : Hid (∀ W, Below v1.heap.size v1 W → Calls Tryz.prog 9 #[.pointer (some ⟨bb, 0, none⟩)] W (BelPost (.int .u64 (K.toNat : Int)) W)) := Lib.hid (fun W h => by rw [hK]; exact (HBA.out W h).key)
          have HKR : Hid (∀ W, Below v1.heap.size v1 W → Calls Tryz.prog 35 #[PlaceV q (.slice ca cn cc) (.slice a0 n0 c0) (.slice a1 n1 c1)] W (BelPost (.int .u64 (K.toNat : Int)) W)) := Lib.hid (fun W h => by rw [hK]; exact refKey_any q _ _ _ W (HP3.out.below h (Nat.le_refl _)) HPO.out.kfit)
          have HRB : Hid (∀ W, Below v1.heap.size v1 W → Calls Tryz.prog 23 #[.pointer (some ⟨bb, 0, none⟩)] W (BelPost (.int .i64 X) W)) := Lib.hid (fun W h => by rw [HXQ.out]; exact (HBA.out W h).result)
          have HR4 : Hid (∀ W, Below v1.heap.size v1 W → Calls Tryz.prog 31 #[RulesV r vp vs ve, PlaceV q (.slice ca cn cc) (.slice a0 n0 c0) (.slice a1 n1 c1)] W (BelPost (.int .i64 X) W)) := Lib.hid (fun W h => by rw [HXQ.out]; exact HRR.out q _ _ _ W HPO.out (HVK.out W h) (HP3.out.below h (Nat.le_refl _)))
          have HTB : Hid (∀ W, Below v1.heap.size v1 W → Calls Tryz.prog 28 #[.pointer (some ⟨bb, 0, none⟩)] W (BelPost (.int .i64 q.turn) W)) := Lib.hid (fun W h => (HBA.out W h).turn)
          have HLB : Hid (∀ W, Below v1.heap.size v1 W → Calls Tryz.prog 13 #[.pointer (some ⟨bb, 0, none⟩)] W (BelPost (.int .i64 (n : Int)) W)) := Lib.hid (fun W h => by rw [hNE.out]; exact (HBA.out W h).len)
          have HSP : Hid (∀ W b1 b2 b3, Below v1.heap.size v1 W → PlaceIn W q b1 b2 b3 → Calls Tryz.prog 34 #[PlaceV q b1 b2 b3, PlaceV q (.slice ca cn cc) (.slice a0 n0 c0) (.slice a1 n1 c1)] W (BelPost (.bool true) W)) := Lib.hid (fun W b1 b2 b3 h h2 => samePlace_eq q b1 b2 b3 _ _ _ W h2 (HP3.out.below h (Nat.le_refl _)) HPO.out.short)
          have htt : (q.turn == q.turn) = true := by simp
          have hnn : ((n : Int) == (n : Int)) = true := by simp
          have hw1 : IntKind.i64.wrap ((n : Int) + 1 - 1) = (n : Int) := by rw [IntWalk.i64_in _ (by omega)]; omega
          have hw2 : IntKind.i64.wrap (((n + 1 : Nat) : Int) - 1) = (n : Int) := by rw [IntWalk.i64_in _ (by omega)]; omega
          have hw3 : IntKind.i64.wrap (n : Int) = (n : Int) := IntWalk.i64_in _ (by omega)
          unfold RulesV at HR4
          unfold PlaceV PlaceCells at HKR HR4 HSP
          clear hK HNB3
          by_cases hres : X = 0
          · subst hres
            have HMB : Hid (∀ W, Below v1.heap.size v1 W → Calls Tryz.prog 10 #[.pointer (some ⟨bb, 0, none⟩)] W (BMoves (allD r q) W)) := Lib.hid (fun W h => (HBA.out W h).opn HXQ.out.symm)
            have HSM : Hid (∀ W ma mn mc', Below v1.heap.size v1 W → IsSl MoveAt 3 W (.slice ma mn mc') (allD r q) → Calls Tryz.prog 36 #[.slice ma mn mc', .slice la ln lc] W (BelPost (.bool true) W)) := Lib.hid (fun W ma mn mc' h h2 => sameMoves_same (allD r q) ma la mn ln mc' lc W h2 (HI3.out.below move_keeps h (Nat.le_refl _)) (by have := allD_length HPO.out; omega))
            go_wp2_with fail
            have hBc : Below v1.heap.size v1 v1.drew := (Below.refl _ _).drew
            go_region_held3 (fun w' => w'.cell? ⟨w.heap.size, 0, none⟩ = some (.string r.name) ∧ w'.cell? ⟨w.heap.size, 1, none⟩ = some (.int .i64 r.width) ∧ w'.cell? ⟨w.heap.size, 2, none⟩ = some (.int .i64 r.height) ∧ w'.cell? ⟨w.heap.size, 3, none⟩ = some vp ∧ w'.cell? ⟨w.heap.size, 4, none⟩ = some vs ∧ w'.cell? ⟨w.heap.size, 5, none⟩ = some (.bool r.falls) ∧ w'.cell? ⟨w.heap.size, 6, none⟩ = some (.bool r.keeps) ∧ w'.cell? ⟨w.heap.size, 7, none⟩ = some ve ∧ w'.cell? ⟨w.heap.size, 8, none⟩ = some (.int .i64 r.blocked) ∧ w'.cell? ⟨w.heap.size, 9, none⟩ = some (.int .i64 r.quiet) ∧ w'.cell? ⟨w.heap.size, 10, none⟩ = some (.int .i64 r.rep) ∧ w'.cell? ⟨nb, 0, none⟩ = some (.slice ca cn cc) ∧ w'.cell? ⟨nb, 1, none⟩ = some (.slice a0 n0 c0) ∧ w'.cell? ⟨nb, 2, none⟩ = some (.slice a1 n1 c1) ∧ w'.cell? ⟨nb, 3, none⟩ = some (.int .i64 q.turn) ∧ w'.cell? ⟨nb, 4, none⟩ = some (.int .i64 q.quiet)) (with_reducible exact HSK.out _ hBc) (first
              | (go_at_call 16; refine ((HBA.out _ hBc).position).mono ?_; rintro e s1 ⟨fa, fn, fc, f0, fn0, fc0, f1, fn1, fc1, rfl, hpf, hb⟩; have HPP := Lib.hid hpf.plain; clear hpf; have hB5 : Below v1.heap.size v1 s1 := hBc.trans (hb.mono hBc.size); have hBc := hB5; clear hb)
              | (go_at_call 34; refine (HSP.out _ _ _ _ hBc (by first | exact HPP.out | exact HPP.out.below (Below.refl _ _).drew (Nat.le_refl _))).mono ?_; rintro e s2 ⟨rfl, hb⟩; have hB5 : Below v1.heap.size v1 s2 := hBc.trans (hb.mono hBc.size); have hBc := hB5; clear hb)
              | (go_at_call 9; refine (HKB.out _ hBc).mono ?_; rintro e s3 ⟨rfl, hb⟩; have hB5 : Below v1.heap.size v1 s3 := hBc.trans (hb.mono hBc.size); have hBc := hB5; clear hb)
              | (go_at_call 35; refine (HKR.out _ hBc).mono ?_; rintro e s4 ⟨rfl, hb⟩; have hB5 : Below v1.heap.size v1 s4 := hBc.trans (hb.mono hBc.size); have hBc := hB5; clear hb)
              | (go_at_call 23; refine (HRB.out _ hBc).mono ?_; rintro e s5 ⟨rfl, hb⟩; have hB5 : Below v1.heap.size v1 s5 := hBc.trans (hb.mono hBc.size); have hBc := hB5; clear hb)
              | (go_at_call 31; refine (HR4.out _ hBc).mono ?_; rintro e s6 ⟨rfl, hb⟩; have hB5 : Below v1.heap.size v1 s6 := hBc.trans (hb.mono hBc.size); have hBc := hB5; clear hb)
              | (go_at_call 28; refine (HTB.out _ hBc).mono ?_; rintro e s7 ⟨rfl, hb⟩; have hB5 : Below v1.heap.size v1 s7 := hBc.trans (hb.mono hBc.size); have hBc := hB5; clear hb)
              | (go_at_call 13; refine (HLB.out _ hBc).mono ?_; rintro e s8 ⟨rfl, hb⟩; have hB5 : Below v1.heap.size v1 s8 := hBc.trans (hb.mono hBc.size); have hBc := hB5; clear hb)
              | (go_at_call 10; refine (HMB.out _ hBc).mono ?_; rintro e s9 ⟨ma, mn, mc', rfl, hI2, -, hb⟩; have HI9 := Lib.hid hI2; clear hI2; have hB5 : Below v1.heap.size v1 s9 := hBc.trans (hb.mono hBc.size); have hBc := hB5; clear hb)
              | (go_at_call 36; refine (HSM.out _ _ _ _ hBc (by first | exact HI9.out | exact HI9.out.below move_keeps (Below.refl _ _).drew (Nat.le_refl _))).mono ?_; rintro e s10 ⟨rfl, hb⟩; have hB5 : Below v1.heap.size v1 s10 := hBc.trans (hb.mono hBc.size); have hBc := hB5; clear hb))
            all_goals
              have HBE := Lib.hid (HB.out.trans ((HV3.out.trans (hBc.mono HV3.out.size)).mono HB.out.size))
              clear hBc
              go_wp2_with fail
              go_ret
              exact ⟨rfl, HBE.out⟩
          · have HMB : Hid (∀ W, Below v1.heap.size v1 W → Calls Tryz.prog 10 #[.pointer (some ⟨bb, 0, none⟩)] W (BelPost (.slice none 0 0) W)) := Lib.hid (fun W h => (HBA.out W h).over (by rw [← HXQ.out]; exact hres))
            have HSM : Hid (∀ W, Calls Tryz.prog 36 #[.slice none 0 0, .slice none 0 0] W (BelPost (.bool true) W)) := Lib.hid (fun W => sameMoves_same [] none none 0 0 0 0 W (.inl ⟨rfl, none, 0, rfl⟩) (.inl ⟨rfl, none, 0, rfl⟩) (by simp))
            have hx1' : (X == 0) = false := by simpa using hres
            have hx2' : (X != 0) = true := by simpa using hres
            have hxx : (X == X) = true := by simp
            clear hres
            go_wp2_with fail
            have hBc : Below v1.heap.size v1 v1.drew := (Below.refl _ _).drew
            go_region_held3 (fun w' => w'.cell? ⟨w.heap.size, 0, none⟩ = some (.string r.name) ∧ w'.cell? ⟨w.heap.size, 1, none⟩ = some (.int .i64 r.width) ∧ w'.cell? ⟨w.heap.size, 2, none⟩ = some (.int .i64 r.height) ∧ w'.cell? ⟨w.heap.size, 3, none⟩ = some vp ∧ w'.cell? ⟨w.heap.size, 4, none⟩ = some vs ∧ w'.cell? ⟨w.heap.size, 5, none⟩ = some (.bool r.falls) ∧ w'.cell? ⟨w.heap.size, 6, none⟩ = some (.bool r.keeps) ∧ w'.cell? ⟨w.heap.size, 7, none⟩ = some ve ∧ w'.cell? ⟨w.heap.size, 8, none⟩ = some (.int .i64 r.blocked) ∧ w'.cell? ⟨w.heap.size, 9, none⟩ = some (.int .i64 r.quiet) ∧ w'.cell? ⟨w.heap.size, 10, none⟩ = some (.int .i64 r.rep) ∧ w'.cell? ⟨nb, 0, none⟩ = some (.slice ca cn cc) ∧ w'.cell? ⟨nb, 1, none⟩ = some (.slice a0 n0 c0) ∧ w'.cell? ⟨nb, 2, none⟩ = some (.slice a1 n1 c1) ∧ w'.cell? ⟨nb, 3, none⟩ = some (.int .i64 q.turn) ∧ w'.cell? ⟨nb, 4, none⟩ = some (.int .i64 q.quiet)) (with_reducible exact HSK.out _ hBc) (first
              | (go_at_call 16; refine ((HBA.out _ hBc).position).mono ?_; rintro e s1 ⟨fa, fn, fc, f0, fn0, fc0, f1, fn1, fc1, rfl, hpf, hb⟩; have HPP := Lib.hid hpf.plain; clear hpf; have hB5 : Below v1.heap.size v1 s1 := hBc.trans (hb.mono hBc.size); have hBc := hB5; clear hb)
              | (go_at_call 34; refine (HSP.out _ _ _ _ hBc (by first | exact HPP.out | exact HPP.out.below (Below.refl _ _).drew (Nat.le_refl _))).mono ?_; rintro e s2 ⟨rfl, hb⟩; have hB5 : Below v1.heap.size v1 s2 := hBc.trans (hb.mono hBc.size); have hBc := hB5; clear hb)
              | (go_at_call 9; refine (HKB.out _ hBc).mono ?_; rintro e s3 ⟨rfl, hb⟩; have hB5 : Below v1.heap.size v1 s3 := hBc.trans (hb.mono hBc.size); have hBc := hB5; clear hb)
              | (go_at_call 35; refine (HKR.out _ hBc).mono ?_; rintro e s4 ⟨rfl, hb⟩; have hB5 : Below v1.heap.size v1 s4 := hBc.trans (hb.mono hBc.size); have hBc := hB5; clear hb)
              | (go_at_call 23; refine (HRB.out _ hBc).mono ?_; rintro e s5 ⟨rfl, hb⟩; have hB5 : Below v1.heap.size v1 s5 := hBc.trans (hb.mono hBc.size); have hBc := hB5; clear hb)
              | (go_at_call 31; refine (HR4.out _ hBc).mono ?_; rintro e s6 ⟨rfl, hb⟩; have hB5 : Below v1.heap.size v1 s6 := hBc.trans (hb.mono hBc.size); have hBc := hB5; clear hb)
              | (go_at_call 28; refine (HTB.out _ hBc).mono ?_; rintro e s7 ⟨rfl, hb⟩; have hB5 : Below v1.heap.size v1 s7 := hBc.trans (hb.mono hBc.size); have hBc := hB5; clear hb)
              | (go_at_call 13; refine (HLB.out _ hBc).mono ?_; rintro e s8 ⟨rfl, hb⟩; have hB5 : Below v1.heap.size v1 s8 := hBc.trans (hb.mono hBc.size); have hBc := hB5; clear hb)
              | (go_at_call 10; refine (HMB.out _ hBc).mono ?_; rintro e s9 ⟨rfl, hb⟩; have hB5 : Below v1.heap.size v1 s9 := hBc.trans (hb.mono hBc.size); have hBc := hB5; clear hb)
              | (go_at_call 36; refine (HSM.out _).mono ?_; rintro e s10 ⟨rfl, hb⟩; have hB5 : Below v1.heap.size v1 s10 := hBc.trans (hb.mono hBc.size); have hBc := hB5; clear hb))
            all_goals
              have HBE := Lib.hid (HB.out.trans ((HV3.out.trans (hBc.mono HV3.out.size)).mono HB.out.size))
              clear hBc
              go_wp2_with fail
              go_ret
              exact ⟨rfl, HBE.out⟩
  · have HNB1 := Lib.hid (HNB.out hz)
    have hne := bool_of_nz hz
    have hee : (c == c) = true := by simp
    clear HNG HNB HOK hz
    go_at_call 8; refine (HNB1.out _ HB8.out).mono ?_; rintro e w9 ⟨rfl, hb⟩
    have hB9 := HB8.out.trans (hb.mono HB8.out.size)
    have HB9 := Lib.hid hB9
    clear hb HNB1 x0 x1 x2 x3 x4 y0 y1 y2 y3 y4 y5 y6 y7 y8 y9 y10
    obtain ⟨x0, x1, x2, x3, x4⟩ := HX.out _ hB9
    obtain ⟨y0, y1, y2, y3, y4, y5, y6, y7, y8, y9, y10⟩ := HY.out _ hB9
    clear hB9
    go_wp2_with fail
    go_at_call 29; refine (HPE.out _ HB9.out).mono ?_; rintro e w10 ⟨rfl, hb⟩
    have HBE := Lib.hid (HB.out.trans ((HB9.out.trans (hb.mono HB9.out.size)).mono HB.out.size))
    clear hb HB9 x0 x1 x2 x3 x4 y0 y1 y2 y3 y4 y5 y6 y7 y8 y9 y10
    go_wp2_with fail
    go_ret
    exact ⟨rfl, HBE.out⟩
end Go.Proofs.YtiligppdfldlfaaGreatDoor
