/- The law BoardKeys: at each time the key of a board is that of its position, and its moves are those of its position. (Written by genlawbk.py.) -/
import Derived.Test.YtiligppdfldlfaaGreatDoorLawBB
import Derived.Test.YtiligppdfldlfaaGreatDoorKeyed
import Derived.Test.YtiligppdfldlfaaGreatDoorFine
set_option maxRecDepth 100000
namespace Go.Proofs.YtiligppdfldlfaaGreatDoor
open Go.ChangeShapes Go.WideShapes Go.ChangeAt Go.RowKit

set_option maxHeartbeats 2000000 in
theorem equalMoves_same (ms : List MoveD) (a a' : Option Addr) (n n' c c' : Nat) (w : World) (h1 : IsSl MoveAt 3 w (.slice a n c) ms) (h2 : IsSl MoveAt 3 w (.slice a' n' c') ms) (hl : ms.length ≤ 100000) :
    Calls Tryz.prog 24 #[.slice a n c, .slice a' n' c'] w (BelPost (.bool true) w) := by
  obtain ⟨k, hk⟩ : ∃ k, k = ms.length := ⟨_, rfl⟩
  obtain ⟨b, cap, e1, hc1, hq1⟩ := h1.shape hk
  obtain ⟨b', cap', e2, hc2, hq2⟩ := h2.shape hk
  simp only [Value.slice.injEq] at e1 e2
  obtain ⟨e1, e1n, e1c⟩ := e1
  obtain ⟨e2, e2n, e2c⟩ := e2
  subst e1 e1c e2 e2c e1n
  subst e2n
  rw [← hk] at hl
  have HA : Hid (∀ W, Below w.heap.size w W → ∀ j, j < n' → ∃ g o g' o' x, a = some ⟨g, o, none⟩ ∧ a' = some ⟨g', o', none⟩ ∧ MoveAt W g (o + j * 3) x ∧ MoveAt W g' (o' + j * 3) x) := Lib.hid (fun W hb j hj => by
    obtain ⟨g, o, x, i1, i2, i3⟩ := hq1 j hj
    obtain ⟨g', o', x', i4, i5, i6⟩ := hq2 j hj
    obtain rfl : x = x' := Option.some.inj (i2.symm.trans i5)
    exact ⟨g, o, g', o', x, i1, i4, move_keeps _ _ _ _ _ _ hb (Nat.le_refl _) i3, move_keeps _ _ _ _ _ _ hb (Nat.le_refl _) i6⟩)
  have heq := neqMove
  have hgd := guardMove
  clear hq1 hq2 h1 h2 hk
  go_enter Tryz.func24, Tryz.ntmps24
  go_wp2
  go_loopw [5, 13] (fun _ i wr => ∃ j : Nat, j ≤ n' ∧ i = .int .i64 (j : Int) ∧ Hid (Below w.heap.size w wr)) (fun _ i _ => n' - (intOf i).toNat)
  case atStart => exact ⟨0, by omega, rfl, Lib.hid (Below.refl _ _)⟩
  case round =>
    obtain ⟨j, hjn, rfl, hbel⟩ := hrel
    by_cases hlt : j < n'
    · obtain ⟨g, o, g', o', ⟨x1, x2, x3⟩, rfl, rfl, ⟨c0, c1, c2⟩, ⟨d0, d1, d2⟩⟩ := HA.out wr hbel.out j hlt
      have hss : sameM (x1, x2, x3) (x1, x2, x3) = true := sameM_eq rfl
      have hjc : j < c := by omega
      have hjc' : j < c' := by omega
      dsimp only at c0 c1 c2 d0 d1 d2
      go_wp2_with fail
      go_quiet (fail)
      have HB1 : Hid (Below w.heap.size w (wr.drewN nq)) := Lib.hid (below_drewN hbel.out _)
      clear c0 c1 c2 d0 d1 d2 hbel
      generalize wr.drewN nq = w2 at HB1 ⊢
      go_wp2
      go_roundw
      case rel => exact ⟨j + 1, by omega, by go_num, HB1⟩
      case measure => simp [intOf]; omega
    · obtain rfl : j = n' := by omega
      clear HA
      go_wp2
      go_ret
      exact ⟨rfl, hbel.out⟩
set_option maxHeartbeats 16000000 in
theorem boardKeys_full (r : RulesD) (vp vs ve : Value) (p : PlaceD) (vc v0 v1 : Value) (xs : List Int) (xv : Value) (w : World) (hr : RulesIn w r vp vs ve) (hp : PlaceIn w p vc v0 v1) (hx : IsSl IntAt 1 w xv xs) (hT : Dir w) :
    Calls Tryz.prog 4 #[RulesV r vp vs ve, PlaceV p vc v0 v1, xv] w fun e w' => e = .returned (.bool true) ∧ Below w.heap.size w w' := by
  obtain ⟨V, hV⟩ : ∃ V, V = (w.alloc (.cells (RulesCells r vp vs ve) 26)).alloc (.cells (PlaceCells p vc v0 v1) 29) := ⟨_, rfl⟩
  obtain ⟨hB, hY, hX⟩ := rp_boxes w r p vp vs ve vc v0 v1
  rw [← hV] at hB hY hX
  have HB := Lib.hid hB
  have HIR : Hid (∀ W, Below V.heap.size V W → RulesIn W r vp vs ve) := Lib.hid (fun W h => (hr.below hB (Nat.le_refl _)).below h (Nat.le_refl _))
  have HIP : Hid (∀ W, Below V.heap.size V W → PlaceIn W p vc v0 v1) := Lib.hid (fun W h => (hp.below hB (Nat.le_refl _)).below h (Nat.le_refl _))
  have HT : Hid (∀ W, Below V.heap.size V W → Dir W) := Lib.hid (fun W h => (hT.below hB (Nat.le_refl _)).below h (Nat.le_refl _))
  have HX : Hid (∀ W, Below V.heap.size V W → BoxP W (w.heap.size + 1) p vc v0 v1) := Lib.hid (fun W hb => hX.below hb (Nat.le_refl _))
  have HY : Hid (∀ W, Below V.heap.size V W → BoxR W w.heap.size r vp vs ve) := Lib.hid (fun W hb => hY.below hb (Nat.le_refl _))
  obtain ⟨xa, xn, xc, rfl, hxn, hxc, hxs⟩ := hx.parts
  have HXS : Hid (∀ W, Below V.heap.size V W → ∀ k, k < xn → ∃ g o x, xa = some ⟨g, o, none⟩ ∧ W.cell? ⟨g, o + k, none⟩ = some (.int .i64 x)) := Lib.hid (fun W h k hk => by
    obtain ⟨g, o, x, e1, _, e3⟩ := hxs W (hB.trans (h.mono hB.size)) k hk
    exact ⟨g, o, x, e1, e3⟩)
  have hxm : xn ≤ maxLen := by rw [hxn]; exact hx.fit
  unfold maxLen at hxm
  obtain ⟨c, hc⟩ : ∃ c, c = placeE r p := ⟨_, rfl⟩
  have HOK : Hid (c = 0 → POkay r p) := Lib.hid (fun h => placeE_iff.1 (by rw [← hc]; exact h))
  have HNB : Hid (c ≠ 0 → ∀ W, Below V.heap.size V W → Calls Tryz.prog 8 #[RulesV r vp vs ve, PlaceV p vc v0 v1] W (NewBad c W)) := Lib.hid (fun hz W h => by rw [hc]; exact new_bad r p vp vs ve vc v0 v1 W (HIR.out W h) (HIP.out W h) (by rw [← hc]; exact hz))
  have HNG : Hid (c = 0 → ∀ W, Below V.heap.size V W → Calls Tryz.prog 8 #[RulesV r vp vs ve, PlaceV p vc v0 v1] W (NewB r p W)) := Lib.hid (fun hz W h => newB r p vp vs ve vc v0 v1 W (HIR.out W h) (HIP.out W h) (HOK.out hz) (HT.out W h))
  obtain ⟨x0, x1, x2, x3, x4⟩ := HX.out _ (Below.refl _ _)
  obtain ⟨y0, y1, y2, y3, y4, y5, y6, y7, y8, y9, y10⟩ := HY.out _ (Below.refl _ _)
  have hV' := hV
  unfold RulesCells PlaceCells at hV'
  unfold RulesV PlaceV PlaceCells at HNB HNG
  unfold RulesV PlaceV PlaceCells
  clear hr hp hc hB hX hY hT hxn hxs hx hV x0 x1 x2 x3 x4 y0 y1 y2 y3 y4 y5 y6 y7 y8 y9 y10
  go_enter Tryz.func4, Tryz.ntmps4
  go_wp2_with fail
  rw [← hV']
  clear hV'
  go_at_call 7; refine (boarded_any _ (HT.out _ (Below.refl _ _))).mono ?_; rintro e w1 ⟨rfl, hb⟩
  have HB1 := Lib.hid hb
  clear hb
  go_wp2_with fail
  go_at_call 17; refine (keyed_any _).mono ?_; rintro e w2 ⟨rfl, hb⟩
  have HB2 := Lib.hid (HB1.out.trans (hb.mono HB1.out.size))
  clear hb HB1
  go_wp2_with fail
  go_at_call 18; refine (plays_any _).mono ?_; rintro e w3 ⟨rfl, hb⟩
  have hb3 := HB2.out.trans (hb.mono HB2.out.size)
  have HB3 := Lib.hid hb3
  obtain ⟨x0, x1, x2, x3, x4⟩ := HX.out _ hb3
  obtain ⟨y0, y1, y2, y3, y4, y5, y6, y7, y8, y9, y10⟩ := HY.out _ hb3
  clear hb hb3 HB2
  go_wp2_with fail
  by_cases hz : c = 0
  · have HNG1 := Lib.hid (HNG.out hz)
    have HPK := Lib.hid (HOK.out hz)
    clear HNG HNB HOK hz
    go_at_call 8; refine (HNG1.out _ HB3.out).mono ?_; rintro e w4 ⟨bb, W1, rfl, hba⟩
    have HA4 := Lib.hid hba
    clear hba HNG1 x0 x1 x2 x3 x4 y0 y1 y2 y3 y4 y5 y6 y7 y8 y9 y10
    obtain ⟨m, hm, hmn, hmc, hmx⟩ : ∃ m : Nat, m = min xn 12 ∧ m ≤ 12 ∧ m ≤ xc ∧ m ≤ xn := ⟨_, rfl, by omega, by omega, by omega⟩
    have hm1 : min (xn : Int) 12 = (m : Int) := by omega
    have hm2 : max (m : Int) 0 = (m : Int) := by omega
    clear hm
    go_wp2_with fail
    go_loopw [10, 11, 12, 13, 14, 15, 16, 17, 48] (fun _ _ _ _ _ _ _ _ i wr => ∃ (k : Nat) (q : PlaceD) (es : List PlaceD), k ≤ m ∧ i = .int .i64 (k : Int) ∧ Hid (BAt w3 W1 wr bb r q es) ∧ Hid (es.length ≤ k)) (fun _ _ _ _ _ _ _ _ i _ => m - (intOf i).toNat)
    case atStart => exact ⟨0, p, [], by omega, rfl, HA4, Lib.hid (Nat.le_refl _)⟩
    case round =>
      obtain ⟨k, q, es, hk, rfl, hA, hEs⟩ := hrel
      clear HA4
      have HBR := Lib.hid (HB3.out.trans (hA.out.bel.mono HB3.out.size))
      have HBK := Lib.hid (fun W (h : Below wr.heap.size wr W) => HBR.out.trans (h.mono HBR.out.size))
      have HAK := Lib.hid (fun W (h : Below wr.heap.size wr W) => hA.out.keep h)
      have HYK : Hid (∀ W, Below wr.heap.size wr W → W.cell? ⟨w.heap.size, 0, none⟩ = some (.string r.name) ∧ W.cell? ⟨w.heap.size, 1, none⟩ = some (.int .i64 r.width) ∧ W.cell? ⟨w.heap.size, 2, none⟩ = some (.int .i64 r.height) ∧ W.cell? ⟨w.heap.size, 3, none⟩ = some vp ∧ W.cell? ⟨w.heap.size, 4, none⟩ = some vs ∧ W.cell? ⟨w.heap.size, 5, none⟩ = some (.bool r.falls) ∧ W.cell? ⟨w.heap.size, 6, none⟩ = some (.bool r.keeps) ∧ W.cell? ⟨w.heap.size, 7, none⟩ = some ve ∧ W.cell? ⟨w.heap.size, 8, none⟩ = some (.int .i64 r.blocked) ∧ W.cell? ⟨w.heap.size, 9, none⟩ = some (.int .i64 r.quiet) ∧ W.cell? ⟨w.heap.size, 10, none⟩ = some (.int .i64 r.rep)) := Lib.hid (fun W h => HY.out W (HBK.out W h))
      have HPQ := Lib.hid hA.out.ok
      have HES := hEs
      by_cases hlt : k < m
      · obtain ⟨g, o, x, rfl, c0⟩ := HXS.out wr HBR.out k (by omega)
        obtain ⟨K, hK⟩ : ∃ K, K = keyZ q := ⟨_, rfl⟩
        have hkk := key_self K
        have HKQ : Hid (∀ W a1 a2 a3, Below wr.heap.size wr W → PlaceIn W q a1 a2 a3 → Calls Tryz.prog 19 #[RulesV r vp vs ve, PlaceV q a1 a2 a3] W (KPost (K.toNat : Int) 0 W)) := Lib.hid (fun W a1 a2 a3 h h2 => by
          have h1 := key_any r q vp vs ve a1 a2 a3 W (HIR.out W (HBK.out W h)) h2
          rw [keyI, if_pos (placeE_iff.2 HPQ.out), placeE_iff.2 HPQ.out] at h1
          rw [hK]; exact h1)
        have HKB : Hid (∀ W, Below wr.heap.size wr W → Calls Tryz.prog 9 #[.pointer (some ⟨bb, 0, none⟩)] W (BelPost (.int .u64 (K.toNat : Int)) W)) := Lib.hid (fun W h => by rw [hK]; exact (HAK.out W h).key)
        obtain ⟨L, hL⟩ : ∃ L, L = allD r q := ⟨_, rfl⟩
        have HLQ : Hid (∀ W a1 a2 a3, Below wr.heap.size wr W → PlaceIn W q a1 a2 a3 → Calls Tryz.prog 20 #[RulesV r vp vs ve, PlaceV q a1 a2 a3] W (ListPost L W)) := Lib.hid (fun W a1 a2 a3 h h2 => by rw [hL]; exact all_ok r q vp vs ve a1 a2 a3 W (HIR.out W (HBK.out W h)) h2 HPQ.out)
        obtain ⟨X, hX⟩ : ∃ X, X = resultD r q := ⟨_, rfl⟩
        have HOQ : Hid (∀ W a1 a2 a3, Below wr.heap.size wr W → PlaceIn W q a1 a2 a3 → Calls Tryz.prog 21 #[RulesV r vp vs ve, PlaceV q a1 a2 a3] W (OfPost X 0 W)) := Lib.hid (fun W a1 a2 a3 h h2 => by rw [hX]; exact of_ok r q vp vs ve a1 a2 a3 W (HIR.out W (HBK.out W h)) h2 HPQ.out (HT.out W (HBK.out W h)))
        have HRB : Hid (∀ W, Below wr.heap.size wr W → Calls Tryz.prog 23 #[.pointer (some ⟨bb, 0, none⟩)] W (BelPost (.int .i64 X) W)) := Lib.hid (fun W h => by rw [hX]; exact (HAK.out W h).result)
        have HX0 := Lib.hid hX
        have HLL := Lib.hid hL
        have hxx : (X == X) = true := by simp
        unfold RulesV PlaceV PlaceCells at HKQ HLQ HOQ
        clear hK hL hX hA hEs
        by_cases hres : X = 0
        · subst hres
          have HOP : Hid (Calls Tryz.prog 10 #[.pointer (some ⟨bb, 0, none⟩)] wr (BMoves L wr)) := Lib.hid (by rw [HLL.out]; exact (HAK.out wr (Below.refl _ _)).opn HX0.out.symm)
          have HNE : Hid (L ≠ []) := Lib.hid (by rw [HLL.out]; exact result_open HPQ.out HX0.out.symm)
          have HLN : Hid (L.length ≤ 5000) := Lib.hid (by rw [HLL.out]; exact allD_length HPQ.out)
          go_wp2_with fail
          go_at_call 10; refine HOP.out.mono ?_; rintro e w5 ⟨la, ln, lc, rfl, hI, hln, hb⟩
          have HBw5 := Lib.hid hb
          have h1 : 1 ≤ ln := by
            rcases Nat.eq_zero_or_pos ln with h | h
            · exact absurd (List.eq_nil_of_length_eq_zero (by rw [← hln]; exact h)) HNE.out
            · exact h
          have h5 : ln ≤ 5000 := by rw [hln]; exact HLN.out
          have hne : ((ln : Int) == 0) = false := by simp; omega
          have HI5 := Lib.hid hI
          have HLN5 := Lib.hid hln
          have HQw5 := Lib.hid (Below.refl w5.heap.size w5)
          obtain ⟨y0, y1, y2, y3, y4, y5, y6, y7, y8, y9, y10⟩ := HYK.out _ hb
          clear hI hln hb HOP HNE c0
          go_wp2_with fail
          have hBc : Below wr.heap.size wr w5.drew := HBw5.out.drew
          have hQw5 := HQw5.out.drew
          go_region_held3 (fun w' => w'.cell? ⟨w.heap.size, 0, none⟩ = some (.string r.name) ∧ w'.cell? ⟨w.heap.size, 1, none⟩ = some (.int .i64 r.width) ∧ w'.cell? ⟨w.heap.size, 2, none⟩ = some (.int .i64 r.height) ∧ w'.cell? ⟨w.heap.size, 3, none⟩ = some vp ∧ w'.cell? ⟨w.heap.size, 4, none⟩ = some vs ∧ w'.cell? ⟨w.heap.size, 5, none⟩ = some (.bool r.falls) ∧ w'.cell? ⟨w.heap.size, 6, none⟩ = some (.bool r.keeps) ∧ w'.cell? ⟨w.heap.size, 7, none⟩ = some ve ∧ w'.cell? ⟨w.heap.size, 8, none⟩ = some (.int .i64 r.blocked) ∧ w'.cell? ⟨w.heap.size, 9, none⟩ = some (.int .i64 r.quiet) ∧ w'.cell? ⟨w.heap.size, 10, none⟩ = some (.int .i64 r.rep)) (with_reducible exact HYK.out _ hBc) (first
            | (go_at_call 16; refine (HAK.out _ hBc).position.mono ?_; rintro e w6p ⟨ca, cn, cc, a0, n0, c0, a1, n1, c1, rfl, hpf, hb⟩; have hB5 : Below wr.heap.size wr w6p := hBc.trans (hb.mono hBc.size); have hBc := hB5; have hQn := hQw5.trans (hb.mono hQw5.size); have hQw5 := hQn; have HPP := Lib.hid hpf.plain; clear hb hpf)
            | (go_at_call 19; refine (HKQ.out _ _ _ _ hBc (by first | exact HPP.out | exact HPP.out.below (Below.refl _ _).drew (Nat.le_refl _))).mono ?_; rintro e w6 ⟨rfl, hb⟩; have hB5 : Below wr.heap.size wr w6 := hBc.trans (hb.mono hBc.size); have hBc := hB5; have hQn := hQw5.trans (hb.mono hQw5.size); have hQw5 := hQn; clear HPP hb))
          have HBw6 : Hid (Below wr.heap.size wr w6) := Lib.hid hB5
          have HQw5 := Lib.hid hQw5
          clear hQw5
          clear hB5 hBc
          obtain ⟨y0, y1, y2, y3, y4, y5, y6, y7, y8, y9, y10⟩ := HYK.out _ HBw6.out
          go_wp2_with fail
          have hBc : Below wr.heap.size wr w6.drew := HBw6.out.drew
          have hQw5 := HQw5.out.drew
          go_region_held3 (fun w' => w'.cell? ⟨w.heap.size, 0, none⟩ = some (.string r.name) ∧ w'.cell? ⟨w.heap.size, 1, none⟩ = some (.int .i64 r.width) ∧ w'.cell? ⟨w.heap.size, 2, none⟩ = some (.int .i64 r.height) ∧ w'.cell? ⟨w.heap.size, 3, none⟩ = some vp ∧ w'.cell? ⟨w.heap.size, 4, none⟩ = some vs ∧ w'.cell? ⟨w.heap.size, 5, none⟩ = some (.bool r.falls) ∧ w'.cell? ⟨w.heap.size, 6, none⟩ = some (.bool r.keeps) ∧ w'.cell? ⟨w.heap.size, 7, none⟩ = some ve ∧ w'.cell? ⟨w.heap.size, 8, none⟩ = some (.int .i64 r.blocked) ∧ w'.cell? ⟨w.heap.size, 9, none⟩ = some (.int .i64 r.quiet) ∧ w'.cell? ⟨w.heap.size, 10, none⟩ = some (.int .i64 r.rep)) (with_reducible exact HYK.out _ hBc) (first
            | (go_at_call 16; refine (HAK.out _ hBc).position.mono ?_; rintro e w7p ⟨ca, cn, cc, a0, n0, c0, a1, n1, c1, rfl, hpf, hb⟩; have hB5 : Below wr.heap.size wr w7p := hBc.trans (hb.mono hBc.size); have hBc := hB5; have hQn := hQw5.trans (hb.mono hQw5.size); have hQw5 := hQn; have HPP := Lib.hid hpf.plain; clear hb hpf)
            | (go_at_call 20; refine (HLQ.out _ _ _ _ hBc (by first | exact HPP.out | exact HPP.out.below (Below.refl _ _).drew (Nat.le_refl _))).mono ?_; rintro e w7 ⟨ra, rn, rc, rfl, hI, hln, hb⟩; have hB5 : Below wr.heap.size wr w7 := hBc.trans (hb.mono hBc.size); have hBc := hB5; have hQn := hQw5.trans (hb.mono hQw5.size); have hQw5 := hQn; have HI7 := Lib.hid hI; have HLN7 := Lib.hid hln; clear hI hln; clear HPP hb))
          have HBw7 : Hid (Below wr.heap.size wr w7) := Lib.hid hB5
          have HQw5 := Lib.hid hQw5
          clear hQw5
          clear hB5 hBc
          obtain ⟨y0, y1, y2, y3, y4, y5, y6, y7, y8, y9, y10⟩ := HYK.out _ HBw7.out
          have HQw7 := Lib.hid (Below.refl w7.heap.size w7)
          go_wp2_with fail
          have hBc : Below wr.heap.size wr w7.drew := HBw7.out.drew
          have hQw5 := HQw5.out.drew
          have hQw7 := HQw7.out.drew
          go_region_held3 (fun w' => w'.cell? ⟨w.heap.size, 0, none⟩ = some (.string r.name) ∧ w'.cell? ⟨w.heap.size, 1, none⟩ = some (.int .i64 r.width) ∧ w'.cell? ⟨w.heap.size, 2, none⟩ = some (.int .i64 r.height) ∧ w'.cell? ⟨w.heap.size, 3, none⟩ = some vp ∧ w'.cell? ⟨w.heap.size, 4, none⟩ = some vs ∧ w'.cell? ⟨w.heap.size, 5, none⟩ = some (.bool r.falls) ∧ w'.cell? ⟨w.heap.size, 6, none⟩ = some (.bool r.keeps) ∧ w'.cell? ⟨w.heap.size, 7, none⟩ = some ve ∧ w'.cell? ⟨w.heap.size, 8, none⟩ = some (.int .i64 r.blocked) ∧ w'.cell? ⟨w.heap.size, 9, none⟩ = some (.int .i64 r.quiet) ∧ w'.cell? ⟨w.heap.size, 10, none⟩ = some (.int .i64 r.rep)) (with_reducible exact HYK.out _ hBc) (first
            | (go_at_call 16; refine (HAK.out _ hBc).position.mono ?_; rintro e w8p ⟨ca, cn, cc, a0, n0, c0, a1, n1, c1, rfl, hpf, hb⟩; have hB5 : Below wr.heap.size wr w8p := hBc.trans (hb.mono hBc.size); have hBc := hB5; have hQn := hQw5.trans (hb.mono hQw5.size); have hQw5 := hQn; have hQn := hQw7.trans (hb.mono hQw7.size); have hQw7 := hQn; have HPP := Lib.hid hpf.plain; clear hb hpf)
            | (go_at_call 21; refine (HOQ.out _ _ _ _ hBc (by first | exact HPP.out | exact HPP.out.below (Below.refl _ _).drew (Nat.le_refl _))).mono ?_; rintro e w8 ⟨rfl, hb⟩; have hB5 : Below wr.heap.size wr w8 := hBc.trans (hb.mono hBc.size); have hBc := hB5; have hQn := hQw5.trans (hb.mono hQw5.size); have hQw5 := hQn; have hQn := hQw7.trans (hb.mono hQw7.size); have hQw7 := hQn; clear HPP hb))
          have HBw8 : Hid (Below wr.heap.size wr w8) := Lib.hid hB5
          have HQw5 := Lib.hid hQw5
          clear hQw5
          have HQw7 := Lib.hid hQw7
          clear hQw7
          clear hB5 hBc
          go_wp2_with fail
          go_at_call 22; refine (fine3 w8 _ rfl).mono ?_; rintro e w9 ⟨rfl, hb⟩
          have HBw9 := Lib.hid (HBw8.out.trans (hb.mono HBw8.out.size))
          have HQw5 := Lib.hid (HQw5.out.trans (hb.mono HQw5.out.size))
          have HQw7 := Lib.hid (HQw7.out.trans (hb.mono HQw7.out.size))
          clear hb
          go_wp2_with fail
          go_at_call 9; refine (HKB.out _ HBw9.out).mono ?_; rintro e w10 ⟨rfl, hb⟩
          have HBw10 := Lib.hid (HBw9.out.trans (hb.mono HBw9.out.size))
          have HQw5 := Lib.hid (HQw5.out.trans (hb.mono HQw5.out.size))
          have HQw7 := Lib.hid (HQw7.out.trans (hb.mono HQw7.out.size))
          clear hb
          go_wp2_with fail
          go_at_call 23; refine (HRB.out _ HBw10.out).mono ?_; rintro e w11 ⟨rfl, hb⟩
          have HBw11 := Lib.hid (HBw10.out.trans (hb.mono HBw10.out.size))
          have HQw5 := Lib.hid (HQw5.out.trans (hb.mono HQw5.out.size))
          have HQw7 := Lib.hid (HQw7.out.trans (hb.mono HQw7.out.size))
          clear hb
          go_wp2_with fail
          have HEQ := Lib.hid (equalMoves_same L ra la rn ln rc lc w11 (HI7.out.below move_keeps HQw7.out (Nat.le_refl _)) (HI5.out.below move_keeps HQw5.out (Nat.le_refl _)) (by have := HLN.out; omega))
          go_at_call 24; refine HEQ.out.mono ?_; rintro e w12 ⟨rfl, hb⟩
          have HBw12 := Lib.hid (HBw11.out.trans (hb.mono HBw11.out.size))
          have HI12 := Lib.hid ((HI5.out.below move_keeps HQw5.out (Nat.le_refl _)).below move_keeps hb (Nat.le_refl _))
          clear hb HEQ HQw5 HQw7 y0 y1 y2 y3 y4 y5 y6 y7 y8 y9 y10
          by_cases hxe : x = -1
          · have hxt : (x == -1) = true := by simpa using hxe
            clear hxe
            go_wp2_with fail
            rcases List.eq_nil_or_concat es with he | ⟨fs, p', he⟩
            · have HU := Lib.hid ((HAK.out _ HBw12.out).undoNone he)
              go_at_call 14; refine HU.out.mono ?_; rintro e w13 ⟨rfl, hb⟩
              have HA13 := Lib.hid (HAK.out _ (HBw12.out.trans (hb.mono HBw12.out.size)))
              have HE13 : Hid (es.length ≤ k + 1) := Lib.hid (by have := HES.out; omega)
              clear hb HU he
              go_wp2_with fail
              go_roundw
              case rel => exact ⟨k + 1, q, es, by omega, by go_num, HA13, HE13⟩
              case measure => simp [intOf]; omega
            · have hfl : fs.length + 1 = es.length := by rw [he]; simp
              have hfk : fs.length ≤ k + 1 := by have := HES.out; omega
              have HE13 := Lib.hid hfk
              have HU := Lib.hid ((HAK.out _ HBw12.out).undoOk (fs := fs) (p := p') (by rw [he]; simp) (by omega))
              go_at_call 14; refine HU.out.mono ?_; rintro e w13 ⟨rfl, hba⟩
              have HA13 := Lib.hid hba
              clear hba HU he hfl hfk
              go_wp2_with fail
              go_roundw
              case rel => exact ⟨k + 1, p', fs, by omega, by go_num, HA13, HE13⟩
              case measure => simp [intOf]; omega
          · have hxt : (x == -1) = false := by simpa using hxe
            have HSM := Lib.hid (someM_any L la ln lc x w12 HI12.out HLN5.out h1 h5)
            clear hxe
            go_wp2_with fail
            go_at_call 12; refine HSM.out.mono ?_; rintro e w13 ⟨m1, m2, m3, hm, rfl, hb⟩
            have HD := Lib.hid ((HAK.out _ (HBw12.out.trans (hb.mono HBw12.out.size))).doOk HX0.out.symm (m1, m2, m3) (legalB_all.2 (by rw [← HLL.out]; exact hm)) (by have := HES.out; omega))
            clear hm hb HSM
            go_wp2_with fail
            go_at_call 11; refine HD.out.mono ?_; rintro e w14 ⟨rfl, hba⟩
            have HA14 := Lib.hid hba
            have HE14 : Hid ((es ++ [q]).length ≤ k + 1) := Lib.hid (by have := HES.out; simp; omega)
            clear hba HD
            go_wp2_with fail
            go_roundw
            case rel => exact ⟨k + 1, _, _, by omega, by go_num, HA14, HE14⟩
            case measure => simp [intOf]; omega
        · have HOV : Hid (Calls Tryz.prog 10 #[.pointer (some ⟨bb, 0, none⟩)] wr (BelPost (.slice none 0 0) wr)) := Lib.hid ((HAK.out wr (Below.refl _ _)).over (by rw [← HX0.out]; exact hres))
          have hx1 : (X == 0) = false := by simpa using hres
          have hx2 : (X != 0) = true := by simpa using hres
          clear hres
          go_wp2_with fail
          go_at_call 10; refine HOV.out.mono ?_; rintro e w5 ⟨rfl, hb⟩
          have HBw5 := Lib.hid hb
          obtain ⟨y0, y1, y2, y3, y4, y5, y6, y7, y8, y9, y10⟩ := HYK.out _ hb
          clear hb HOV c0
          go_wp2_with fail
          have hBc : Below wr.heap.size wr w5.drew := HBw5.out.drew
          go_region_held3 (fun w' => w'.cell? ⟨w.heap.size, 0, none⟩ = some (.string r.name) ∧ w'.cell? ⟨w.heap.size, 1, none⟩ = some (.int .i64 r.width) ∧ w'.cell? ⟨w.heap.size, 2, none⟩ = some (.int .i64 r.height) ∧ w'.cell? ⟨w.heap.size, 3, none⟩ = some vp ∧ w'.cell? ⟨w.heap.size, 4, none⟩ = some vs ∧ w'.cell? ⟨w.heap.size, 5, none⟩ = some (.bool r.falls) ∧ w'.cell? ⟨w.heap.size, 6, none⟩ = some (.bool r.keeps) ∧ w'.cell? ⟨w.heap.size, 7, none⟩ = some ve ∧ w'.cell? ⟨w.heap.size, 8, none⟩ = some (.int .i64 r.blocked) ∧ w'.cell? ⟨w.heap.size, 9, none⟩ = some (.int .i64 r.quiet) ∧ w'.cell? ⟨w.heap.size, 10, none⟩ = some (.int .i64 r.rep)) (with_reducible exact HYK.out _ hBc) (first
            | (go_at_call 16; refine (HAK.out _ hBc).position.mono ?_; rintro e w6p ⟨ca, cn, cc, a0, n0, c0, a1, n1, c1, rfl, hpf, hb⟩; have hB5 : Below wr.heap.size wr w6p := hBc.trans (hb.mono hBc.size); have hBc := hB5; have HPP := Lib.hid hpf.plain; clear hb hpf)
            | (go_at_call 19; refine (HKQ.out _ _ _ _ hBc (by first | exact HPP.out | exact HPP.out.below (Below.refl _ _).drew (Nat.le_refl _))).mono ?_; rintro e w6 ⟨rfl, hb⟩; have hB5 : Below wr.heap.size wr w6 := hBc.trans (hb.mono hBc.size); have hBc := hB5; clear HPP hb))
          have HBw6 : Hid (Below wr.heap.size wr w6) := Lib.hid hB5
          clear hB5 hBc
          obtain ⟨y0, y1, y2, y3, y4, y5, y6, y7, y8, y9, y10⟩ := HYK.out _ HBw6.out
          go_wp2_with fail
          have hBc : Below wr.heap.size wr w6.drew := HBw6.out.drew
          go_region_held3 (fun w' => w'.cell? ⟨w.heap.size, 0, none⟩ = some (.string r.name) ∧ w'.cell? ⟨w.heap.size, 1, none⟩ = some (.int .i64 r.width) ∧ w'.cell? ⟨w.heap.size, 2, none⟩ = some (.int .i64 r.height) ∧ w'.cell? ⟨w.heap.size, 3, none⟩ = some vp ∧ w'.cell? ⟨w.heap.size, 4, none⟩ = some vs ∧ w'.cell? ⟨w.heap.size, 5, none⟩ = some (.bool r.falls) ∧ w'.cell? ⟨w.heap.size, 6, none⟩ = some (.bool r.keeps) ∧ w'.cell? ⟨w.heap.size, 7, none⟩ = some ve ∧ w'.cell? ⟨w.heap.size, 8, none⟩ = some (.int .i64 r.blocked) ∧ w'.cell? ⟨w.heap.size, 9, none⟩ = some (.int .i64 r.quiet) ∧ w'.cell? ⟨w.heap.size, 10, none⟩ = some (.int .i64 r.rep)) (with_reducible exact HYK.out _ hBc) (first
            | (go_at_call 16; refine (HAK.out _ hBc).position.mono ?_; rintro e w7p ⟨ca, cn, cc, a0, n0, c0, a1, n1, c1, rfl, hpf, hb⟩; have hB5 : Below wr.heap.size wr w7p := hBc.trans (hb.mono hBc.size); have hBc := hB5; have HPP := Lib.hid hpf.plain; clear hb hpf)
            | (go_at_call 20; refine (HLQ.out _ _ _ _ hBc (by first | exact HPP.out | exact HPP.out.below (Below.refl _ _).drew (Nat.le_refl _))).mono ?_; rintro e w7 ⟨ra, rn, rc, rfl, hI, hln, hb⟩; have hB5 : Below wr.heap.size wr w7 := hBc.trans (hb.mono hBc.size); have hBc := hB5; have HI7 := Lib.hid hI; have HLN7 := Lib.hid hln; clear hI hln; clear HPP hb))
          have HBw7 : Hid (Below wr.heap.size wr w7) := Lib.hid hB5
          clear hB5 hBc
          obtain ⟨y0, y1, y2, y3, y4, y5, y6, y7, y8, y9, y10⟩ := HYK.out _ HBw7.out
          go_wp2_with fail
          have hBc : Below wr.heap.size wr w7.drew := HBw7.out.drew
          go_region_held3 (fun w' => w'.cell? ⟨w.heap.size, 0, none⟩ = some (.string r.name) ∧ w'.cell? ⟨w.heap.size, 1, none⟩ = some (.int .i64 r.width) ∧ w'.cell? ⟨w.heap.size, 2, none⟩ = some (.int .i64 r.height) ∧ w'.cell? ⟨w.heap.size, 3, none⟩ = some vp ∧ w'.cell? ⟨w.heap.size, 4, none⟩ = some vs ∧ w'.cell? ⟨w.heap.size, 5, none⟩ = some (.bool r.falls) ∧ w'.cell? ⟨w.heap.size, 6, none⟩ = some (.bool r.keeps) ∧ w'.cell? ⟨w.heap.size, 7, none⟩ = some ve ∧ w'.cell? ⟨w.heap.size, 8, none⟩ = some (.int .i64 r.blocked) ∧ w'.cell? ⟨w.heap.size, 9, none⟩ = some (.int .i64 r.quiet) ∧ w'.cell? ⟨w.heap.size, 10, none⟩ = some (.int .i64 r.rep)) (with_reducible exact HYK.out _ hBc) (first
            | (go_at_call 16; refine (HAK.out _ hBc).position.mono ?_; rintro e w8p ⟨ca, cn, cc, a0, n0, c0, a1, n1, c1, rfl, hpf, hb⟩; have hB5 : Below wr.heap.size wr w8p := hBc.trans (hb.mono hBc.size); have hBc := hB5; have HPP := Lib.hid hpf.plain; clear hb hpf)
            | (go_at_call 21; refine (HOQ.out _ _ _ _ hBc (by first | exact HPP.out | exact HPP.out.below (Below.refl _ _).drew (Nat.le_refl _))).mono ?_; rintro e w8 ⟨rfl, hb⟩; have hB5 : Below wr.heap.size wr w8 := hBc.trans (hb.mono hBc.size); have hBc := hB5; clear HPP hb))
          have HBw8 : Hid (Below wr.heap.size wr w8) := Lib.hid hB5
          clear hB5 hBc
          go_wp2_with fail
          go_at_call 22; refine (fine3 w8 _ rfl).mono ?_; rintro e w9 ⟨rfl, hb⟩
          have HBw9 := Lib.hid (HBw8.out.trans (hb.mono HBw8.out.size))
          clear hb
          go_wp2_with fail
          go_at_call 9; refine (HKB.out _ HBw9.out).mono ?_; rintro e w10 ⟨rfl, hb⟩
          have HBw10 := Lib.hid (HBw9.out.trans (hb.mono HBw9.out.size))
          clear hb
          go_wp2_with fail
          go_at_call 23; refine (HRB.out _ HBw10.out).mono ?_; rintro e w11 ⟨rfl, hb⟩
          have HBw11 := Lib.hid (HBw10.out.trans (hb.mono HBw10.out.size))
          clear hb
          have hBE := HB.out.trans ((HBR.out.trans (HBw11.out.mono HBR.out.size)).mono HB.out.size)
          have HBE := Lib.hid hBE
          clear hBE
          go_wp2_with fail
          go_ret
          exact ⟨rfl, HBE.out⟩
      · go_wp2_with fail
        go_ret
        exact ⟨rfl, HB.out.trans (HBR.out.mono HB.out.size)⟩
  · have HNB1 := Lib.hid (HNB.out hz)
    have hne := bool_of_ne hz
    clear HNG HNB HOK hz
    go_at_call 8; refine (HNB1.out _ HB3.out).mono ?_; rintro e w4 ⟨rfl, hb⟩
    have HBE := Lib.hid (HB.out.trans ((HB3.out.trans (hb.mono HB3.out.size)).mono HB.out.size))
    clear hb HB3 HNB1 x0 x1 x2 x3 x4 y0 y1 y2 y3 y4 y5 y6 y7 y8 y9 y10
    go_wp2_with fail
    go_ret
    exact ⟨rfl, HBE.out⟩
end Go.Proofs.YtiligppdfldlfaaGreatDoor
