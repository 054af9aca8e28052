/- The law PlainRepeats: a game is drawn by repetition exactly if the position is not over otherwise and has occurred often enough. (Written by genlawpp.py.) -/
import Derived.Test.YtkficjpnflnjhaaGreatDoorPldK
import Derived.Test.YtkficjpnflnjhaaGreatDoorSomeM
import Derived.Test.YtkficjpnflnjhaaGreatDoorOpnA
import Derived.Test.YtkficjpnflnjhaaGreatDoorEndN
import Derived.BigQuiet
set_option maxRecDepth 100000
namespace Go.Proofs.YtkficjpnflnjhaaGreatDoor
open Go.ChangeShapes Go.WideShapes Go.ChangeAt Go.RowKit

theorem bool_of_ne {c : Int} (h : c ≠ 0) : (c != 0) = true := by simpa using h
theorem resG_want {r : RulesD} (hz : rulesE r = 0) (q : PlaceD) (es : List PlaceD) : 0 ≤ r.rep ∧ resG r q es = if resultD r q = 0 ∧ 0 < r.rep ∧ r.rep ≤ (countG q es : Int) then 3 else resultD r q := by
  have h := (rOk hz).r1
  refine ⟨h, ?_⟩
  have e : (resultD r q = 0 ∧ r.rep ≠ 0 ∧ r.rep ≤ (countG q es : Int)) = (resultD r q = 0 ∧ 0 < r.rep ∧ r.rep ≤ (countG q es : Int)) := by
    apply propext
    constructor
    · rintro ⟨h1, h2, h3⟩; exact ⟨h1, by omega, h3⟩
    · rintro ⟨h1, h2, h3⟩; exact ⟨h1, by omega, h3⟩
  unfold resG
  simp only [e]
set_option maxHeartbeats 8000000 in
theorem plainRepeats_full (r : RulesD) (vp vs ve : Value) (xs : List Int) (xv : Value) (w : World) (hr : RulesIn w r vp vs ve) (hx : IsSl IntAt 1 w xv xs) (hT : Dir w) :
    Calls Tryz.prog 4 #[RulesV r vp vs ve, xv] w fun e w' => e = .returned (.bool true) ∧ Below w.heap.size w w' := by
  obtain ⟨V, hV⟩ : ∃ V, V = w.alloc (.cells (RulesCells r vp vs ve) 26) := ⟨_, rfl⟩
  have hB : Below w.heap.size w V := by rw [hV]; exact (Below.refl _ _).alloc (Nat.le_refl _) _
  have hY : BoxR V w.heap.size r vp vs ve := by rw [hV]; exact boxR_new w r vp vs ve 26
  have HB := Lib.hid hB
  have HIR : Hid (∀ W, Below V.heap.size V W → RulesIn W r vp vs ve) := Lib.hid (fun W h => (hr.below hB (Nat.le_refl _)).below h (Nat.le_refl _))
  have HT : Hid (∀ W, Below V.heap.size V W → Dir W) := Lib.hid (fun W h => (hT.below hB (Nat.le_refl _)).below h (Nat.le_refl _))
  have HY : Hid (∀ W, Below V.heap.size V W → BoxR W w.heap.size r vp vs ve) := Lib.hid (fun W hb => hY.below hb (Nat.le_refl _))
  obtain ⟨xa, xn, xc, rfl, hxn, hxc, hxs⟩ := sl_parts hx
  have HXS : Hid (∀ W, Below V.heap.size V W → ∀ k, k < xn → ∃ g o x, xa = some ⟨g, o, none⟩ ∧ W.cell? ⟨g, o + k, none⟩ = some (.int .i64 x)) := Lib.hid (fun W h k hk => by
    obtain ⟨g, o, x, e1, _, e3⟩ := hxs W (hB.trans (h.mono hB.size)) k hk
    exact ⟨g, o, x, e1, e3⟩)
  have hxm : xn ≤ maxLen := by rw [hxn]; exact hx.fit
  unfold maxLen at hxm
  obtain ⟨c, hc⟩ : ∃ c, c = rulesE r := ⟨_, rfl⟩
  have HOK : Hid (c = 0 → rulesE r = 0) := Lib.hid (fun h => by rw [← hc]; exact h)
  have HNB : Hid (c ≠ 0 → ∀ W, Below V.heap.size V W → Calls Tryz.prog 9 #[RulesV r vp vs ve] W (NewBad c W)) := Lib.hid (fun hz W h => by rw [hc]; exact gnew_bad r vp vs ve W (HIR.out W h) (by rw [← hc]; exact hz))
  have HNG : Hid (c = 0 → ∀ W, Below V.heap.size V W → Calls Tryz.prog 9 #[RulesV r vp vs ve] W (NewG r W)) := Lib.hid (fun hz W h => newG r vp vs ve W (HIR.out W h) (HOK.out hz) (HT.out W h))
  have hV' := hV
  unfold RulesCells at hV'
  unfold RulesV at HNB HNG
  unfold RulesV
  clear hr hc hB hY hT hxn hxs hx hV
  have H9 : Hid (∀ (vp vs ve vc v0 v1 : Value) (w : World), RulesIn w three9 vp vs ve → PlaceIn w won9 vc v0 v1 → Dir w → Calls Tryz.prog 20 #[RulesV three9 vp vs ve, PlaceV won9 vc v0 v1] w (OfPost 1 0 w)) := Lib.hid (fun vp vs ve vc v0 v1 w h1 h2 h3 => of_won9 vp vs ve vc v0 v1 w h1 h2 h3)
  unfold PlaceV PlaceCells won9 at H9
  dsimp only at H9
  go_enter Tryz.func4, Tryz.ntmps4
  go_wp2_with fail
  rw [← hV']
  clear hV'
  go_at_call 19; refine (near_own _).mono ?_; rintro e w1 ⟨g, a, b, rfl, ho⟩
  have HO := Lib.hid ho
  obtain ⟨s0, s1, s2, s3⟩ := won_store ho
  clear ho
  go_wp2_with fail
  generalize hU : ((w1.alloc (.cells #[.slice (some ⟨g, 0, none⟩) 9 9, .slice (some ⟨a, 0, none⟩) 1 1, .slice (some ⟨b, 0, none⟩) 1 1, .int .i64 0, .int .i64 0] 38)).setCell ⟨g, 2, none⟩ (.int .i64 1)).setCell ⟨w1.heap.size, 3, none⟩ (.int .i64 1) = U
  obtain ⟨hb, hbx, hpi⟩ := won_made HO.out hU.symm
  have HBU := Lib.hid hb
  have HQU := Lib.hid hbx
  have HNU := Lib.hid hpi
  unfold won9 at HQU
  unfold BoxP at HQU
  dsimp only at HQU
  clear hb hbx hpi hU s0 s1 s2 s3 HO
  generalize w1.heap.size = qb at HQU ⊢
  obtain ⟨q0, q1, q2, q3, q4⟩ := HQU.out
  have hBc : Below U.heap.size U U.drew := (Below.refl _ _).drew
  go_region_held3 (fun w' => w'.cell? ⟨qb, 0, none⟩ = some (.slice (some ⟨g, 0, none⟩) 9 9) ∧ w'.cell? ⟨qb, 1, none⟩ = some (.slice (some ⟨a, 0, none⟩) 1 1) ∧ w'.cell? ⟨qb, 2, none⟩ = some (.slice (some ⟨b, 0, none⟩) 1 1) ∧ w'.cell? ⟨qb, 3, none⟩ = some (.int .i64 1) ∧ w'.cell? ⟨qb, 4, none⟩ = some (.int .i64 0)) (exact ⟨cell_keeps hBc (Nat.le_refl _) HQU.out.1, cell_keeps hBc (Nat.le_refl _) HQU.out.2.1, cell_keeps hBc (Nat.le_refl _) HQU.out.2.2.1, cell_keeps hBc (Nat.le_refl _) HQU.out.2.2.2.1, cell_keeps hBc (Nat.le_refl _) HQU.out.2.2.2.2⟩) (first
    | (go_at_call 21; refine (three_keep _).mono ?_; rintro e w4 ⟨vp4, vs4, ve4, rfl, hin, hb⟩; have hBc := hBc.trans (hb.mono hBc.size); clear hb)
    | (go_at_call 20; refine (H9.out _ _ _ _ _ _ _ hin (HNU.out.below hBc (Nat.le_refl _)) (HT.out _ (HBU.out.trans (hBc.mono HBU.out.size)))).mono ?_; rintro e w5 ⟨rfl, hb⟩; have hBc := hBc.trans (hb.mono hBc.size); clear hb))
  have HB0 := Lib.hid (HBU.out.trans (hBc.mono HBU.out.size))
  clear hBc hin HBU HQU HNU H9 q0 q1 q2 q3 q4
  go_wp2_with fail
  go_at_call 7; refine (played_any _ (HT.out _ HB0.out)).mono ?_; rintro e w6 ⟨rfl, hb⟩
  have HB1 := Lib.hid (HB0.out.trans (hb.mono HB0.out.size))
  clear hb HB0
  go_wp2_with fail
  go_at_call 8; refine (plays_any _).mono ?_; rintro e w3 ⟨rfl, hb⟩
  have hb3 := HB1.out.trans (hb.mono HB1.out.size)
  have HB3 := Lib.hid hb3
  obtain ⟨y0, y1, y2, y3, y4, y5, y6, y7, y8, y9, y10⟩ := HY.out _ hb3
  clear hb hb3 HB1
  go_wp2_with fail
  by_cases hz : c = 0
  · have HNG1 := Lib.hid (HNG.out hz)
    have HRZ := Lib.hid (HOK.out hz)
    clear HNG HNB HOK hz
    go_at_call 9; refine (HNG1.out _ HB3.out).mono ?_; rintro e w4' ⟨bb, W1, rfl, hga⟩
    have HA4 := Lib.hid hga
    clear hga HNG1 y0 y1 y2 y3 y4 y5 y6 y7 y8 y9 y10
    obtain ⟨m, hm, hmn, hmc, hmx⟩ : ∃ m : Nat, m = min xn 30 ∧ m ≤ 30 ∧ m ≤ xc ∧ m ≤ xn := ⟨_, rfl, by omega, by omega, by omega⟩
    have hm1 : min (xn : Int) 30 = (m : Int) := by omega
    have hm2 : max (m : Int) 0 = (m : Int) := by omega
    clear hm
    go_wp2_with fail
    go_loopw [11, 12, 13, 14, 15, 16, 61] (fun _ _ _ _ _ _ i wr => ∃ (k : Nat) (q : PlaceD) (es : List PlaceD) (ms : List MoveD), k ≤ m ∧ i = .int .i64 (k : Int) ∧ Hid (GAt w3 W1 wr bb r q es ms) ∧ Hid (ms.length ≤ k)) (fun _ _ _ _ _ _ i _ => m - (intOf i).toNat)
    case atStart => exact ⟨0, beginD r, [], [], by omega, rfl, HA4, Lib.hid (Nat.le_refl _)⟩
    case round =>
      obtain ⟨k, q, es, ms, hk, rfl, hA, hEs⟩ := hrel
      clear HA4
      have HBR := Lib.hid (HB3.out.trans (hA.out.bel.mono HB3.out.size))
      have HBK := Lib.hid (fun W (h : Below wr.heap.size wr W) => HBR.out.trans (h.mono HBR.out.size))
      have HAK := Lib.hid (fun W (h : Below wr.heap.size wr W) => hA.out.keep h)
      have HYK : Hid (∀ W, Below wr.heap.size wr W → W.cell? ⟨w.heap.size, 0, none⟩ = some (.string r.name) ∧ W.cell? ⟨w.heap.size, 1, none⟩ = some (.int .i64 r.width) ∧ W.cell? ⟨w.heap.size, 2, none⟩ = some (.int .i64 r.height) ∧ W.cell? ⟨w.heap.size, 3, none⟩ = some vp ∧ W.cell? ⟨w.heap.size, 4, none⟩ = some vs ∧ W.cell? ⟨w.heap.size, 5, none⟩ = some (.bool r.falls) ∧ W.cell? ⟨w.heap.size, 6, none⟩ = some (.bool r.keeps) ∧ W.cell? ⟨w.heap.size, 7, none⟩ = some ve ∧ W.cell? ⟨w.heap.size, 8, none⟩ = some (.int .i64 r.blocked) ∧ W.cell? ⟨w.heap.size, 9, none⟩ = some (.int .i64 r.quiet) ∧ W.cell? ⟨w.heap.size, 10, none⟩ = some (.int .i64 r.rep)) := Lib.hid (fun W h => HY.out W (HBK.out W h))
      have HPQ := Lib.hid hA.out.ok
      have HL100 : Hid (ms.length ≤ 100) := Lib.hid (by have := hEs.out; omega)
      by_cases hlt : k < m
      · obtain ⟨g1, o, x, rfl, cx0⟩ := HXS.out wr HBR.out k (by omega)
        obtain ⟨X, hX⟩ : ∃ X, X = resultD r q := ⟨_, rfl⟩
        obtain ⟨Y, hYY⟩ : ∃ Y, Y = resG r q es := ⟨_, rfl⟩
        obtain ⟨N, hN⟩ : ∃ N, N = countG q es := ⟨_, rfl⟩
        obtain ⟨n, hn⟩ : ∃ n, n = ms.length := ⟨_, rfl⟩
        have hN1 : 1 ≤ N ∧ N ≤ n + 1 := by have h1 := countG_le q es; have h2 := hA.out.len; omega
        have hn100 : n ≤ 100 := by have := HL100.out; omega
        obtain ⟨hr0, hwant⟩ := resG_want HRZ.out q es
        rw [← hYY, ← hX, ← hN] at hwant
        have HW := Lib.hid hwant
        have hN2 : decide ((N : Int) < 1) = false := decide_eq_false (by omega)
        have hN3 : decide ((N : Int) > (n : Int) + 1) = false := decide_eq_false (by omega)
        have hN4 : decide ((n : Int) + 1 < (N : Int)) = false := decide_eq_false (by omega)
        obtain ⟨L, hL⟩ : ∃ L, L = allD r q := ⟨_, rfl⟩
        have HOF : Hid (∀ W a1 a2 a3, Below wr.heap.size wr W → PlaceIn W q a1 a2 a3 → Calls Tryz.prog 20 #[RulesV r vp vs ve, PlaceV q a1 a2 a3] W (OfPost X 0 W)) := Lib.hid (fun W a1 a2 a3 h h2 => by rw [hX]; exact of_ok r q vp vs ve a1 a2 a3 W (HIR.out W (HBK.out W h)) h2 HPQ.out (HT.out W (HBK.out W h)))
        have HLQ : Hid (∀ W a1 a2 a3, Below wr.heap.size wr W → PlaceIn W q a1 a2 a3 → Calls Tryz.prog 11 #[RulesV r vp vs ve, PlaceV q a1 a2 a3] W (ListPost L W)) := Lib.hid (fun W a1 a2 a3 h h2 => by rw [hL]; exact all_ok r q vp vs ve a1 a2 a3 W (HIR.out W (HBK.out W h)) h2 HPQ.out)
        have HLL := Lib.hid hL
        have HLN : Hid (L.length ≤ 5000) := Lib.hid (by rw [hL]; exact allD_length HPQ.out)
        have HLE : Hid (X = 0 → L ≠ []) := Lib.hid (fun h => by rw [hL]; exact result_open HPQ.out (by rw [← hX]; exact h))
        have HPP : Hid (∀ W, Below wr.heap.size wr W → Calls Tryz.prog 12 #[.pointer (some ⟨bb, 0, none⟩)] W (PosPost q W)) := Lib.hid (fun W h => (HAK.out W h).position)
        have HRS : Hid (∀ W, Below wr.heap.size wr W → Calls Tryz.prog 13 #[.pointer (some ⟨bb, 0, none⟩)] W (BelPost (.int .i64 Y) W)) := Lib.hid (fun W h => by rw [hYY]; exact (HAK.out W h).result HL100.out)
        have HCN : Hid (∀ W, Below wr.heap.size wr W → Calls Tryz.prog 22 #[.pointer (some ⟨bb, 0, none⟩)] W (BelPost (.int .i64 (N : Int)) W)) := Lib.hid (fun W h => by rw [hN]; exact (HAK.out W h).count HL100.out)
        have HMV : Hid (∀ W, Below wr.heap.size wr W → Calls Tryz.prog 17 #[.pointer (some ⟨bb, 0, none⟩)] W (fun e w' => ∃ a c, e = .returned (.slice a n c) ∧ Below W.heap.size W w')) := Lib.hid (fun W h => ((HAK.out W h).moves HL100.out).mono fun _ _ ⟨a, n', c, h1, _, h2, h3⟩ => ⟨a, c, by rw [h1, h2, hn], h3⟩)
        have HYY := Lib.hid hYY
        unfold RulesV PlaceV PlaceCells at HLQ HOF
        obtain ⟨y0, y1, y2, y3, y4, y5, y6, y7, y8, y9, y10⟩ := HYK.out wr (Below.refl _ _)
        clear hL hA hX hYY hN hn hwant
        go_wp2_with fail
        have hBc : Below wr.heap.size wr wr.drew := (Below.refl _ _).drew
        go_region_held3 (fun w' => w'.cell? ⟨w.heap.size, 0, none⟩ = some (.string r.name) ∧ w'.cell? ⟨w.heap.size, 1, none⟩ = some (.int .i64 r.width) ∧ w'.cell? ⟨w.heap.size, 2, none⟩ = some (.int .i64 r.height) ∧ w'.cell? ⟨w.heap.size, 3, none⟩ = some vp ∧ w'.cell? ⟨w.heap.size, 4, none⟩ = some vs ∧ w'.cell? ⟨w.heap.size, 5, none⟩ = some (.bool r.falls) ∧ w'.cell? ⟨w.heap.size, 6, none⟩ = some (.bool r.keeps) ∧ w'.cell? ⟨w.heap.size, 7, none⟩ = some ve ∧ w'.cell? ⟨w.heap.size, 8, none⟩ = some (.int .i64 r.blocked) ∧ w'.cell? ⟨w.heap.size, 9, none⟩ = some (.int .i64 r.quiet) ∧ w'.cell? ⟨w.heap.size, 10, none⟩ = some (.int .i64 r.rep)) (with_reducible exact HYK.out _ hBc) (first
          | (go_at_call 12; refine (HPP.out _ hBc).mono ?_; rintro e w7p ⟨ca, cn, cc, a0, n0, c0, a1, n1, c1, rfl, hpf, hb⟩; have hB5 : Below wr.heap.size wr w7p := hBc.trans (hb.mono hBc.size); have hBc := hB5; have HPI := Lib.hid hpf.plain; clear hb hpf)
          | (go_at_call 20; refine (HOF.out _ _ _ _ hBc (by first | exact HPI.out | exact HPI.out.below (Below.refl _ _).drew (Nat.le_refl _))).mono ?_; rintro e w7 ⟨rfl, hb⟩; have hB5 : Below wr.heap.size wr w7 := hBc.trans (hb.mono hBc.size); have hBc := hB5; clear HPI hb))
        have HB7 := Lib.hid hB5
        clear hB5 hBc y0 y1 y2 y3 y4 y5 y6 y7 y8 y9 y10 cx0
        have y10 := (HYK.out _ HB7.out).2.2.2.2.2.2.2.2.2.2
        go_wp2_with fail
        by_cases hX0 : X = 0
        · subst hX0
          by_cases hR : 0 < r.rep
          · have hR1 : decide (r.rep > 0) = true := decide_eq_true hR
            have hR2 : decide (0 < r.rep) = true := decide_eq_true hR
            by_cases hC : r.rep ≤ (N : Int)
            · have hC1 : decide ((N : Int) ≥ r.rep) = true := decide_eq_true hC
              have hC2 : decide (r.rep ≤ (N : Int)) = true := decide_eq_true hC
              obtain rfl : Y = 3 := by rw [HW.out, if_pos ⟨rfl, hR, hC⟩]
              clear hR hC
              have HY10 : Hid (∀ W, Below wr.heap.size wr W → W.cell? ⟨w.heap.size, 10, none⟩ = some (.int .i64 r.rep)) := Lib.hid (fun W h => (HYK.out W h).2.2.2.2.2.2.2.2.2.2)
              have hBc : Below wr.heap.size wr w7.drew := HB7.out.drew
              go_region_held3 (fun w' => w'.cell? ⟨w.heap.size, 10, none⟩ = some (.int .i64 r.rep)) (with_reducible exact HY10.out _ hBc) (first
                | (go_at_call 22; refine (HCN.out _ hBc).mono ?_; rintro e w8 ⟨rfl, hb⟩; have hB5 : Below wr.heap.size wr w8 := hBc.trans (hb.mono hBc.size); have hBc := hB5; clear hb))
              have HB8 := Lib.hid hB5
              clear hB5 hBc
              clear y10
              go_wp2_with fail
              go_at_call 13; refine (HRS.out _ HB8.out).mono ?_; rintro e w9 ⟨rfl, hb⟩
              have HB9 := Lib.hid (HB8.out.trans (hb.mono HB8.out.size))
              clear hb
              go_wp2_with fail
              go_at_call 22; refine (HCN.out _ HB9.out).mono ?_; rintro e w10 ⟨rfl, hb⟩
              have HB10 := Lib.hid (HB9.out.trans (hb.mono HB9.out.size))
              clear hb
              go_wp2_with fail
              go_at_call 22; refine (HCN.out _ HB10.out).mono ?_; rintro e w11 ⟨rfl, hb⟩
              have HB11 := Lib.hid (HB10.out.trans (hb.mono HB10.out.size))
              clear hb
              go_wp2_with fail
              go_at_call 17; refine (HMV.out _ HB11.out).mono ?_; rintro e w12 ⟨ma, mk, rfl, hb⟩
              have HB12 := Lib.hid (HB11.out.trans (hb.mono HB11.out.size))
              clear hb HB9 HB10 HB11
              go_wp2_with fail
              obtain ⟨y0, y1, y2, y3, y4, y5, y6, y7, y8, y9, y10⟩ := HYK.out _ HB12.out
              have hBc : Below wr.heap.size wr w12.drew := HB12.out.drew
              go_region_held3 (fun w' => w'.cell? ⟨w.heap.size, 0, none⟩ = some (.string r.name) ∧ w'.cell? ⟨w.heap.size, 1, none⟩ = some (.int .i64 r.width) ∧ w'.cell? ⟨w.heap.size, 2, none⟩ = some (.int .i64 r.height) ∧ w'.cell? ⟨w.heap.size, 3, none⟩ = some vp ∧ w'.cell? ⟨w.heap.size, 4, none⟩ = some vs ∧ w'.cell? ⟨w.heap.size, 5, none⟩ = some (.bool r.falls) ∧ w'.cell? ⟨w.heap.size, 6, none⟩ = some (.bool r.keeps) ∧ w'.cell? ⟨w.heap.size, 7, none⟩ = some ve ∧ w'.cell? ⟨w.heap.size, 8, none⟩ = some (.int .i64 r.blocked) ∧ w'.cell? ⟨w.heap.size, 9, none⟩ = some (.int .i64 r.quiet) ∧ w'.cell? ⟨w.heap.size, 10, none⟩ = some (.int .i64 r.rep)) (with_reducible exact HYK.out _ hBc) (first
                | (go_at_call 12; refine (HPP.out _ hBc).mono ?_; rintro e w13p ⟨ca, cn, cc, a0, n0, c0, a1, n1, c1, rfl, hpf, hb⟩; have hB5 : Below wr.heap.size wr w13p := hBc.trans (hb.mono hBc.size); have hBc := hB5; have HPI := Lib.hid hpf.plain; clear hb hpf)
                | (go_at_call 11; refine (HLQ.out _ _ _ _ hBc (by first | exact HPI.out | exact HPI.out.below (Below.refl _ _).drew (Nat.le_refl _))).mono ?_; rintro e w13 ⟨la, ln, lc, rfl, hI, hln, hb⟩; have hB5 : Below wr.heap.size wr w13 := hBc.trans (hb.mono hBc.size); have hBc := hB5; have HI7 := Lib.hid hI; have HLN7 := Lib.hid hln; clear hI hln; clear HPI hb))
              have HB13 := Lib.hid hB5
              clear hB5 hBc y0 y1 y2 y3 y4 y5 y6 y7 y8 y9 y10 HB12
              have hBE := HB.out.trans ((HBR.out.trans (HB13.out.mono HBR.out.size)).mono HB.out.size)
              have HBE := Lib.hid hBE
              clear hBE
              go_wp2_with fail
              go_ret
              exact ⟨rfl, HBE.out⟩
            · have hC1 : decide ((N : Int) ≥ r.rep) = false := decide_eq_false hC
              have hC2 : decide (r.rep ≤ (N : Int)) = false := decide_eq_false hC
              obtain rfl : Y = 0 := by rw [HW.out, if_neg (fun h => hC h.2.2)]
              clear hR hC
              have HY10 : Hid (∀ W, Below wr.heap.size wr W → W.cell? ⟨w.heap.size, 10, none⟩ = some (.int .i64 r.rep)) := Lib.hid (fun W h => (HYK.out W h).2.2.2.2.2.2.2.2.2.2)
              have hBc : Below wr.heap.size wr w7.drew := HB7.out.drew
              go_region_held3 (fun w' => w'.cell? ⟨w.heap.size, 10, none⟩ = some (.int .i64 r.rep)) (with_reducible exact HY10.out _ hBc) (first
                | (go_at_call 22; refine (HCN.out _ hBc).mono ?_; rintro e w8 ⟨rfl, hb⟩; have hB5 : Below wr.heap.size wr w8 := hBc.trans (hb.mono hBc.size); have hBc := hB5; clear hb))
              have HB8 := Lib.hid hB5
              clear hB5 hBc
              clear y10
              go_wp2_with fail
              go_at_call 13; refine (HRS.out _ HB8.out).mono ?_; rintro e w9 ⟨rfl, hb⟩
              have HB9 := Lib.hid (HB8.out.trans (hb.mono HB8.out.size))
              clear hb
              go_wp2_with fail
              go_at_call 22; refine (HCN.out _ HB9.out).mono ?_; rintro e w10 ⟨rfl, hb⟩
              have HB10 := Lib.hid (HB9.out.trans (hb.mono HB9.out.size))
              clear hb
              go_wp2_with fail
              go_at_call 22; refine (HCN.out _ HB10.out).mono ?_; rintro e w11 ⟨rfl, hb⟩
              have HB11 := Lib.hid (HB10.out.trans (hb.mono HB10.out.size))
              clear hb
              go_wp2_with fail
              go_at_call 17; refine (HMV.out _ HB11.out).mono ?_; rintro e w12 ⟨ma, mk, rfl, hb⟩
              have HB12 := Lib.hid (HB11.out.trans (hb.mono HB11.out.size))
              clear hb HB9 HB10 HB11
              go_wp2_with fail
              obtain ⟨y0, y1, y2, y3, y4, y5, y6, y7, y8, y9, y10⟩ := HYK.out _ HB12.out
              have hBc : Below wr.heap.size wr w12.drew := HB12.out.drew
              go_region_held3 (fun w' => w'.cell? ⟨w.heap.size, 0, none⟩ = some (.string r.name) ∧ w'.cell? ⟨w.heap.size, 1, none⟩ = some (.int .i64 r.width) ∧ w'.cell? ⟨w.heap.size, 2, none⟩ = some (.int .i64 r.height) ∧ w'.cell? ⟨w.heap.size, 3, none⟩ = some vp ∧ w'.cell? ⟨w.heap.size, 4, none⟩ = some vs ∧ w'.cell? ⟨w.heap.size, 5, none⟩ = some (.bool r.falls) ∧ w'.cell? ⟨w.heap.size, 6, none⟩ = some (.bool r.keeps) ∧ w'.cell? ⟨w.heap.size, 7, none⟩ = some ve ∧ w'.cell? ⟨w.heap.size, 8, none⟩ = some (.int .i64 r.blocked) ∧ w'.cell? ⟨w.heap.size, 9, none⟩ = some (.int .i64 r.quiet) ∧ w'.cell? ⟨w.heap.size, 10, none⟩ = some (.int .i64 r.rep)) (with_reducible exact HYK.out _ hBc) (first
                | (go_at_call 12; refine (HPP.out _ hBc).mono ?_; rintro e w13p ⟨ca, cn, cc, a0, n0, c0, a1, n1, c1, rfl, hpf, hb⟩; have hB5 : Below wr.heap.size wr w13p := hBc.trans (hb.mono hBc.size); have hBc := hB5; have HPI := Lib.hid hpf.plain; clear hb hpf)
                | (go_at_call 11; refine (HLQ.out _ _ _ _ hBc (by first | exact HPI.out | exact HPI.out.below (Below.refl _ _).drew (Nat.le_refl _))).mono ?_; rintro e w13 ⟨la, ln, lc, rfl, hI, hln, hb⟩; have hB5 : Below wr.heap.size wr w13 := hBc.trans (hb.mono hBc.size); have hBc := hB5; have HI7 := Lib.hid hI; have HLN7 := Lib.hid hln; clear hI hln; clear HPI hb))
              have HB13 := Lib.hid hB5
              clear hB5 hBc y0 y1 y2 y3 y4 y5 y6 y7 y8 y9 y10 HB12
              have h1 : 1 ≤ ln := by
                rcases Nat.eq_zero_or_pos ln with h | h
                · exact absurd (List.eq_nil_of_length_eq_zero (by rw [← HLN7.out]; exact h)) (HLE.out (by first | trivial | rfl))
                · exact h
              have h5 : ln ≤ 5000 := by rw [HLN7.out]; exact HLN.out
              have HRES : Hid (resG r q es = 0) := Lib.hid HYY.out.symm
              have HA13 := Lib.hid (HAK.out _ HB13.out)
              have HSM := Lib.hid (someM_any L la ln lc x w13 HI7.out HLN7.out h1 h5)
              go_wp2_with fail
              go_at_call 15; refine HSM.out.mono ?_; rintro e w14 ⟨m1, m2, m3, hm, rfl, hb⟩
              have HP := Lib.hid ((HA13.out.keep hb).play HL100.out HRES.out (m1, m2, m3) (legalB_all.2 (by rw [← HLL.out]; exact hm)))
              unfold moveV at HP
              clear hm hb HSM HA13 HI7
              go_wp2_with fail
              go_at_call 14; refine HP.out.mono ?_; rintro e w15 ⟨rfl, hga⟩
              have HA15 := Lib.hid hga
              have HE15 : Hid ((ms ++ [(m1, m2, m3)]).length ≤ k + 1) := Lib.hid (by have := hEs.out; simp; omega)
              clear hga HP
              go_wp2_with fail
              go_roundw
              case rel => exact ⟨k + 1, _, _, _, by omega, by go_num, HA15, HE15⟩
              case measure => simp [intOf]; omega
          · have hR1 : decide (r.rep > 0) = false := decide_eq_false hR
            have hR2 : decide (0 < r.rep) = false := decide_eq_false hR
            obtain rfl : Y = 0 := by rw [HW.out, if_neg (fun h => hR h.2.1)]
            clear hR
            go_quiet (fail)
            obtain ⟨w8, hw8⟩ : ∃ w8, w8 = w7.drewN nq := ⟨_, rfl⟩
            have HB8 : Hid (Below wr.heap.size wr w8) := Lib.hid (by rw [hw8]; exact below_drewN HB7.out _)
            rw [← hw8]
            clear hw8
            clear y10
            go_wp2_with fail
            go_at_call 13; refine (HRS.out _ HB8.out).mono ?_; rintro e w9 ⟨rfl, hb⟩
            have HB9 := Lib.hid (HB8.out.trans (hb.mono HB8.out.size))
            clear hb
            go_wp2_with fail
            go_at_call 22; refine (HCN.out _ HB9.out).mono ?_; rintro e w10 ⟨rfl, hb⟩
            have HB10 := Lib.hid (HB9.out.trans (hb.mono HB9.out.size))
            clear hb
            go_wp2_with fail
            go_at_call 22; refine (HCN.out _ HB10.out).mono ?_; rintro e w11 ⟨rfl, hb⟩
            have HB11 := Lib.hid (HB10.out.trans (hb.mono HB10.out.size))
            clear hb
            go_wp2_with fail
            go_at_call 17; refine (HMV.out _ HB11.out).mono ?_; rintro e w12 ⟨ma, mk, rfl, hb⟩
            have HB12 := Lib.hid (HB11.out.trans (hb.mono HB11.out.size))
            clear hb HB9 HB10 HB11
            go_wp2_with fail
            obtain ⟨y0, y1, y2, y3, y4, y5, y6, y7, y8, y9, y10⟩ := HYK.out _ HB12.out
            have hBc : Below wr.heap.size wr w12.drew := HB12.out.drew
            go_region_held3 (fun w' => w'.cell? ⟨w.heap.size, 0, none⟩ = some (.string r.name) ∧ w'.cell? ⟨w.heap.size, 1, none⟩ = some (.int .i64 r.width) ∧ w'.cell? ⟨w.heap.size, 2, none⟩ = some (.int .i64 r.height) ∧ w'.cell? ⟨w.heap.size, 3, none⟩ = some vp ∧ w'.cell? ⟨w.heap.size, 4, none⟩ = some vs ∧ w'.cell? ⟨w.heap.size, 5, none⟩ = some (.bool r.falls) ∧ w'.cell? ⟨w.heap.size, 6, none⟩ = some (.bool r.keeps) ∧ w'.cell? ⟨w.heap.size, 7, none⟩ = some ve ∧ w'.cell? ⟨w.heap.size, 8, none⟩ = some (.int .i64 r.blocked) ∧ w'.cell? ⟨w.heap.size, 9, none⟩ = some (.int .i64 r.quiet) ∧ w'.cell? ⟨w.heap.size, 10, none⟩ = some (.int .i64 r.rep)) (with_reducible exact HYK.out _ hBc) (first
              | (go_at_call 12; refine (HPP.out _ hBc).mono ?_; rintro e w13p ⟨ca, cn, cc, a0, n0, c0, a1, n1, c1, rfl, hpf, hb⟩; have hB5 : Below wr.heap.size wr w13p := hBc.trans (hb.mono hBc.size); have hBc := hB5; have HPI := Lib.hid hpf.plain; clear hb hpf)
              | (go_at_call 11; refine (HLQ.out _ _ _ _ hBc (by first | exact HPI.out | exact HPI.out.below (Below.refl _ _).drew (Nat.le_refl _))).mono ?_; rintro e w13 ⟨la, ln, lc, rfl, hI, hln, hb⟩; have hB5 : Below wr.heap.size wr w13 := hBc.trans (hb.mono hBc.size); have hBc := hB5; have HI7 := Lib.hid hI; have HLN7 := Lib.hid hln; clear hI hln; clear HPI hb))
            have HB13 := Lib.hid hB5
            clear hB5 hBc y0 y1 y2 y3 y4 y5 y6 y7 y8 y9 y10 HB12
            have h1 : 1 ≤ ln := by
              rcases Nat.eq_zero_or_pos ln with h | h
              · exact absurd (List.eq_nil_of_length_eq_zero (by rw [← HLN7.out]; exact h)) (HLE.out (by first | trivial | rfl))
              · exact h
            have h5 : ln ≤ 5000 := by rw [HLN7.out]; exact HLN.out
            have HRES : Hid (resG r q es = 0) := Lib.hid HYY.out.symm
            have HA13 := Lib.hid (HAK.out _ HB13.out)
            have HSM := Lib.hid (someM_any L la ln lc x w13 HI7.out HLN7.out h1 h5)
            go_wp2_with fail
            go_at_call 15; refine HSM.out.mono ?_; rintro e w14 ⟨m1, m2, m3, hm, rfl, hb⟩
            have HP := Lib.hid ((HA13.out.keep hb).play HL100.out HRES.out (m1, m2, m3) (legalB_all.2 (by rw [← HLL.out]; exact hm)))
            unfold moveV at HP
            clear hm hb HSM HA13 HI7
            go_wp2_with fail
            go_at_call 14; refine HP.out.mono ?_; rintro e w15 ⟨rfl, hga⟩
            have HA15 := Lib.hid hga
            have HE15 : Hid ((ms ++ [(m1, m2, m3)]).length ≤ k + 1) := Lib.hid (by have := hEs.out; simp; omega)
            clear hga HP
            go_wp2_with fail
            go_roundw
            case rel => exact ⟨k + 1, _, _, _, by omega, by go_num, HA15, HE15⟩
            case measure => simp [intOf]; omega
        · obtain rfl : Y = X := by rw [HW.out, if_neg (fun h => hX0 h.1)]
          have hY1 : (Y == 0) = false := by simpa using hX0
          have hY2 : (Y != 0) = true := by simpa using hX0
          have hY3 : (Y != Y) = false := by simp
          clear hX0
          go_quiet (fail)
          obtain ⟨w8, hw8⟩ : ∃ w8, w8 = w7.drewN nq := ⟨_, rfl⟩
          have HB8 : Hid (Below wr.heap.size wr w8) := Lib.hid (by rw [hw8]; exact below_drewN HB7.out _)
          rw [← hw8]
          clear hw8
          clear y10
          go_wp2_with fail
          go_at_call 13; refine (HRS.out _ HB8.out).mono ?_; rintro e w9 ⟨rfl, hb⟩
          have HB9 := Lib.hid (HB8.out.trans (hb.mono HB8.out.size))
          clear hb
          go_wp2_with fail
          go_at_call 22; refine (HCN.out _ HB9.out).mono ?_; rintro e w10 ⟨rfl, hb⟩
          have HB10 := Lib.hid (HB9.out.trans (hb.mono HB9.out.size))
          clear hb
          go_wp2_with fail
          go_at_call 22; refine (HCN.out _ HB10.out).mono ?_; rintro e w11 ⟨rfl, hb⟩
          have HB11 := Lib.hid (HB10.out.trans (hb.mono HB10.out.size))
          clear hb
          go_wp2_with fail
          go_at_call 17; refine (HMV.out _ HB11.out).mono ?_; rintro e w12 ⟨ma, mk, rfl, hb⟩
          have HB12 := Lib.hid (HB11.out.trans (hb.mono HB11.out.size))
          clear hb HB9 HB10 HB11
          go_wp2_with fail
          obtain ⟨y0, y1, y2, y3, y4, y5, y6, y7, y8, y9, y10⟩ := HYK.out _ HB12.out
          have hBc : Below wr.heap.size wr w12.drew := HB12.out.drew
          go_region_held3 (fun w' => w'.cell? ⟨w.heap.size, 0, none⟩ = some (.string r.name) ∧ w'.cell? ⟨w.heap.size, 1, none⟩ = some (.int .i64 r.width) ∧ w'.cell? ⟨w.heap.size, 2, none⟩ = some (.int .i64 r.height) ∧ w'.cell? ⟨w.heap.size, 3, none⟩ = some vp ∧ w'.cell? ⟨w.heap.size, 4, none⟩ = some vs ∧ w'.cell? ⟨w.heap.size, 5, none⟩ = some (.bool r.falls) ∧ w'.cell? ⟨w.heap.size, 6, none⟩ = some (.bool r.keeps) ∧ w'.cell? ⟨w.heap.size, 7, none⟩ = some ve ∧ w'.cell? ⟨w.heap.size, 8, none⟩ = some (.int .i64 r.blocked) ∧ w'.cell? ⟨w.heap.size, 9, none⟩ = some (.int .i64 r.quiet) ∧ w'.cell? ⟨w.heap.size, 10, none⟩ = some (.int .i64 r.rep)) (with_reducible exact HYK.out _ hBc) (first
            | (go_at_call 12; refine (HPP.out _ hBc).mono ?_; rintro e w13p ⟨ca, cn, cc, a0, n0, c0, a1, n1, c1, rfl, hpf, hb⟩; have hB5 : Below wr.heap.size wr w13p := hBc.trans (hb.mono hBc.size); have hBc := hB5; have HPI := Lib.hid hpf.plain; clear hb hpf)
            | (go_at_call 11; refine (HLQ.out _ _ _ _ hBc (by first | exact HPI.out | exact HPI.out.below (Below.refl _ _).drew (Nat.le_refl _))).mono ?_; rintro e w13 ⟨la, ln, lc, rfl, hI, hln, hb⟩; have hB5 : Below wr.heap.size wr w13 := hBc.trans (hb.mono hBc.size); have hBc := hB5; have HI7 := Lib.hid hI; have HLN7 := Lib.hid hln; clear hI hln; clear HPI hb))
          have HB13 := Lib.hid hB5
          clear hB5 hBc y0 y1 y2 y3 y4 y5 y6 y7 y8 y9 y10 HB12
          have hBE := HB.out.trans ((HBR.out.trans (HB13.out.mono HBR.out.size)).mono HB.out.size)
          have HBE := Lib.hid hBE
          clear hBE
          go_wp2_with fail
          go_ret
          exact ⟨rfl, HBE.out⟩
      · have hBE := HB.out.trans (HBR.out.mono HB.out.size)
        have HBE := Lib.hid hBE
        clear hBE
        go_wp2_with fail
        go_ret
        exact ⟨rfl, HBE.out⟩
  · have HNB1 := Lib.hid (HNB.out hz)
    have hne := bool_of_ne hz
    clear HNG HNB HOK hz
    go_at_call 9; refine (HNB1.out _ HB3.out).mono ?_; rintro e w4 ⟨rfl, hb⟩
    have HBE := Lib.hid (HB.out.trans ((HB3.out.trans (hb.mono HB3.out.size)).mono HB.out.size))
    clear hb HB3 HNB1 y0 y1 y2 y3 y4 y5 y6 y7 y8 y9 y10
    go_wp2_with fail
    go_ret
    exact ⟨rfl, HBE.out⟩
end Go.Proofs.YtkficjpnflnjhaaGreatDoor
