/- The law PlainReplays: the moves that a game has played are played again by Run. (Written by genlawpr.py.) -/
import Derived.Test.YtkficjpnflnjhaaGreatDoorPldK
import Derived.Test.YtkficjpnflnjhaaGreatDoorSomeM
import Derived.Test.YtkficjpnflnjhaaGreatDoorOpnA
import Derived.Test.YtkficjpnflnjhaaGreatDoorEndN
set_option maxRecDepth 100000
namespace Go.Proofs.YtkficjpnflnjhaaGreatDoor
open Go.ChangeShapes Go.WideShapes Go.ChangeAt Go.RowKit

theorem last_ofM {ms : List MoveD} (h : ms ≠ []) : ∃ ns m, ms = ns ++ [m] := ⟨ms.dropLast, ms.getLast h, (List.dropLast_concat_getLast h).symm⟩
theorem bool_of_ne {c : Int} (h : c ≠ 0) : (c != 0) = true := by simpa using h
set_option maxHeartbeats 8000000 in
theorem plainReplays_full (r : RulesD) (vp vs ve : Value) (xs : List Int) (xv : Value) (w : World) (hr : RulesIn w r vp vs ve) (hx : IsSl IntAt 1 w xv xs) (hT : Dir w) :
    Calls Tryz.prog 3 #[RulesV r vp vs ve, xv] w fun e w' => e = .returned (.bool true) ∧ Below w.heap.size w w' := by
  obtain ⟨V, hV⟩ : ∃ V, V = w.alloc (.cells (RulesCells r vp vs ve) 26) := ⟨_, rfl⟩
  have hB : Below w.heap.size w V := by rw [hV]; exact (Below.refl _ _).alloc (Nat.le_refl _) _
  have hY : BoxR V w.heap.size r vp vs ve := by rw [hV]; exact boxR_new w r vp vs ve 26
  have HB := Lib.hid hB
  have HIR : Hid (∀ W, Below V.heap.size V W → RulesIn W r vp vs ve) := Lib.hid (fun W h => (hr.below hB (Nat.le_refl _)).below h (Nat.le_refl _))
  have HT : Hid (∀ W, Below V.heap.size V W → Dir W) := Lib.hid (fun W h => (hT.below hB (Nat.le_refl _)).below h (Nat.le_refl _))
  have HY : Hid (∀ W, Below V.heap.size V W → BoxR W w.heap.size r vp vs ve) := Lib.hid (fun W hb => hY.below hb (Nat.le_refl _))
  obtain ⟨xa, xn, xc, rfl, hxn, hxc, hxs⟩ := sl_parts hx
  have HXS : Hid (∀ W, Below V.heap.size V W → ∀ k, k < xn → ∃ g o x, xa = some ⟨g, o, none⟩ ∧ W.cell? ⟨g, o + k, none⟩ = some (.int .i64 x)) := Lib.hid (fun W h k hk => by
    obtain ⟨g, o, x, e1, _, e3⟩ := hxs W (hB.trans (h.mono hB.size)) k hk
    exact ⟨g, o, x, e1, e3⟩)
  have hxm : xn ≤ maxLen := by rw [hxn]; exact hx.fit
  unfold maxLen at hxm
  obtain ⟨c, hc⟩ : ∃ c, c = rulesE r := ⟨_, rfl⟩
  have HOK : Hid (c = 0 → rulesE r = 0) := Lib.hid (fun h => by rw [← hc]; exact h)
  have HNB : Hid (c ≠ 0 → ∀ W, Below V.heap.size V W → Calls Tryz.prog 9 #[RulesV r vp vs ve] W (NewBad c W)) := Lib.hid (fun hz W h => by rw [hc]; exact gnew_bad r vp vs ve W (HIR.out W h) (by rw [← hc]; exact hz))
  have HNG : Hid (c = 0 → ∀ W, Below V.heap.size V W → Calls Tryz.prog 9 #[RulesV r vp vs ve] W (NewG r W)) := Lib.hid (fun hz W h => newG r vp vs ve W (HIR.out W h) (HOK.out hz) (HT.out W h))
  have hV' := hV
  unfold RulesCells at hV'
  unfold RulesV at HNB HNG
  unfold RulesV
  clear hr hc hB hY hT hxn hxs hx hV
  go_enter Tryz.func3, Tryz.ntmps3
  go_wp2_with fail
  rw [← hV']
  clear hV'
  go_at_call 7; refine (played_any _ (HT.out _ (Below.refl _ _))).mono ?_; rintro e w1 ⟨rfl, hb⟩
  have HB1 := Lib.hid hb
  clear hb
  go_wp2_with fail
  go_at_call 8; refine (plays_any _).mono ?_; rintro e w3 ⟨rfl, hb⟩
  have hb3 := HB1.out.trans (hb.mono HB1.out.size)
  have HB3 := Lib.hid hb3
  obtain ⟨y0, y1, y2, y3, y4, y5, y6, y7, y8, y9, y10⟩ := HY.out _ hb3
  clear hb hb3 HB1
  go_wp2_with fail
  by_cases hz : c = 0
  · have HNG1 := Lib.hid (HNG.out hz)
    have HRZ := Lib.hid (HOK.out hz)
    clear HNG HNB HOK hz
    go_at_call 9; refine (HNG1.out _ HB3.out).mono ?_; rintro e w4 ⟨bb, W1, rfl, hga⟩
    have HA4 := Lib.hid hga
    clear hga HNG1 y0 y1 y2 y3 y4 y5 y6 y7 y8 y9 y10
    obtain ⟨m, hm, hmn, hmc, hmx⟩ : ∃ m : Nat, m = min xn 30 ∧ m ≤ 30 ∧ m ≤ xc ∧ m ≤ xn := ⟨_, rfl, by omega, by omega, by omega⟩
    have hm1 : min (xn : Int) 30 = (m : Int) := by omega
    have hm2 : max (m : Int) 0 = (m : Int) := by omega
    clear hm
    go_wp2_with fail
    go_loopw [8, 9, 10, 39] (fun _ _ _ i wr => ∃ (k : Nat) (q : PlaceD) (es : List PlaceD) (ms : List MoveD), k ≤ m ∧ i = .int .i64 (k : Int) ∧ Hid (GAt w3 W1 wr bb r q es ms) ∧ Hid (ms.length ≤ k)) (fun _ _ _ i _ => m - (intOf i).toNat)
    case atStart => exact ⟨0, beginD r, [], [], by omega, rfl, HA4, Lib.hid (Nat.le_refl _)⟩
    case round =>
      obtain ⟨k, q, es, ms, hk, rfl, hA, hEs⟩ := hrel
      clear HA4
      have HBR := Lib.hid (HB3.out.trans (hA.out.bel.mono HB3.out.size))
      have HBK := Lib.hid (fun W (h : Below wr.heap.size wr W) => HBR.out.trans (h.mono HBR.out.size))
      have HAK := Lib.hid (fun W (h : Below wr.heap.size wr W) => hA.out.keep h)
      have HYK : Hid (∀ W, Below wr.heap.size wr W → W.cell? ⟨w.heap.size, 0, none⟩ = some (.string r.name) ∧ W.cell? ⟨w.heap.size, 1, none⟩ = some (.int .i64 r.width) ∧ W.cell? ⟨w.heap.size, 2, none⟩ = some (.int .i64 r.height) ∧ W.cell? ⟨w.heap.size, 3, none⟩ = some vp ∧ W.cell? ⟨w.heap.size, 4, none⟩ = some vs ∧ W.cell? ⟨w.heap.size, 5, none⟩ = some (.bool r.falls) ∧ W.cell? ⟨w.heap.size, 6, none⟩ = some (.bool r.keeps) ∧ W.cell? ⟨w.heap.size, 7, none⟩ = some ve ∧ W.cell? ⟨w.heap.size, 8, none⟩ = some (.int .i64 r.blocked) ∧ W.cell? ⟨w.heap.size, 9, none⟩ = some (.int .i64 r.quiet) ∧ W.cell? ⟨w.heap.size, 10, none⟩ = some (.int .i64 r.rep)) := Lib.hid (fun W h => HY.out W (HBK.out W h))
      have HPQ := Lib.hid hA.out.ok
      have HLE : Hid (ms.length ≤ 30) := Lib.hid (by have := hEs.out; omega)
      have HL100 : Hid (ms.length ≤ 100) := Lib.hid (by have := hEs.out; omega)
      by_cases hlt : k < m
      · obtain ⟨g, o, x, rfl, cx0⟩ := HXS.out wr HBR.out k (by omega)
        by_cases hxe : x = -1
        · have hxt : (x == -1) = true := by simpa using hxe
          clear hxe
          by_cases he : ms = []
          · have HU := Lib.hid (hA.out.backNone he)
            clear he
            go_wp2_with fail
            go_at_call 10; refine HU.out.mono ?_; rintro e w13 ⟨rfl, hb⟩
            have HA13 := Lib.hid (HAK.out _ hb)
            have HE13 : Hid (ms.length ≤ k + 1) := Lib.hid (by have := hEs.out; omega)
            clear hb HU hA hEs
            go_wp2_with fail
            go_roundw
            case rel => exact ⟨k + 1, q, es, ms, by omega, by go_num, HA13, HE13⟩
            case measure => simp [intOf]; omega
          · obtain ⟨ns, m0, hns⟩ := last_ofM he
            obtain ⟨p', fs, _, hbk⟩ := hA.out.back hns HL100.out
            have HU := Lib.hid (hbk _ (Below.refl _ _))
            have HE13 : Hid (ns.length ≤ k + 1) := Lib.hid (by have h := hEs.out; rw [hns] at h; simp at h; omega)
            clear he hbk hns
            go_wp2_with fail
            go_at_call 10; refine HU.out.mono ?_; rintro e w13 ⟨rfl, hga⟩
            have HA13 := Lib.hid hga
            clear hga HU hA hEs
            go_wp2_with fail
            go_roundw
            case rel => exact ⟨k + 1, p', fs, ns, by omega, by go_num, HA13, HE13⟩
            case measure => simp [intOf]; omega
        · have hxt : (x == -1) = false := by simpa using hxe
          obtain ⟨L, hL⟩ : ∃ L, L = allD r q := ⟨_, rfl⟩
          have HLQ : Hid (∀ W a1 a2 a3, Below wr.heap.size wr W → PlaceIn W q a1 a2 a3 → Calls Tryz.prog 11 #[RulesV r vp vs ve, PlaceV q a1 a2 a3] W (ListPost L W)) := Lib.hid (fun W a1 a2 a3 h h2 => by rw [hL]; exact all_ok r q vp vs ve a1 a2 a3 W (HIR.out W (HBK.out W h)) h2 HPQ.out)
          have HLL := Lib.hid hL
          have HLN : Hid (L.length ≤ 5000) := Lib.hid (by rw [hL]; exact allD_length HPQ.out)
          have HPP : Hid (∀ W, Below wr.heap.size wr W → Calls Tryz.prog 12 #[.pointer (some ⟨bb, 0, none⟩)] W (PosPost q W)) := Lib.hid (fun W h => (HAK.out W h).position)
          unfold RulesV PlaceV PlaceCells at HLQ
          obtain ⟨y0, y1, y2, y3, y4, y5, y6, y7, y8, y9, y10⟩ := HYK.out wr (Below.refl _ _)
          clear hxe hL hA
          go_wp2_with fail
          have hBc : Below wr.heap.size wr wr.drew := (Below.refl _ _).drew
          go_region_held3 (fun w' => w'.cell? ⟨w.heap.size, 0, none⟩ = some (.string r.name) ∧ w'.cell? ⟨w.heap.size, 1, none⟩ = some (.int .i64 r.width) ∧ w'.cell? ⟨w.heap.size, 2, none⟩ = some (.int .i64 r.height) ∧ w'.cell? ⟨w.heap.size, 3, none⟩ = some vp ∧ w'.cell? ⟨w.heap.size, 4, none⟩ = some vs ∧ w'.cell? ⟨w.heap.size, 5, none⟩ = some (.bool r.falls) ∧ w'.cell? ⟨w.heap.size, 6, none⟩ = some (.bool r.keeps) ∧ w'.cell? ⟨w.heap.size, 7, none⟩ = some ve ∧ w'.cell? ⟨w.heap.size, 8, none⟩ = some (.int .i64 r.blocked) ∧ w'.cell? ⟨w.heap.size, 9, none⟩ = some (.int .i64 r.quiet) ∧ w'.cell? ⟨w.heap.size, 10, none⟩ = some (.int .i64 r.rep)) (with_reducible exact HYK.out _ hBc) (first
            | (go_at_call 12; refine (HPP.out _ hBc).mono ?_; rintro e w7p ⟨ca, cn, cc, a0, n0, c0, a1, n1, c1, rfl, hpf, hb⟩; have hB5 : Below wr.heap.size wr w7p := hBc.trans (hb.mono hBc.size); have hBc := hB5; have HPI := Lib.hid hpf.plain; clear hb hpf)
            | (go_at_call 11; refine (HLQ.out _ _ _ _ hBc (by first | exact HPI.out | exact HPI.out.below (Below.refl _ _).drew (Nat.le_refl _))).mono ?_; rintro e w7 ⟨la, ln, lc, rfl, hI, hln, hb⟩; have hB5 : Below wr.heap.size wr w7 := hBc.trans (hb.mono hBc.size); have hBc := hB5; have HI7 := Lib.hid hI; have HLN7 := Lib.hid hln; clear hI hln; clear HPI hb))
          have HB7 := Lib.hid hB5
          clear hB5 hBc y0 y1 y2 y3 y4 y5 y6 y7 y8 y9 y10 cx0
          have HA7 := Lib.hid (HAK.out _ HB7.out)
          by_cases hl0 : ln = 0
          · subst hl0
            have HOV : Hid (resG r q es ≠ 0) := Lib.hid (resG_over (fun h => result_open HPQ.out h (List.eq_nil_of_length_eq_zero (by rw [← HLL.out, ← HLN7.out]))))
            have HP := Lib.hid (HA7.out.over HL100.out HOV.out (0, 0, 0))
            unfold moveV at HP
            clear HOV
            go_wp2_with fail
            go_at_call 14; refine HP.out.mono ?_; rintro e w13 ⟨rfl, hb⟩
            have HA13 := Lib.hid (HA7.out.keep hb)
            have HE13 : Hid (ms.length ≤ k + 1) := Lib.hid (by have := hEs.out; omega)
            clear hb HP HA7
            go_wp2_with fail
            go_roundw
            case rel => exact ⟨k + 1, q, es, ms, by omega, by go_num, HA13, HE13⟩
            case measure => simp [intOf]; omega
          · have hne : ((ln : Int) == 0) = false := by simp; omega
            have h1 : 1 ≤ ln := by omega
            have h5 : ln ≤ 5000 := by rw [HLN7.out]; exact HLN.out
            obtain ⟨X, hX⟩ : ∃ X, X = resG r q es := ⟨_, rfl⟩
            have HRS := Lib.hid (HA7.out.result HL100.out)
            rw [← hX] at HRS
            have HX := Lib.hid hX
            clear hl0 hX
            go_wp2_with fail
            go_at_call 13; refine HRS.out.mono ?_; rintro e w8 ⟨rfl, hb⟩
            have HA8 := Lib.hid (HA7.out.keep hb)
            have HI8 := Lib.hid (HI7.out.below move_keeps hb (Nat.le_refl _))
            clear hb HRS HA7 HI7
            by_cases hres : X = 0
            · have HRES : Hid (resG r q es = 0) := Lib.hid (by rw [← HX.out]; exact hres)
              subst hres
              have HSM := Lib.hid (someM_any L la ln lc x w8 HI8.out HLN7.out h1 h5)
              go_wp2_with fail
              go_at_call 15; refine HSM.out.mono ?_; rintro e w9 ⟨m1, m2, m3, hm, rfl, hb⟩
              have HP := Lib.hid ((HA8.out.keep hb).play HL100.out HRES.out (m1, m2, m3) (legalB_all.2 (by rw [← HLL.out]; exact hm)))
              unfold moveV at HP
              clear hm hb HSM HA8 HI8
              go_wp2_with fail
              go_at_call 14; refine HP.out.mono ?_; rintro e w10 ⟨rfl, hga⟩
              have HA13 := Lib.hid hga
              have HE13 : Hid ((ms ++ [(m1, m2, m3)]).length ≤ k + 1) := Lib.hid (by have := hEs.out; simp; omega)
              clear hga HP
              go_wp2_with fail
              go_roundw
              case rel => exact ⟨k + 1, _, _, _, by omega, by go_num, HA13, HE13⟩
              case measure => simp [intOf]; omega
            · have hxb : (X != 0) = true := by simpa using hres
              have HP := Lib.hid (HA8.out.over HL100.out (by rw [← HX.out]; exact hres) (0, 0, 0))
              unfold moveV at HP
              clear hres
              go_wp2_with fail
              go_at_call 14; refine HP.out.mono ?_; rintro e w13 ⟨rfl, hb⟩
              have HA13 := Lib.hid (HA8.out.keep hb)
              have HE13 : Hid (ms.length ≤ k + 1) := Lib.hid (by have := hEs.out; omega)
              clear hb HP HA8 HI8
              go_wp2_with fail
              go_roundw
              case rel => exact ⟨k + 1, q, es, ms, by omega, by go_num, HA13, HE13⟩
              case measure => simp [intOf]; omega
      · have HCH := Lib.hid hA.out.chain
        obtain ⟨X, hX⟩ : ∃ X, X = resG r q es := ⟨_, rfl⟩
        have hXX : (X == X) = true := by simp
        have HRN : Hid (∀ W lv, Below wr.heap.size wr W → IsSl MoveAt 3 W lv ms → Calls Tryz.prog 16 #[RulesV r vp vs ve, lv] W (RunOk q X W)) := Lib.hid (fun W lv h h2 => by rw [hX]; exact run_again HCH.out vp vs ve lv W (HIR.out W (HBK.out W h)) HRZ.out (HT.out W (HBK.out W h)) h2 (by have := HLE.out; omega))
        have HMV : Hid (∀ W, Below wr.heap.size wr W → Calls Tryz.prog 17 #[.pointer (some ⟨bb, 0, none⟩)] W (GMoves ms W)) := Lib.hid (fun W h => (HAK.out W h).moves HL100.out)
        have HRS : Hid (∀ W, Below wr.heap.size wr W → Calls Tryz.prog 13 #[.pointer (some ⟨bb, 0, none⟩)] W (BelPost (.int .i64 X) W)) := Lib.hid (fun W h => by rw [hX]; exact (HAK.out W h).result HL100.out)
        have HPP : Hid (∀ W, Below wr.heap.size wr W → Calls Tryz.prog 12 #[.pointer (some ⟨bb, 0, none⟩)] W (PosPost q W)) := Lib.hid (fun W h => (HAK.out W h).position)
        have HSM : Hid (∀ W a1 a2 a3 b1 b2 b3, PlaceIn W q a1 a2 a3 → PlaceIn W q b1 b2 b3 → Calls Tryz.prog 18 #[PlaceV q a1 a2 a3, PlaceV q b1 b2 b3] W (BelPost (.bool true) W)) := Lib.hid (fun W a1 a2 a3 b1 b2 b3 h h2 => same_eq q _ _ _ _ _ _ W h h2 HPQ.out.short)
        unfold RulesV at HRN
        unfold PlaceV PlaceCells at HSM
        obtain ⟨y0, y1, y2, y3, y4, y5, y6, y7, y8, y9, y10⟩ := HYK.out wr (Below.refl _ _)
        clear hX hA
        go_wp2_with fail
        have hBc : Below wr.heap.size wr wr.drew := (Below.refl _ _).drew
        have hBd : ∀ o, Below wr.heap.size wr (wr.alloc o) := fun o => (Below.refl _ _).alloc (Nat.le_refl _) _
        have hBe : ∀ o, Below wr.heap.size wr (wr.alloc o).drew := fun o => (hBd o).drew
        have hBf : ∀ o, Below wr.heap.size wr (wr.drew.alloc o) := fun o => hBc.alloc hBc.size _
        go_region_held3 (fun w' => w'.cell? ⟨w.heap.size, 0, none⟩ = some (.string r.name) ∧ w'.cell? ⟨w.heap.size, 1, none⟩ = some (.int .i64 r.width) ∧ w'.cell? ⟨w.heap.size, 2, none⟩ = some (.int .i64 r.height) ∧ w'.cell? ⟨w.heap.size, 3, none⟩ = some vp ∧ w'.cell? ⟨w.heap.size, 4, none⟩ = some vs ∧ w'.cell? ⟨w.heap.size, 5, none⟩ = some (.bool r.falls) ∧ w'.cell? ⟨w.heap.size, 6, none⟩ = some (.bool r.keeps) ∧ w'.cell? ⟨w.heap.size, 7, none⟩ = some ve ∧ w'.cell? ⟨w.heap.size, 8, none⟩ = some (.int .i64 r.blocked) ∧ w'.cell? ⟨w.heap.size, 9, none⟩ = some (.int .i64 r.quiet) ∧ w'.cell? ⟨w.heap.size, 10, none⟩ = some (.int .i64 r.rep)) (first | with_reducible exact HYK.out _ hBc | with_reducible exact HYK.out _ (hBe _) | with_reducible exact HYK.out _ (hBf _) | with_reducible exact HYK.out _ (hBd _) | with_reducible exact HYK.out _ (hBc.alloc hBc.size _) | with_reducible exact HYK.out _ (hBs _ _ _ _ _)) (first
          | (go_at_call 17; refine (HMV.out _ (by first | exact hBc | exact hBe _ | exact hBf _ | exact hBd _)).mono ?_; rintro e w5 ⟨ma, mn, mk, rfl, hI, -, hb⟩; have hB5 : Below wr.heap.size wr w5 := (by first | exact hBc.trans (hb.mono hBc.size) | exact (hBe _).trans (hb.mono (hBe _).size) | exact (hBf _).trans (hb.mono (hBf _).size) | exact (hBd _).trans (hb.mono (hBd _).size)); (first | (have hzA : PBox w5 wr.heap.size 38 zeroP (.slice none 0 0) (.slice none 0 0) (.slice none 0 0) := hA_dr hb) | (have hzA : PBox w5 wr.heap.size 38 zeroP (.slice none 0 0) (.slice none 0 0) (.slice none 0 0) := hA_of hb) | skip); have HI5 := Lib.hid hI; have hBc := hB5; have hBd : ∀ o, Below wr.heap.size wr (w5.alloc o) := (fun o => hB5.alloc hB5.size _); clear hb hI)
          | (go_at_call 16; refine (HRN.out _ _ (by first | exact hBc | exact hBd _) (by first | exact HI5.out | exact HI5.out.below move_keeps ((Below.refl _ _).alloc (Nat.le_refl _) _) (Nat.le_refl _))).mono ?_; rintro e w9 ⟨ca, cn, cc, a0, n0, c0, a1, n1, c1, rfl, hpf, hb⟩; have hB9 : Below wr.heap.size wr w9 := (by first | exact hBc.trans (hb.mono hBc.size) | exact (hBd _).trans (hb.mono (hBd _).size)); have hBc := hB9; first
            | (have hzF : PBox w9 wr.heap.size 38 zeroP (.slice none 0 0) (.slice none 0 0) (.slice none 0 0) := hzA.below hb hzA.lt; have hpf9 : PlaceF (fun k => wr.heap.size < k) w9 q (.slice ca cn cc) (.slice a0 n0 c0) (.slice a1 n1 c1) := hpf.on (fun _ _ _ => rfl) (fun k hk => Nat.lt_of_lt_of_le hzA.lt hk); clear hzA; have hBs : ∀ a b c d e, Below wr.heap.size wr (((((w9.setCell ⟨wr.heap.size, 0, none⟩ a).setCell ⟨wr.heap.size, 1, none⟩ b).setCell ⟨wr.heap.size, 2, none⟩ c).setCell ⟨wr.heap.size, 3, none⟩ d).setCell ⟨wr.heap.size, 4, none⟩ e) := (fun a b c d e => ((((hB9.setCell (Nat.le_refl _) a).setCell (Nat.le_refl _) b).setCell (Nat.le_refl _) c).setCell (Nat.le_refl _) d).setCell (Nat.le_refl _) e); obtain ⟨⟨k0, k1, k2, k3, k4⟩, l0, l1, l2, l3, l4⟩ := hzF.facts; unfold zeroP at k3 k4)
            | (have hzF : PBox w9 w5.heap.size 38 zeroP (.slice none 0 0) (.slice none 0 0) (.slice none 0 0) := hA_of hb; have hpf9 : PlaceF (fun k => w5.heap.size < k) w9 q (.slice ca cn cc) (.slice a0 n0 c0) (.slice a1 n1 c1) := hpf.on (fun _ _ _ => rfl) (fun k hk => Nat.lt_of_lt_of_le (show w5.heap.size < (w5.alloc _).heap.size by simp) hk); have hBs : ∀ a b c d e, Below wr.heap.size wr (((((w9.setCell ⟨w5.heap.size, 0, none⟩ a).setCell ⟨w5.heap.size, 1, none⟩ b).setCell ⟨w5.heap.size, 2, none⟩ c).setCell ⟨w5.heap.size, 3, none⟩ d).setCell ⟨w5.heap.size, 4, none⟩ e) := (fun a b c d e => ((((hB9.setCell (hB5.size) a).setCell (hB5.size) b).setCell (hB5.size) c).setCell (hB5.size) d).setCell (hB5.size) e); obtain ⟨⟨k0, k1, k2, k3, k4⟩, l0, l1, l2, l3, l4⟩ := hzF.facts; unfold zeroP at k3 k4)
            | (have hpf9 : PlaceF (fun k => w5.heap.size ≤ k) w9 q (.slice ca cn cc) (.slice a0 n0 c0) (.slice a1 n1 c1) := hpf.on (fun _ _ _ => rfl) (fun k hk => hk)); clear hpf hb))
        all_goals
          first
          | (have tk : PBox w9 wr.heap.size 38 zeroP (.slice none 0 0) (.slice none 0 0) (.slice none 0 0) := hzF
             clear tk
             have hP : BEnd wr (((((w9.setCell ⟨wr.heap.size, 0, none⟩ (.slice ca cn cc)).setCell ⟨wr.heap.size, 1, none⟩ (.slice a0 n0 c0)).setCell ⟨wr.heap.size, 2, none⟩ (.slice a1 n1 c1)).setCell ⟨wr.heap.size, 3, none⟩ (.int .i64 q.turn)).setCell ⟨wr.heap.size, 4, none⟩ (.int .i64 q.quiet)) (wr.heap.size) q (.slice ca cn cc) (.slice a0 n0 c0) (.slice a1 n1 c1) := bendB hB9 (Nat.le_refl _) hzF hpf9
             generalize ((((w9.setCell ⟨wr.heap.size, 0, none⟩ (.slice ca cn cc)).setCell ⟨wr.heap.size, 1, none⟩ (.slice a0 n0 c0)).setCell ⟨wr.heap.size, 2, none⟩ (.slice a1 n1 c1)).setCell ⟨wr.heap.size, 3, none⟩ (.int .i64 q.turn)).setCell ⟨wr.heap.size, 4, none⟩ (.int .i64 q.quiet) = wf at hP ⊢
             obtain ⟨pb, hpb⟩ : ∃ pb, pb = wr.heap.size := ⟨_, rfl⟩
             rw [← hpb] at hP ⊢
             clear hpb)
          | (have tk : PBox w9 w5.heap.size 38 zeroP (.slice none 0 0) (.slice none 0 0) (.slice none 0 0) := hzF
             clear tk
             have hP : BEnd wr (((((w9.setCell ⟨w5.heap.size, 0, none⟩ (.slice ca cn cc)).setCell ⟨w5.heap.size, 1, none⟩ (.slice a0 n0 c0)).setCell ⟨w5.heap.size, 2, none⟩ (.slice a1 n1 c1)).setCell ⟨w5.heap.size, 3, none⟩ (.int .i64 q.turn)).setCell ⟨w5.heap.size, 4, none⟩ (.int .i64 q.quiet)) (w5.heap.size) q (.slice ca cn cc) (.slice a0 n0 c0) (.slice a1 n1 c1) := bendB hB9 (hB5.size) hzF hpf9
             generalize ((((w9.setCell ⟨w5.heap.size, 0, none⟩ (.slice ca cn cc)).setCell ⟨w5.heap.size, 1, none⟩ (.slice a0 n0 c0)).setCell ⟨w5.heap.size, 2, none⟩ (.slice a1 n1 c1)).setCell ⟨w5.heap.size, 3, none⟩ (.int .i64 q.turn)).setCell ⟨w5.heap.size, 4, none⟩ (.int .i64 q.quiet) = wf at hP ⊢
             obtain ⟨pb, hpb⟩ : ∃ pb, pb = w5.heap.size := ⟨_, rfl⟩
             rw [← hpb] at hP ⊢
             clear hpb)
          | (have hP : BEnd wr (w9.alloc (.cells #[.slice ca cn cc, .slice a0 n0 c0, .slice a1 n1 c1, .int .i64 q.turn, .int .i64 q.quiet] 38)) w9.heap.size q (.slice ca cn cc) (.slice a0 n0 c0) (.slice a1 n1 c1) := bendA hB9 hpf9
             generalize w9.alloc (.cells #[.slice ca cn cc, .slice a0 n0 c0, .slice a1 n1 c1, .int .i64 q.turn, .int .i64 q.quiet] 38) = wf at hP ⊢
             generalize w9.heap.size = pb at hP ⊢)
        all_goals
          have HP := Lib.hid hP
          have HS2 : Hid (∀ W', Below wf.heap.size wf W' → W'.cell? ⟨pb, 0, none⟩ = some (.slice ca cn cc) ∧ W'.cell? ⟨pb, 1, none⟩ = some (.slice a0 n0 c0) ∧ W'.cell? ⟨pb, 2, none⟩ = some (.slice a1 n1 c1) ∧ W'.cell? ⟨pb, 3, none⟩ = some (.int .i64 q.turn) ∧ W'.cell? ⟨pb, 4, none⟩ = some (.int .i64 q.quiet)) := Lib.hid (fun W' hb => by
            obtain ⟨⟨e0, e1, e2, e3, e4⟩, -⟩ := (HP.out.box.below hb HP.out.box.lt).facts
            exact ⟨e0, e1, e2, e3, e4⟩)
          have HRS2 : Hid (∀ W, Below wf.heap.size wf W → Calls Tryz.prog 13 #[.pointer (some ⟨bb, 0, none⟩)] W (BelPost (.int .i64 X) W)) := Lib.hid (fun W h => HRS.out W (HP.out.bel.trans (h.mono HP.out.bel.size)))
          have HPP2 : Hid (∀ W, Below wf.heap.size wf W → Calls Tryz.prog 12 #[.pointer (some ⟨bb, 0, none⟩)] W (PosPost q W)) := Lib.hid (fun W h => HPP.out W (HP.out.bel.trans (h.mono HP.out.bel.size)))
          have HPI := Lib.hid (fun W (h : Below wf.heap.size wf W) => HP.out.pl.below h (Nat.le_refl _))
          clear hP
          obtain ⟨e0, e1, e2, e3, e4⟩ := HS2.out wf (Below.refl _ _)
          clear y0 y1 y2 y3 y4 y5 y6 y7 y8 y9 y10
          go_wp2_with fail
          have hBc : Below wf.heap.size wf wf.drew := (Below.refl _ _).drew
          go_region_held3 (fun w' => w'.cell? ⟨pb, 0, none⟩ = some (.slice ca cn cc) ∧ w'.cell? ⟨pb, 1, none⟩ = some (.slice a0 n0 c0) ∧ w'.cell? ⟨pb, 2, none⟩ = some (.slice a1 n1 c1) ∧ w'.cell? ⟨pb, 3, none⟩ = some (.int .i64 q.turn) ∧ w'.cell? ⟨pb, 4, none⟩ = some (.int .i64 q.quiet)) (with_reducible exact HS2.out _ hBc) (first
            | (go_at_call 13; refine (HRS2.out _ hBc).mono ?_; rintro e w10 ⟨rfl, hb⟩; have hB5 : Below wf.heap.size wf w10 := hBc.trans (hb.mono hBc.size); have hBc := hB5; clear hb)
            | (go_at_call 12; refine (HPP2.out _ hBc).mono ?_; rintro e w11 ⟨ta, tn, tc, t0, tn0, tc0, t1, tn1, tc1, rfl, hpf, hb⟩; have hB5 : Below wf.heap.size wf w11 := hBc.trans (hb.mono hBc.size); have hBc := hB5; have HPJ := Lib.hid hpf.plain; clear hb hpf)
            | (go_at_call 18; refine (HSM.out _ _ _ _ _ _ _ (HPI.out _ hBc) (by first | exact HPJ.out | exact HPJ.out.below (Below.refl _ _).drew (Nat.le_refl _))).mono ?_; rintro e w12 ⟨rfl, hb⟩; have hB5 : Below wf.heap.size wf w12 := hBc.trans (hb.mono hBc.size); have hBc := hB5; clear hb))
          have hb1 := HP.out.bel.trans (hBc.mono HP.out.bel.size)
          have HBE := Lib.hid (HB.out.trans ((HBR.out.trans (hb1.mono HBR.out.size)).mono HB.out.size))
          clear hBc hB5 hb1
          go_wp2_with fail
          go_ret
          exact ⟨rfl, HBE.out⟩
  · have HNB1 := Lib.hid (HNB.out hz)
    have hne := bool_of_ne hz
    clear HNG HNB HOK hz
    go_at_call 9; refine (HNB1.out _ HB3.out).mono ?_; rintro e w4 ⟨rfl, hb⟩
    have HBE := Lib.hid (HB.out.trans ((HB3.out.trans (hb.mono HB3.out.size)).mono HB.out.size))
    clear hb HB3 HNB1 y0 y1 y2 y3 y4 y5 y6 y7 y8 y9 y10
    go_wp2_with fail
    go_ret
    exact ⟨rfl, HBE.out⟩
end Go.Proofs.YtkficjpnflnjhaaGreatDoor
