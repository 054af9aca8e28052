/- The law TopText: a game by rules that were printed and parsed. (Written by genlawtt.py.) -/
import Derived.Test.YtomclohfppbegaaGreatDoorPldT
import Derived.Test.YtomclohfppbegaaGreatDoorTwo
import Derived.Test.YtomclohfppbegaaGreatDoorSomeM
import Derived.Test.YtomclohfppbegaaGreatDoorEqMv
import Derived.Test.YtomclohfppbegaaGreatDoorRBk
import Derived.Test.YtomclohfppbegaaGreatDoorEndC
set_option maxRecDepth 100000
namespace Go.Proofs.YtomclohfppbegaaGreatDoor
open Go.ChangeShapes Go.WideShapes Go.ChangeAt Go.RowKit

/-- The three in a row, read from its text. -/
def Read3 (w : World) (e : Ending) (w' : World) : Prop := ∃ pa pn pc sa sn sc ea en ec, e = .returned (.tuple #[.agg #[.string ⟨#[84, 73, 67]⟩, .int .i64 3, .int .i64 3, .slice pa pn pc, .slice sa sn sc, .bool false, .bool false, .slice ea en ec, .int .i64 2, .int .i64 0, .int .i64 0], .int .i64 0]) ∧ Below w.heap.size w w'
theorem read3_of (w : World) (hE : Env w.heap.size w) : Calls Tryz.prog 6 #[.string (str (textB three9))] w (Read3 w) :=
  (parse_text_of three9 rules9 w hE).mono fun _ _ ⟨pa, pn, pc, sa, sn, sc, ea, en, ec, h1, _, h2⟩ => ⟨pa, pn, pc, sa, sn, sc, ea, en, ec, h1, h2⟩
set_option maxHeartbeats 8000000 in
theorem topText_full (r : RulesD) (vp vs ve : Value) (xs : List Int) (xv : Value) (w : World) (hr : RulesIn w r vp vs ve) (hx : IsSl IntAt 1 w xv xs) (hE : Env w.heap.size w) (hT : Dir w) :
    Calls Tryz.prog 3 #[RulesV r vp vs ve, xv] w fun e w' => e = .returned (.bool true) ∧ Below w.heap.size w w' := by
  obtain ⟨V, hV⟩ : ∃ V, V = w.alloc (.cells (RulesCells r vp vs ve) 26) := ⟨_, rfl⟩
  have hB : Below w.heap.size w V := by rw [hV]; exact (Below.refl _ _).alloc (Nat.le_refl _) _
  have hY : BoxR V w.heap.size r vp vs ve := by rw [hV]; exact boxR_new w r vp vs ve 26
  have HB := Lib.hid hB
  have HIR : Hid (∀ W, Below V.heap.size V W → RulesIn W r vp vs ve) := Lib.hid (fun W h => (hr.below hB (Nat.le_refl _)).below h (Nat.le_refl _))
  have HT : Hid (∀ W, Below V.heap.size V W → Dir W) := Lib.hid (fun W h => (hT.below hB (Nat.le_refl _)).below h (Nat.le_refl _))
  have HEV : Hid (∀ W, Below V.heap.size V W → Env W.heap.size W) := Lib.hid (fun W h => hE.up (hB.trans (h.mono hB.size)) (Nat.le_trans hB.size h.size))
  have HY : Hid (∀ W, Below V.heap.size V W → BoxR W w.heap.size r vp vs ve) := Lib.hid (fun W hb => hY.below hb (Nat.le_refl _))
  obtain ⟨xa, xn, xc, rfl, hxn, hxc, hxs⟩ := sl_parts hx
  have HXS : Hid (∀ W, Below V.heap.size V W → ∀ k, k < xn → ∃ g o x, xa = some ⟨g, o, none⟩ ∧ W.cell? ⟨g, o + k, none⟩ = some (.int .i64 x)) := Lib.hid (fun W h k hk => by
    obtain ⟨g, o, x, e1, _, e3⟩ := hxs W (hB.trans (h.mono hB.size)) k hk
    exact ⟨g, o, x, e1, e3⟩)
  have hxm : xn ≤ maxLen := by rw [hxn]; exact hx.fit
  unfold maxLen at hxm
  obtain ⟨T3, hT3⟩ : ∃ T, T = str (textB three9) := ⟨_, rfl⟩
  have HP3 : Hid (∀ vp vs ve W, RulesIn W three9 vp vs ve → Env W.heap.size W → Calls Tryz.prog 4 #[RulesV three9 vp vs ve] W (TextP T3 0 W)) := Lib.hid (fun vp vs ve W h t => by rw [hT3]; exact print_k three9 rules9 vp vs ve W h t)
  have HR3 : Hid (∀ W, Env W.heap.size W → Calls Tryz.prog 6 #[.string T3] W (Read3 W)) := Lib.hid (fun W t => by rw [hT3]; exact read3_of W t)
  obtain ⟨c, hc⟩ : ∃ c, c = rulesE r := ⟨_, rfl⟩
  obtain ⟨T, hTT⟩ : ∃ T, T = str (textB r) := ⟨_, rfl⟩
  have HOK : Hid (c = 0 → rulesE r = 0) := Lib.hid (fun h => by rw [← hc]; exact h)
  have HPB : Hid (c ≠ 0 → ∀ W, Below V.heap.size V W → Calls Tryz.prog 4 #[RulesV r vp vs ve] W (TextP ⟨#[]⟩ c W)) := Lib.hid (fun hz W h => by rw [hc]; exact print_bad r vp vs ve W (HIR.out W h) (by rw [← hc]; exact hz))
  have HPG : Hid (c = 0 → ∀ W, Below V.heap.size V W → Calls Tryz.prog 4 #[RulesV r vp vs ve] W (TextP T 0 W)) := Lib.hid (fun hz W h => by rw [hTT]; exact print_k r (by rw [← hc]; exact hz) vp vs ve W (HIR.out W h) (HEV.out W h))
  have HPR : Hid (c = 0 → ∀ W, Below V.heap.size V W → Calls Tryz.prog 6 #[.string T] W (ReadP r W)) := Lib.hid (fun hz W h => by rw [hTT]; exact parse_text_of r (by rw [← hc]; exact hz) W (HEV.out W h))
  have hV' := hV
  unfold RulesCells at hV'
  unfold RulesV at HPB HPG
  unfold RulesV
  clear hr hc hB hY hT hE hxn hxs hx hV hT3 hTT
  go_enter Tryz.func3, Tryz.ntmps3
  go_wp2_with fail
  rw [← hV']
  clear hV'
  go_at_call 5; refine (three_top _).mono ?_; rintro e w1 ⟨p3, s3, e3, rfl, hr3, hb⟩
  have HB1 := Lib.hid hb
  have HI1 := Lib.hid hr3
  clear hb hr3
  go_wp2_with fail
  go_at_call 4; refine (HP3.out p3 s3 e3 _ HI1.out (HEV.out _ HB1.out)).mono ?_; rintro e w2 ⟨rfl, hb⟩
  have HB2 := Lib.hid (HB1.out.trans (hb.mono HB1.out.size))
  clear hb HB1 HI1 HP3
  go_wp2_with fail
  go_at_call 6; refine (HR3.out _ (HEV.out _ HB2.out)).mono ?_; rintro e w3 ⟨pa3, pn3, pc3, sa3, sn3, sc3, ea3, en3, ec3, rfl, hb⟩
  have hb3 := HB2.out.trans (hb.mono HB2.out.size)
  have hal := (Below.refl w3.heap.size w3).alloc (Nat.le_refl _) (.cells #[.string ⟨#[84, 73, 67]⟩, .int .i64 3, .int .i64 3, .slice pa3 pn3 pc3, .slice sa3 sn3 sc3, .bool false, .bool false, .slice ea3 en3 ec3, .int .i64 2, .int .i64 0, .int .i64 0] 26)
  have hn3 := cell_of_row _ w3.heap.size 0 _ _ (0, 0) (heap_alloc_new w3 (.cells #[.string ⟨#[84, 73, 67]⟩, .int .i64 3, .int .i64 3, .slice pa3 pn3 pc3, .slice sa3 sn3 sc3, .bool false, .bool false, .slice ea3 en3 ec3, .int .i64 2, .int .i64 0, .int .i64 0] 26))
  have HB4 := Lib.hid (hb3.trans (hal.mono hb3.size))
  have HN4 : Hid (∀ W, Below (w3.alloc (.cells #[.string ⟨#[84, 73, 67]⟩, .int .i64 3, .int .i64 3, .slice pa3 pn3 pc3, .slice sa3 sn3 sc3, .bool false, .bool false, .slice ea3 en3 ec3, .int .i64 2, .int .i64 0, .int .i64 0] 26)).heap.size (w3.alloc (.cells #[.string ⟨#[84, 73, 67]⟩, .int .i64 3, .int .i64 3, .slice pa3 pn3 pc3, .slice sa3 sn3 sc3, .bool false, .bool false, .slice ea3 en3 ec3, .int .i64 2, .int .i64 0, .int .i64 0] 26)) W → W.cell? ⟨w3.heap.size, 0, none⟩ = some (.string ⟨#[84, 73, 67]⟩)) := Lib.hid (fun W h => (h.cell (p := ⟨w3.heap.size, 0, none⟩) (by simp)).trans hn3)
  clear hb hb3 hal hn3 HB2 HR3
  go_wp2_with fail
  go_at_call 7; refine (fine2T _ _ (by simp)).mono ?_; rintro e w5 ⟨rfl, hb⟩
  have hn5 := HN4.out _ hb
  have HB5 := Lib.hid (HB4.out.trans (hb.mono HB4.out.size))
  clear hb HB4 HN4
  go_wp2_with fail
  clear hn5
  go_at_call 8; refine (bplayed_any _ (HT.out _ HB5.out)).mono ?_; rintro e w6 ⟨rfl, hb⟩
  have hb6 := HB5.out.trans (hb.mono HB5.out.size)
  have HB6 := Lib.hid hb6
  obtain ⟨y0, y1, y2, y3, y4, y5, y6, y7, y8, y9, y10⟩ := HY.out _ hb6
  clear hb hb6 HB5
  go_wp2_with fail
  by_cases hz : c = 0
  · have HPG1 := Lib.hid (HPG.out hz)
    have HPR1 := Lib.hid (HPR.out hz)
    have HRZ := Lib.hid (HOK.out hz)
    subst hz
    clear HPG HPR HPB HOK
    go_at_call 4; refine (HPG1.out _ HB6.out).mono ?_; rintro e w7 ⟨rfl, hb⟩
    have HB7 := Lib.hid (HB6.out.trans (hb.mono HB6.out.size))
    clear hb y0 y1 y2 y3 y4 y5 y6 y7 y8 y9 y10 HB6 HPG1
    go_wp2_with fail
    go_at_call 6; refine (HPR1.out _ HB7.out).mono ?_; rintro e w8 ⟨pa, pn, pc, sa, sn, sc, ea, en, ec, rfl, hr8, hb⟩
    obtain ⟨U, hU⟩ : ∃ U, U = w8.alloc (.cells (RulesCells r (.slice pa pn pc) (.slice sa sn sc) (.slice ea en ec)) 26) := ⟨_, rfl⟩
    have hb8 := HB7.out.trans (hb.mono HB7.out.size)
    have hal : Below w8.heap.size w8 U := by rw [hU]; exact (Below.refl _ _).alloc (Nat.le_refl _) _
    have hbU := hb8.trans (hal.mono hb8.size)
    have hYT : BoxR U w8.heap.size r (.slice pa pn pc) (.slice sa sn sc) (.slice ea en ec) := by rw [hU]; exact boxR_new w8 r _ _ _ 26
    have HBU := Lib.hid hbU
    have HIT : Hid (∀ W, Below U.heap.size U W → RulesIn W r (.slice pa pn pc) (.slice sa sn sc) (.slice ea en ec)) := Lib.hid (fun W h => (hr8.below hal (Nat.le_refl _)).below h (Nat.le_refl _))
    have HYT : Hid (∀ W, Below U.heap.size U W → BoxR W w8.heap.size r (.slice pa pn pc) (.slice sa sn sc) (.slice ea en ec)) := Lib.hid (fun W hb => hYT.below hb (Nat.le_refl _))
    have HN1 := Lib.hid (new_one r vp vs ve U (HIR.out _ hbU) HRZ.out (HT.out _ hbU))
    obtain ⟨y0, y1, y2, y3, y4, y5, y6, y7, y8, y9, y10⟩ := HY.out _ hbU
    unfold RulesCells at hU
    unfold RulesV at HN1
    rw [hU] at y0 y1 y2 y3 y4 y5 y6 y7 y8 y9 y10
    clear hb hr8 hb8 hal hbU hYT HB7 HPR1
    go_wp2_with fail
    rw [← hU]
    clear hU y0 y1 y2 y3 y4 y5 y6 y7 y8 y9 y10
    go_at_call 9; refine HN1.out.mono ?_; rintro e w10 ⟨bb, rfl, h1⟩
    have HN2 := Lib.hid (new_two r (.slice pa pn pc) (.slice sa sn sc) (.slice ea en ec) U w10 bb (HIT.out _ (Below.refl _ _)) HRZ.out (HT.out _ HBU.out) h1)
    unfold RulesV at HN2
    obtain ⟨z0, z1, z2, z3, z4, z5, z6, z7, z8, z9, z10⟩ := HYT.out _ h1.2
    clear h1 HN1
    generalize w8.heap.size = tb at HYT z0 z1 z2 z3 z4 z5 z6 z7 z8 z9 z10 ⊢
    go_wp2_with fail
    clear z0 z1 z2 z3 z4 z5 z6 z7 z8 z9 z10
    generalize w10.heap.size = g1 at HN2
    go_at_call 9; refine HN2.out.mono ?_; rintro e w11 ⟨hh, rfl, hga⟩
    have HA11 := Lib.hid hga
    clear hga HN2
    go_wp2_with fail
    go_at_call 7; refine (fine3T _ _ rfl).mono ?_; rintro e w12 ⟨rfl, hb⟩
    have HA12 := Lib.hid (HA11.out.keep hb)
    clear hb HA11
    obtain ⟨m, hm, hmn, hmc, hmx⟩ : ∃ m : Nat, m = min xn 20 ∧ m ≤ 20 ∧ m ≤ xc ∧ m ≤ xn := ⟨_, rfl, by omega, by omega, by omega⟩
    have hm1 : min (xn : Int) 20 = (m : Int) := by omega
    have hm2 : max (m : Int) 0 = (m : Int) := by omega
    clear hm
    go_wp2_with fail
    go_loopw [16, 17, 18, 19, 20, 21, 90] (fun _ _ _ _ _ _ i wr => ∃ (k : Nat) (q : PlaceD) (es : List PlaceD) (ms : List MoveD), k ≤ m ∧ i = .int .i64 (k : Int) ∧ Hid (Two U g1 wr bb hh r q es ms q es ms) ∧ Hid (ms.length ≤ k)) (fun _ _ _ _ _ _ i _ => m - (intOf i).toNat)
    case atStart => exact ⟨0, beginD r, [], [], by omega, rfl, HA12, Lib.hid (Nat.le_refl _)⟩
    case round =>
      obtain ⟨k, q, es, ms, hk, rfl, hA, hEs⟩ := hrel
      clear HA12
      have HTU := Lib.hid hA.out.bel
      have HBR := Lib.hid (HBU.out.trans (hA.out.bel.mono HBU.out.size))
      have HBE0 := Lib.hid (HB.out.trans (HBR.out.mono HB.out.size))
      by_cases hlt : k < m
      · obtain ⟨g, o, x, rfl, cx0⟩ := HXS.out wr HBR.out k (by omega)
        have HPQ := Lib.hid hA.out.ok
        have HL100 : Hid (ms.length ≤ 100) := Lib.hid (by have := hEs.out; omega)
        have HAK := Lib.hid (fun W (h : Below wr.heap.size wr W) => hA.out.keep h)
        have HYK : Hid (∀ W, Below wr.heap.size wr W → W.cell? ⟨w.heap.size, 0, none⟩ = some (.string r.name) ∧ W.cell? ⟨w.heap.size, 1, none⟩ = some (.int .i64 r.width) ∧ W.cell? ⟨w.heap.size, 2, none⟩ = some (.int .i64 r.height) ∧ W.cell? ⟨w.heap.size, 3, none⟩ = some vp ∧ W.cell? ⟨w.heap.size, 4, none⟩ = some vs ∧ W.cell? ⟨w.heap.size, 5, none⟩ = some (.bool r.falls) ∧ W.cell? ⟨w.heap.size, 6, none⟩ = some (.bool r.keeps) ∧ W.cell? ⟨w.heap.size, 7, none⟩ = some ve ∧ W.cell? ⟨w.heap.size, 8, none⟩ = some (.int .i64 r.blocked) ∧ W.cell? ⟨w.heap.size, 9, none⟩ = some (.int .i64 r.quiet) ∧ W.cell? ⟨w.heap.size, 10, none⟩ = some (.int .i64 r.rep)) := Lib.hid (fun W h => HY.out W (HBR.out.trans (h.mono HBR.out.size)))
        have HZK : Hid (∀ W, Below wr.heap.size wr W → W.cell? ⟨tb, 0, none⟩ = some (.string r.name) ∧ W.cell? ⟨tb, 1, none⟩ = some (.int .i64 r.width) ∧ W.cell? ⟨tb, 2, none⟩ = some (.int .i64 r.height) ∧ W.cell? ⟨tb, 3, none⟩ = some (.slice pa pn pc) ∧ W.cell? ⟨tb, 4, none⟩ = some (.slice sa sn sc) ∧ W.cell? ⟨tb, 5, none⟩ = some (.bool r.falls) ∧ W.cell? ⟨tb, 6, none⟩ = some (.bool r.keeps) ∧ W.cell? ⟨tb, 7, none⟩ = some (.slice ea en ec) ∧ W.cell? ⟨tb, 8, none⟩ = some (.int .i64 r.blocked) ∧ W.cell? ⟨tb, 9, none⟩ = some (.int .i64 r.quiet) ∧ W.cell? ⟨tb, 10, none⟩ = some (.int .i64 r.rep)) := Lib.hid (fun W h => HYT.out W (HTU.out.trans (h.mono HTU.out.size)))
        obtain ⟨L, hL⟩ : ∃ L, L = allD r q := ⟨_, rfl⟩
        have HL1 : Hid (∀ W a1 a2 a3, Below wr.heap.size wr W → PlaceIn W q a1 a2 a3 → Calls Tryz.prog 10 #[RulesV r vp vs ve, PlaceV q a1 a2 a3] W (ListPost L W)) := Lib.hid (fun W a1 a2 a3 h h2 => by rw [hL]; exact all_ok r q vp vs ve a1 a2 a3 W (HIR.out W (HBR.out.trans (h.mono HBR.out.size))) h2 HPQ.out)
        have HL2 : Hid (∀ W a1 a2 a3, Below wr.heap.size wr W → PlaceIn W q a1 a2 a3 → Calls Tryz.prog 10 #[RulesV r (.slice pa pn pc) (.slice sa sn sc) (.slice ea en ec), PlaceV q a1 a2 a3] W (ListPost L W)) := Lib.hid (fun W a1 a2 a3 h h2 => by rw [hL]; exact all_ok r q _ _ _ a1 a2 a3 W (HIT.out W (HTU.out.trans (h.mono HTU.out.size))) h2 HPQ.out)
        have HLL := Lib.hid hL
        have HLN : Hid (L.length ≤ 5000) := Lib.hid (by rw [hL]; exact allD_length HPQ.out)
        have HP1 : Hid (∀ W, Below wr.heap.size wr W → Calls Tryz.prog 11 #[.pointer (some ⟨bb, 0, none⟩)] W (PosPost q W)) := Lib.hid (fun W h => (HAK.out W h).position1)
        have HP2 : Hid (∀ W, Below wr.heap.size wr W → Calls Tryz.prog 11 #[.pointer (some ⟨hh, 0, none⟩)] W (PosPost q W)) := Lib.hid (fun W h => (HAK.out W h).position2)
        unfold RulesV PlaceV PlaceCells at HL1 HL2
        obtain ⟨y0, y1, y2, y3, y4, y5, y6, y7, y8, y9, y10⟩ := HYK.out wr (Below.refl _ _)
        clear hL hA
        go_wp2_with fail
        have hBc : Below wr.heap.size wr wr.drew := (Below.refl _ _).drew
        go_region_held3 (fun w' => w'.cell? ⟨w.heap.size, 0, none⟩ = some (.string r.name) ∧ w'.cell? ⟨w.heap.size, 1, none⟩ = some (.int .i64 r.width) ∧ w'.cell? ⟨w.heap.size, 2, none⟩ = some (.int .i64 r.height) ∧ w'.cell? ⟨w.heap.size, 3, none⟩ = some vp ∧ w'.cell? ⟨w.heap.size, 4, none⟩ = some vs ∧ w'.cell? ⟨w.heap.size, 5, none⟩ = some (.bool r.falls) ∧ w'.cell? ⟨w.heap.size, 6, none⟩ = some (.bool r.keeps) ∧ w'.cell? ⟨w.heap.size, 7, none⟩ = some ve ∧ w'.cell? ⟨w.heap.size, 8, none⟩ = some (.int .i64 r.blocked) ∧ w'.cell? ⟨w.heap.size, 9, none⟩ = some (.int .i64 r.quiet) ∧ w'.cell? ⟨w.heap.size, 10, none⟩ = some (.int .i64 r.rep)) (with_reducible exact HYK.out _ hBc) (first
          | (go_at_call 11; refine (HP1.out _ hBc).mono ?_; rintro e w7p ⟨ca, cn, cc, a0, n0, c0, a1, n1, c1, rfl, hpf, hb⟩; have hB5 : Below wr.heap.size wr w7p := hBc.trans (hb.mono hBc.size); have hBc := hB5; have HPI := Lib.hid hpf.plain; clear hb hpf)
          | (go_at_call 10; refine (HL1.out _ _ _ _ hBc (by first | exact HPI.out | exact HPI.out.below (Below.refl _ _).drew (Nat.le_refl _))).mono ?_; rintro e w7 ⟨la, ln, lc, rfl, hI, hln, hb⟩; have hB5 : Below wr.heap.size wr w7 := hBc.trans (hb.mono hBc.size); have hBc := hB5; have HI7 := Lib.hid hI; have HLN7 := Lib.hid hln; clear hI hln; clear HPI hb))
        have HB7 := Lib.hid hB5
        clear hB5 hBc y0 y1 y2 y3 y4 y5 y6 y7 y8 y9 y10 cx0 HYK HL1
        have HZ7 : Hid (∀ W, Below w7.heap.size w7 W → W.cell? ⟨tb, 0, none⟩ = some (.string r.name) ∧ W.cell? ⟨tb, 1, none⟩ = some (.int .i64 r.width) ∧ W.cell? ⟨tb, 2, none⟩ = some (.int .i64 r.height) ∧ W.cell? ⟨tb, 3, none⟩ = some (.slice pa pn pc) ∧ W.cell? ⟨tb, 4, none⟩ = some (.slice sa sn sc) ∧ W.cell? ⟨tb, 5, none⟩ = some (.bool r.falls) ∧ W.cell? ⟨tb, 6, none⟩ = some (.bool r.keeps) ∧ W.cell? ⟨tb, 7, none⟩ = some (.slice ea en ec) ∧ W.cell? ⟨tb, 8, none⟩ = some (.int .i64 r.blocked) ∧ W.cell? ⟨tb, 9, none⟩ = some (.int .i64 r.quiet) ∧ W.cell? ⟨tb, 10, none⟩ = some (.int .i64 r.rep)) := Lib.hid (fun W h => HZK.out W (HB7.out.trans (h.mono HB7.out.size)))
        have HP7 : Hid (∀ W, Below w7.heap.size w7 W → Calls Tryz.prog 11 #[.pointer (some ⟨hh, 0, none⟩)] W (PosPost q W)) := Lib.hid (fun W h => HP2.out W (HB7.out.trans (h.mono HB7.out.size)))
        have HL7 := Lib.hid (fun W a1 a2 a3 (h : Below w7.heap.size w7 W) => HL2.out W a1 a2 a3 (HB7.out.trans (h.mono HB7.out.size)))
        obtain ⟨z0, z1, z2, z3, z4, z5, z6, z7, z8, z9, z10⟩ := HZ7.out w7 (Below.refl _ _)
        clear HP1 HP2 HL2 HZK
        go_wp2_with fail
        have hBc : Below w7.heap.size w7 w7.drew := (Below.refl _ _).drew
        go_region_held3 (fun w' => w'.cell? ⟨tb, 0, none⟩ = some (.string r.name) ∧ w'.cell? ⟨tb, 1, none⟩ = some (.int .i64 r.width) ∧ w'.cell? ⟨tb, 2, none⟩ = some (.int .i64 r.height) ∧ w'.cell? ⟨tb, 3, none⟩ = some (.slice pa pn pc) ∧ w'.cell? ⟨tb, 4, none⟩ = some (.slice sa sn sc) ∧ w'.cell? ⟨tb, 5, none⟩ = some (.bool r.falls) ∧ w'.cell? ⟨tb, 6, none⟩ = some (.bool r.keeps) ∧ w'.cell? ⟨tb, 7, none⟩ = some (.slice ea en ec) ∧ w'.cell? ⟨tb, 8, none⟩ = some (.int .i64 r.blocked) ∧ w'.cell? ⟨tb, 9, none⟩ = some (.int .i64 r.quiet) ∧ w'.cell? ⟨tb, 10, none⟩ = some (.int .i64 r.rep)) (with_reducible exact HZ7.out _ hBc) (first
          | (go_at_call 11; refine (HP7.out _ hBc).mono ?_; rintro e w8p ⟨ca2, cn2, cc2, a02, n02, c02, a12, n12, c12, rfl, hpf, hb⟩; have hB5 : Below w7.heap.size w7 w8p := hBc.trans (hb.mono hBc.size); have hBc := hB5; have HPI := Lib.hid hpf.plain; clear hb hpf)
          | (go_at_call 10; refine (HL7.out _ _ _ _ hBc (by first | exact HPI.out | exact HPI.out.below (Below.refl _ _).drew (Nat.le_refl _))).mono ?_; rintro e w9 ⟨la2, ln2, lc2, rfl, hI, hln, hb⟩; have hB5 : Below w7.heap.size w7 w9 := hBc.trans (hb.mono hBc.size); have hBc := hB5; have HJ9 := Lib.hid hI; have HLN9 := Lib.hid hln; clear hI hln; clear HPI hb))
        have HI9 := Lib.hid (HI7.out.below move_keeps hB5 (Nat.le_refl _))
        have HB9 := Lib.hid (HB7.out.trans (hB5.mono HB7.out.size))
        have HA9 := Lib.hid (HAK.out _ HB9.out)
        clear hB5 hBc z0 z1 z2 z3 z4 z5 z6 z7 z8 z9 z10 HZ7 HP7 HL7 HI7 HB7 HAK
        obtain rfl : ln2 = ln := by rw [HLN9.out, HLN7.out]
        obtain ⟨X, hX⟩ : ∃ X, X = resG r q es := ⟨_, rfl⟩
        have HX := Lib.hid hX
        have hXX : (X != X) = false := by simp
        have HR1 : Hid (∀ W, Below w9.heap.size w9 W → Calls Tryz.prog 13 #[.pointer (some ⟨bb, 0, none⟩)] W (BelPost (.int .i64 X) W)) := Lib.hid (fun W h => by rw [hX]; exact (HA9.out.keep h).result1 HL100.out)
        have HR2 : Hid (∀ W, Below w9.heap.size w9 W → Calls Tryz.prog 13 #[.pointer (some ⟨hh, 0, none⟩)] W (BelPost (.int .i64 X) W)) := Lib.hid (fun W h => by rw [hX]; exact (HA9.out.keep h).result2 HL100.out)
        have HP1 : Hid (∀ W, Below w9.heap.size w9 W → Calls Tryz.prog 11 #[.pointer (some ⟨bb, 0, none⟩)] W (PosPost q W)) := Lib.hid (fun W h => (HA9.out.keep h).position1)
        have HP2 : Hid (∀ W, Below w9.heap.size w9 W → Calls Tryz.prog 11 #[.pointer (some ⟨hh, 0, none⟩)] W (PosPost q W)) := Lib.hid (fun W h => (HA9.out.keep h).position2)
        have HEQ : Hid (∀ W, Below w9.heap.size w9 W → Calls Tryz.prog 12 #[.slice la ln2 lc, .slice la2 ln2 lc2] W (BelPost (.bool true) W)) := Lib.hid (fun W h => equalMoves_same L la la2 ln2 ln2 lc lc2 W (HI9.out.below move_keeps h (Nat.le_refl _)) (HJ9.out.below move_keeps h (Nat.le_refl _)) (by have := HLN.out; omega))
        have HSM : Hid (∀ W a1 a2 a3 b1 b2 b3, PlaceIn W q a1 a2 a3 → PlaceIn W q b1 b2 b3 → Calls Tryz.prog 14 #[PlaceV q a1 a2 a3, PlaceV q b1 b2 b3] W (BelPost (.bool true) W)) := Lib.hid (fun W a1 a2 a3 b1 b2 b3 h h2 => bsame_eq q _ _ _ _ _ _ W h h2 HPQ.out.short)
        unfold PlaceV PlaceCells at HSM
        clear hX
        go_wp2_with fail
        go_at_call 7; refine (fine2T _ _ rfl).mono ?_; rintro e w10 ⟨rfl, hb⟩
        have HB10 := Lib.hid hb
        clear hb
        go_wp2_with fail
        go_at_call 12; refine (HEQ.out _ HB10.out).mono ?_; rintro e w11 ⟨rfl, hb⟩
        have HB11 := Lib.hid (HB10.out.trans (hb.mono HB10.out.size))
        clear hb HB10
        go_wp2_with fail
        go_at_call 13; refine (HR1.out _ HB11.out).mono ?_; rintro e w12 ⟨rfl, hb⟩
        have HB12 := Lib.hid (HB11.out.trans (hb.mono HB11.out.size))
        clear hb HB11
        go_wp2_with fail
        go_at_call 13; refine (HR2.out _ HB12.out).mono ?_; rintro e w13 ⟨rfl, hb⟩
        have HB13 := Lib.hid (HB12.out.trans (hb.mono HB12.out.size))
        clear hb HB12
        go_wp2_with fail
        go_at_call 11; refine (HP1.out _ HB13.out).mono ?_; rintro e w14 ⟨ta, tn, tc, t0, tn0, tc0, t1, tn1, tc1, rfl, hpf, hb⟩
        have HB14 := Lib.hid (HB13.out.trans (hb.mono HB13.out.size))
        have HPI := Lib.hid hpf.plain
        clear hb hpf HB13
        go_wp2_with fail
        go_at_call 11; refine (HP2.out _ HB14.out).mono ?_; rintro e w15 ⟨ua, un, uc, u0, un0, uc0, u1, un1, uc1, rfl, hpf, hb⟩
        have HB15 := Lib.hid (HB14.out.trans (hb.mono HB14.out.size))
        have HPI2 := Lib.hid (HPI.out.below hb (Nat.le_refl _))
        have HPJ := Lib.hid hpf.plain
        clear hb hpf HB14 HPI
        go_wp2_with fail
        go_at_call 14; refine (HSM.out _ _ _ _ _ _ _ HPI2.out HPJ.out).mono ?_; rintro e w16 ⟨rfl, hb⟩
        have HB16 := Lib.hid (HB15.out.trans (hb.mono HB15.out.size))
        clear hb HB15 HPI2 HPJ HSM HEQ HP1 HP2 HR2 HJ9 HLN9
        by_cases hl0 : ln2 = 0
        · subst hl0
          have HBE := Lib.hid (HBE0.out.trans ((HB9.out.trans (HB16.out.mono HB9.out.size)).mono HBE0.out.size))
          clear HI9 HLN7 HLL HLN
          go_wp2_with fail
          go_ret
          exact ⟨rfl, HBE.out⟩
        · have hne : ((ln2 : Int) == 0) = false := by simp; omega
          have h1 : 1 ≤ ln2 := by omega
          have h5 : ln2 ≤ 5000 := by rw [HLN7.out]; exact HLN.out
          clear hl0
          go_wp2_with fail
          go_at_call 13; refine (HR1.out _ HB16.out).mono ?_; rintro e w17 ⟨rfl, hb⟩
          have HB17 := Lib.hid (HB16.out.trans (hb.mono HB16.out.size))
          clear hb HB16 HR1
          by_cases hres : X = 0
          · have HRES : Hid (resG r q es = 0) := Lib.hid (by rw [← HX.out]; exact hres)
            subst hres
            obtain ⟨t, ht, ⟨t1, t2⟩, jj, hj, hjn⟩ := some_rem x h1
            have HA17 := Lib.hid (HA9.out.keep HB17.out)
            obtain ⟨a', cp', e1, hcp, hcell⟩ := (HI9.out.below move_keeps HB17.out (Nat.le_refl _)).shape HLN7.out
            simp only [Value.slice.injEq] at e1
            obtain ⟨rfl, -, rfl⟩ := e1
            obtain ⟨g5, off, ⟨m1, m2, m3⟩, rfl, hx5, d0, d1, d2⟩ := hcell jj hjn
            have hsum : IntKind.i64.wrap (t + (ln2 : Int)) = t + (ln2 : Int) := IntWalk.i64_in _ (by omega)
            have HLG : Hid (legalB r q (m1, m2, m3) = true) := Lib.hid (legalB_all.2 (by rw [← HLL.out]; exact List.mem_of_getElem? hx5))
            have hal := (Below.refl w17.heap.size w17).alloc (Nat.le_refl _) (.cells #[.int .i64 m1, .int .i64 m2, .int .i64 m3] 47)
            have hmb := heap_alloc_new w17 (.cells #[.int .i64 m1, .int .i64 m2, .int .i64 m3] 47)
            have hsz : w17.heap.size < (w17.alloc (.cells #[.int .i64 m1, .int .i64 m2, .int .i64 m3] 47)).heap.size := by simp
            have HP := Lib.hid (HA17.out.play1 hal HL100.out HRES.out (m1, m2, m3) HLG.out)
            have HMB := Lib.hid hmb
            have HSZ := Lib.hid hsz
            have hmc : ∀ i, (w17.alloc (.cells #[.int .i64 m1, .int .i64 m2, .int .i64 m3] 47)).cell? ⟨w17.heap.size, i, none⟩ = (#[.int .i64 m1, .int .i64 m2, .int .i64 m3] : Array Value)[i]? := fun i => cell_of_row _ _ i _ _ (0, 0) hmb
            have f0 := hmc 0
            have f1 := hmc 1
            have f2 := hmc 2
            unfold moveV at HP
            dsimp only at d0 d1 d2
            clear hcell hx5 HA9 HI9 hal hmb hmc hsz
            go_wp2_with fail
            generalize hw : w17.alloc (.cells #[.int .i64 m1, .int .i64 m2, .int .i64 m3] 47) = w18 at HP HMB HSZ f0 f1 f2 ⊢
            go_at_call 15; refine HP.out.mono ?_; rintro e w19 ⟨rfl, hga, hfr⟩
            have HA19 := Lib.hid hga
            have HP2 := Lib.hid (hga.play2 HL100.out HRES.out (m1, m2, m3) HLG.out)
            have hmb2 := (hfr _ (Nat.le_refl _) HSZ.out).trans HMB.out
            have hmc2 : ∀ i, w19.cell? ⟨w17.heap.size, i, none⟩ = (#[.int .i64 m1, .int .i64 m2, .int .i64 m3] : Array Value)[i]? := fun i => cell_of_row _ _ i _ _ (0, 0) hmb2
            clear f0 f1 f2
            have f0 := hmc2 0
            have f1 := hmc2 1
            have f2 := hmc2 2
            unfold moveV at HP2
            clear hga hfr HP hw hmb2 hmc2 HMB HSZ d0 d1 d2
            go_wp2_with fail
            go_at_call 15; refine HP2.out.mono ?_; rintro e w20 ⟨rfl, hga⟩
            have HA20 := Lib.hid hga
            have HE20 : Hid ((ms ++ [(m1, m2, m3)]).length ≤ k + 1) := Lib.hid (by have := hEs.out; simp; omega)
            clear hga HP2 HA19 f0 f1 f2
            go_wp2_with fail
            go_roundw
            case rel => exact ⟨k + 1, _, _, _, by omega, by go_num, HA20, HE20⟩
            case measure => simp [intOf]; omega
          · have hxb : (X != 0) = true := by simpa using hres
            have HBE := Lib.hid (HBE0.out.trans ((HB9.out.trans (HB17.out.mono HB9.out.size)).mono HBE0.out.size))
            clear HI9 HLN7 HLL HLN hres
            go_wp2_with fail
            go_ret
            exact ⟨rfl, HBE.out⟩
      · clear hA
        go_wp2_with fail
        go_ret
        exact ⟨rfl, HBE0.out⟩
  · have HPB1 := Lib.hid (HPB.out hz)
    have hne : (c != 0) = true := by simpa using hz
    clear HPG HPR HPB HOK hz
    go_at_call 4; refine (HPB1.out _ HB6.out).mono ?_; rintro e w7 ⟨rfl, hb⟩
    have HBE := Lib.hid (HB.out.trans ((HB6.out.trans (hb.mono HB6.out.size)).mono HB.out.size))
    clear hb HB6 HPB1 y0 y1 y2 y3 y4 y5 y6 y7 y8 y9 y10
    go_wp2_with fail
    go_ret
    exact ⟨rfl, HBE.out⟩
end Go.Proofs.YtomclohfppbegaaGreatDoor
