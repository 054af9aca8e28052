/- The law TopUndo: a game that is taken back to any point and played again is the same. (Written by genlawtu.py.) -/
import Derived.Test.YtkficjpnflnjhaaGreatDoorPldT
import Derived.Test.YtkficjpnflnjhaaGreatDoorGmeF
import Derived.Test.YtkficjpnflnjhaaGreatDoorSomeM
import Derived.Test.YtkficjpnflnjhaaGreatDoorEqMv
import Derived.Test.YtkficjpnflnjhaaGreatDoorOpnA
set_option maxRecDepth 100000
namespace Go.Proofs.YtkficjpnflnjhaaGreatDoor
open Go.ChangeShapes Go.WideShapes Go.ChangeAt Go.RowKit

theorem bool_of_ne {c : Int} (h : c ≠ 0) : (c != 0) = true := by simpa using h
theorem take_snoc {ms : List MoveD} {k : Nat} {m : MoveD} (h : ms[k]? = some m) : ms.take (k + 1) = ms.take k ++ [m] := by rw [List.take_add_one, h]; rfl
theorem slice_fromM (la : Option Addr) (n c s : Nat) (h1 : s ≤ n) (h2 : n ≤ c) : ∃ A : Option Addr, (s < n → ∀ g o, la = some ⟨g, o, none⟩ → A = some ⟨g, o + s * 3, none⟩) ∧ ∀ w, Sem.run Tryz.prog (Instr.slice 33 (.slice la n c) (some (.int .i64 (s : Int))) none none) w = .ok (.slice A (n - s) (c - s)) w := by
  by_cases hc : c = s
  · obtain rfl : n = s := by omega
    subst hc
    refine ⟨la, fun h => by omega, fun w => ?_⟩
    go_simp
  · refine ⟨la.map fun a => a.add (s * 3), fun h g o e => by rw [e]; exact congrArg some (Addr.add_lit _ _ _), fun w => ?_⟩
    go_simp
/-- What stays while a game is taken back and played again: its moves, and a copy of its position. -/
structure Stay (N : Nat) (W : World) (v : Value) (ms : List MoveD) (pb : Nat) (q : PlaceD) (vc v0 v1 : Value) : Prop where
  l : IsSl (Blk (fun k => N ≤ k) MoveAt) 3 W v ms
  p : PlaceF (fun k => N ≤ k) W q vc v0 v1
  b : PBox W pb 38 q vc v0 v1
  n : N ≤ pb
theorem Stay.fram {D0 : Nat → Prop} {N : Nat} {W0 W : World} {v : Value} {ms : List MoveD} {pb : Nat} {q : PlaceD} {vc v0 v1 : Value} (h : Stay N W0 v ms pb q vc v0 v1) (hD : ∀ k, D0 k → k < N) (hf : Fram D0 W0 W) : Stay N W v ms pb q vc v0 v1 := by
  have hk : ∀ k, N ≤ k → k < W0.heap.size → W.heap[k]? = W0.heap[k]? := fun k h1 h2 => hf.block k h2 (fun g => by have := hD k g; omega)
  exact ⟨movesBlk_on (fun k h1 h2 => hk k h1 h2) h.l, h.p.on (fun k h1 h2 => hk k h1 h2) (fun _ x => x), (hk pb h.n h.b.lt).trans h.b, h.n⟩
set_option maxHeartbeats 16000000 in
theorem topUndo_full (r : RulesD) (vp vs ve : Value) (xs : List Int) (xv : Value) (z : Int) (w : World) (hr : RulesIn w r vp vs ve) (hx : IsSl IntAt 1 w xv xs) (hT : Dir w) :
    Calls Tryz.prog 6 #[RulesV r vp vs ve, xv, .int .i64 z] w fun e w' => e = .returned (.bool true) ∧ Below w.heap.size w w' := by
  obtain ⟨V, hV⟩ : ∃ V, V = w.alloc (.cells (RulesCells r vp vs ve) 26) := ⟨_, rfl⟩
  have hB : Below w.heap.size w V := by rw [hV]; exact (Below.refl _ _).alloc (Nat.le_refl _) _
  have hY : BoxR V w.heap.size r vp vs ve := by rw [hV]; exact boxR_new w r vp vs ve 26
  have HB := Lib.hid hB
  have HIR : Hid (∀ W, Below V.heap.size V W → RulesIn W r vp vs ve) := Lib.hid (fun W h => (hr.below hB (Nat.le_refl _)).below h (Nat.le_refl _))
  have HT : Hid (∀ W, Below V.heap.size V W → Dir W) := Lib.hid (fun W h => (hT.below hB (Nat.le_refl _)).below h (Nat.le_refl _))
  have HY : Hid (∀ W, Below V.heap.size V W → BoxR W w.heap.size r vp vs ve) := Lib.hid (fun W hb => hY.below hb (Nat.le_refl _))
  obtain ⟨xa, xn, xc, rfl, hxn, hxc, hxs⟩ := sl_parts hx
  have HXS : Hid (∀ W, Below V.heap.size V W → ∀ k, k < xn → ∃ g o x, xa = some ⟨g, o, none⟩ ∧ W.cell? ⟨g, o + k, none⟩ = some (.int .i64 x)) := Lib.hid (fun W h k hk => by
    obtain ⟨g, o, x, e1, _, e3⟩ := hxs W (hB.trans (h.mono hB.size)) k hk
    exact ⟨g, o, x, e1, e3⟩)
  have hxm : xn ≤ maxLen := by rw [hxn]; exact hx.fit
  unfold maxLen at hxm
  obtain ⟨c, hc⟩ : ∃ c, c = rulesE r := ⟨_, rfl⟩
  have HOK : Hid (c = 0 → rulesE r = 0) := Lib.hid (fun h => by rw [← hc]; exact h)
  have HNB : Hid (c ≠ 0 → ∀ W, Below V.heap.size V W → Calls Tryz.prog 9 #[RulesV r vp vs ve] W (NewBad c W)) := Lib.hid (fun hz W h => by rw [hc]; exact gnew_bad r vp vs ve W (HIR.out W h) (by rw [← hc]; exact hz))
  have HNG : Hid (c = 0 → ∀ W, Below V.heap.size V W → Calls Tryz.prog 9 #[RulesV r vp vs ve] W (NewG r W)) := Lib.hid (fun hz W h => newG r vp vs ve W (HIR.out W h) (HOK.out hz) (HT.out W h))
  have hV' := hV
  unfold RulesCells at hV'
  unfold RulesV at HNB HNG
  unfold RulesV
  clear hr hc hB hY hT hxn hxs hx hV
  go_enter Tryz.func6, Tryz.ntmps6
  go_wp2_with fail
  rw [← hV']
  clear hV'
  go_at_call 32; refine (bplayed_any _ (HT.out _ (Below.refl _ _))).mono ?_; rintro e w3 ⟨rfl, hb⟩
  have HB3 := Lib.hid hb
  obtain ⟨y0, y1, y2, y3, y4, y5, y6, y7, y8, y9, y10⟩ := HY.out _ hb
  clear hb
  go_wp2_with fail
  by_cases hz : c = 0
  · have HNG1 := Lib.hid (HNG.out hz)
    clear HNG HNB HOK hz
    go_at_call 9; refine (HNG1.out _ HB3.out).mono ?_; rintro e w4 ⟨bb, W1, rfl, hga⟩
    have HA4 := Lib.hid hga
    clear hga HNG1 y0 y1 y2 y3 y4 y5 y6 y7 y8 y9 y10
    obtain ⟨m, hm, hmn, hmc, hmx⟩ : ∃ m : Nat, m = min xn 24 ∧ m ≤ 24 ∧ m ≤ xc ∧ m ≤ xn := ⟨_, rfl, by omega, by omega, by omega⟩
    have hm1 : min (xn : Int) 24 = (m : Int) := by omega
    have hm2 : max (m : Int) 0 = (m : Int) := by omega
    clear hm
    go_wp2_with fail
    go_loopw [10, 11, 12, 41] (fun _ _ _ i wr => ∃ (k : Nat) (q : PlaceD) (es : List PlaceD) (ms : List MoveD), k ≤ m ∧ i = .int .i64 (k : Int) ∧ Hid (GAt w3 W1 wr bb r q es ms) ∧ Hid (ms.length ≤ k)) (fun _ _ _ i _ => m - (intOf i).toNat)
    case atStart => exact ⟨0, beginD r, [], [], by omega, rfl, HA4, Lib.hid (Nat.le_refl _)⟩
    case round =>
      obtain ⟨k, q, es, ms, hk, rfl, hA, hEs⟩ := hrel
      clear HA4
      have HBR := Lib.hid (HB3.out.trans (hA.out.bel.mono HB3.out.size))
      have HPQ := Lib.hid hA.out.ok
      have HLE : Hid (ms.length ≤ 24) := Lib.hid (by have := hEs.out; omega)
      have HL100 : Hid (ms.length ≤ 100) := Lib.hid (by have := hEs.out; omega)
      by_cases hlt : k < m
      · obtain ⟨g, o, x, rfl, cx0⟩ := HXS.out wr HBR.out k (by omega)
        have HBK := Lib.hid (fun W (h : Below wr.heap.size wr W) => HBR.out.trans (h.mono HBR.out.size))
        have HAK := Lib.hid (fun W (h : Below wr.heap.size wr W) => hA.out.keep h)
        have HYK : Hid (∀ W, Below wr.heap.size wr W → W.cell? ⟨w.heap.size, 0, none⟩ = some (.string r.name) ∧ W.cell? ⟨w.heap.size, 1, none⟩ = some (.int .i64 r.width) ∧ W.cell? ⟨w.heap.size, 2, none⟩ = some (.int .i64 r.height) ∧ W.cell? ⟨w.heap.size, 3, none⟩ = some vp ∧ W.cell? ⟨w.heap.size, 4, none⟩ = some vs ∧ W.cell? ⟨w.heap.size, 5, none⟩ = some (.bool r.falls) ∧ W.cell? ⟨w.heap.size, 6, none⟩ = some (.bool r.keeps) ∧ W.cell? ⟨w.heap.size, 7, none⟩ = some ve ∧ W.cell? ⟨w.heap.size, 8, none⟩ = some (.int .i64 r.blocked) ∧ W.cell? ⟨w.heap.size, 9, none⟩ = some (.int .i64 r.quiet) ∧ W.cell? ⟨w.heap.size, 10, none⟩ = some (.int .i64 r.rep)) := Lib.hid (fun W h => HY.out W (HBK.out W h))
        obtain ⟨L, hL⟩ : ∃ L, L = allD r q := ⟨_, rfl⟩
        have HLQ : Hid (∀ W a1 a2 a3, Below wr.heap.size wr W → PlaceIn W q a1 a2 a3 → Calls Tryz.prog 11 #[RulesV r vp vs ve, PlaceV q a1 a2 a3] W (ListPost L W)) := Lib.hid (fun W a1 a2 a3 h h2 => by rw [hL]; exact all_ok r q vp vs ve a1 a2 a3 W (HIR.out W (HBK.out W h)) h2 HPQ.out)
        have HLL := Lib.hid hL
        have HLN : Hid (L.length ≤ 5000) := Lib.hid (by rw [hL]; exact allD_length HPQ.out)
        have HPP : Hid (∀ W, Below wr.heap.size wr W → Calls Tryz.prog 12 #[.pointer (some ⟨bb, 0, none⟩)] W (PosPost q W)) := Lib.hid (fun W h => (HAK.out W h).position)
        unfold RulesV PlaceV PlaceCells at HLQ
        obtain ⟨y0, y1, y2, y3, y4, y5, y6, y7, y8, y9, y10⟩ := HYK.out wr (Below.refl _ _)
        clear hL hA
        go_wp2_with fail
        have hBc : Below wr.heap.size wr wr.drew := (Below.refl _ _).drew
        go_region_held3 (fun w' => w'.cell? ⟨w.heap.size, 0, none⟩ = some (.string r.name) ∧ w'.cell? ⟨w.heap.size, 1, none⟩ = some (.int .i64 r.width) ∧ w'.cell? ⟨w.heap.size, 2, none⟩ = some (.int .i64 r.height) ∧ w'.cell? ⟨w.heap.size, 3, none⟩ = some vp ∧ w'.cell? ⟨w.heap.size, 4, none⟩ = some vs ∧ w'.cell? ⟨w.heap.size, 5, none⟩ = some (.bool r.falls) ∧ w'.cell? ⟨w.heap.size, 6, none⟩ = some (.bool r.keeps) ∧ w'.cell? ⟨w.heap.size, 7, none⟩ = some ve ∧ w'.cell? ⟨w.heap.size, 8, none⟩ = some (.int .i64 r.blocked) ∧ w'.cell? ⟨w.heap.size, 9, none⟩ = some (.int .i64 r.quiet) ∧ w'.cell? ⟨w.heap.size, 10, none⟩ = some (.int .i64 r.rep)) (with_reducible exact HYK.out _ hBc) (first
          | (go_at_call 12; refine (HPP.out _ hBc).mono ?_; rintro e w7p ⟨ca, cn, cc, a0, n0, c0, a1, n1, c1, rfl, hpf, hb⟩; have hB5 : Below wr.heap.size wr w7p := hBc.trans (hb.mono hBc.size); have hBc := hB5; have HPI := Lib.hid hpf.plain; clear hb hpf)
          | (go_at_call 11; refine (HLQ.out _ _ _ _ hBc (by first | exact HPI.out | exact HPI.out.below (Below.refl _ _).drew (Nat.le_refl _))).mono ?_; rintro e w7 ⟨la, ln, lc, rfl, hI, hln, hb⟩; have hB5 : Below wr.heap.size wr w7 := hBc.trans (hb.mono hBc.size); have hBc := hB5; have HI7 := Lib.hid hI; have HLN7 := Lib.hid hln; clear hI hln; clear HPI hb))
        have HB7 := Lib.hid hB5
        clear hB5 hBc y0 y1 y2 y3 y4 y5 y6 y7 y8 y9 y10 cx0
        have HA7 := Lib.hid (HAK.out _ HB7.out)
        have HBR7 := Lib.hid (HBK.out _ HB7.out)
        clear HBK HAK HYK HLQ HPP
        by_cases hl0 : ln = 0
        · subst hl0
          have HA := HA7
          have HBR := HBR7
          obtain ⟨wr2, hwr2⟩ : ∃ W, W = w7 := ⟨_, rfl⟩
          rw [← hwr2] at HA HBR
          clear HA7 HBR7 HB7 HI7 HLN7 HLL HLN
          go_wp2_with fail
          rw [← hwr2]
          clear hwr2
          obtain ⟨⟨D0, hg0, hD0⟩, hbw, hch⟩ := HA.out
          have HCH := Lib.hid hch
          have HD0 := Lib.hid hD0
          have HDL : Hid (∀ k, D0 k → k < wr2.heap.size) := Lib.hid hg0.ok.2.2.1
          obtain ⟨n, hn⟩ : ∃ n, n = ms.length := ⟨_, rfl⟩
          have HMF := Lib.hid (gmoves_fresh hg0 HL100.out)
          have HG0 := Lib.hid hg0
          have hn24 : n ≤ 24 := by rw [hn]; exact HLE.out
          have HN := Lib.hid hn
          clear hg0 hD0 hbw hch hn
          go_at_call 17; refine HMF.out.mono ?_; rintro e w20 ⟨ma, mn, mk, rfl, hmf, hmn', hb⟩
          obtain rfl : mn = n := by rw [hmn', HN.out]
          have HB20 := Lib.hid hb
          have HMS20 := Lib.hid hmf
          have HPO := Lib.hid (gposition_any (HG0.out.keep hb))
          clear hb hmf hmn' HMF
          go_wp2_with fail
          go_at_call 12; refine HPO.out.mono ?_; rintro e w21 ⟨ca, cn, cc, a0, n0, c0, a1, n1, c1, rfl, hpf, hb⟩
          have HB21 := Lib.hid (HB20.out.trans (hb.mono HB20.out.size))
          have HMS21 := Lib.hid (movesBlk_on (fun k _ hk => hb.block k hk) HMS20.out)
          have HPF21 : Hid (PlaceF (fun k => wr2.heap.size ≤ k) w21 q (.slice ca cn cc) (.slice a0 n0 c0) (.slice a1 n1 c1)) := Lib.hid (hpf.on (fun _ _ _ => rfl) (fun k hk => Nat.le_trans HB20.out.size hk))
          obtain ⟨X, hX⟩ : ∃ X, X = resG r q es := ⟨_, rfl⟩
          obtain ⟨C, hC⟩ : ∃ C, C = countG q es := ⟨_, rfl⟩
          have HX := Lib.hid hX
          have HC := Lib.hid hC
          have hC2 : C ≤ 25 := by have h1 := (countG_le q es).2; have h2 := HCH.out.len; have h3 := HN.out; omega
          have HRS := Lib.hid ((HA.out.keep HB21.out).result HL100.out)
          rw [← hX] at HRS
          clear hb hpf hX hC HMS20 HPO
          go_wp2_with fail
          go_at_call 13; refine HRS.out.mono ?_; rintro e w22 ⟨rfl, hb⟩
          have HB22 := Lib.hid (HB21.out.trans (hb.mono HB21.out.size))
          have HMS22 := Lib.hid (movesBlk_on (fun k _ hk => hb.block k hk) HMS21.out)
          have HPF22 := Lib.hid (HPF21.out.on (e := fun k => wr2.heap.size ≤ k) (fun k _ hk => hb.block k hk) (fun _ h => h))
          have HCT := Lib.hid ((HA.out.keep HB22.out).count HL100.out)
          rw [← HC.out] at HCT
          clear hb HMS21 HPF21 HRS
          go_wp2_with fail
          go_at_call 22; refine HCT.out.mono ?_; rintro e w23 ⟨rfl, hb⟩
          have hb23 := HB22.out.trans (hb.mono HB22.out.size)
          have hms := movesBlk_on (fun k _ hk => hb.block k hk) HMS22.out
          have hpf := HPF22.out.on (e := fun k => wr2.heap.size ≤ k) (fun k _ hk => hb.block k hk) (fun _ h => h)
          have hal := (Below.refl w23.heap.size w23).alloc (Nat.le_refl _) (.cells (PlaceCells q (.slice ca cn cc) (.slice a0 n0 c0) (.slice a1 n1 c1)) 38)
          have hST : Stay wr2.heap.size (w23.alloc (.cells (PlaceCells q (.slice ca cn cc) (.slice a0 n0 c0) (.slice a1 n1 c1)) 38)) (.slice ma mn mk) ms w23.heap.size q (.slice ca cn cc) (.slice a0 n0 c0) (.slice a1 n1 c1) :=
            ⟨movesBlk_on (fun k _ hk => hal.block k hk) hms, hpf.on (fun k _ hk => hal.block k hk) (fun _ h => h), PBox.new _ _ _ _ _ _, hb23.size⟩
          have hGR := GR.zero (HG0.out.keep (hb23.trans (hal.mono hb23.size))) HCH.out
          have HBW := Lib.hid (hb23.trans (hal.mono hb23.size))
          have HST := Lib.hid hST
          have HGR := Lib.hid hGR
          unfold PlaceCells at HST HGR HBW
          clear hb hb23 hms hpf hal hST hGR HMS22 HPF22 HCT HG0
          obtain ⟨t, ht, ⟨t1, t2⟩, j, hj, hjn⟩ := some_rem z (n := mn + 1) (by omega)
          have hcast : ((mn + 1 : Nat) : Int) = (mn : Int) + 1 := by omega
          rw [hcast] at ht t1 t2 hj
          rw [← Int.add_assoc] at hj
          have hw1 : IntKind.i64.wrap ((mn : Int) + 1) = (mn : Int) + 1 := IntWalk.i64_in _ (by omega)
          have hw2 : IntKind.i64.wrap (t + (mn : Int)) = t + (mn : Int) := IntWalk.i64_in _ (by omega)
          have hw3 : IntKind.i64.wrap (t + (mn : Int) + 1) = t + (mn : Int) + 1 := IntWalk.i64_in _ (by omega)
          have hne1 : ((mn : Int) + 1 == 0) = false := by simp; omega
          have hjn : j ≤ mn := by omega
          clear hcast
          go_wp2_with fail
          generalize w23.alloc (.cells #[.slice ca cn cc, .slice a0 n0 c0, .slice a1 n1 c1, .int .i64 q.turn, .int .i64 q.quiet] 38) = W0 at HST HGR HBW ⊢
          generalize w23.heap.size = pb at HST ⊢
          have HTK0 : Hid (ms.take (mn - 0) = ms) := Lib.hid (List.take_of_length_le (by rw [← HN.out]; exact Nat.le_refl _))
          have HGR1 : Hid (GR W1 D0 W0 W0 bb r q es (ms.take (mn - 0))) := Lib.hid (by rw [HTK0.out]; exact HGR.out)
          clear ht hj hw1 hw2 hw3 hne1 t1 t2 HTK0 HGR
          go_loopw [99] (fun i wr => ∃ (k : Nat) (q' : PlaceD) (es' : List PlaceD), k ≤ j ∧ i = .int .i64 (k : Int) ∧ Hid (GR W1 D0 W0 wr bb r q' es' (ms.take (mn - k)))) (fun i _ => j - (intOf i).toNat)
          case atStart => exact ⟨0, q, es, by omega, rfl, HGR1⟩
          case round =>
            clear HGR1
            obtain ⟨k, q', es', hk, rfl, hG⟩ := hrel
            by_cases hlt : k < j
            · obtain ⟨m0, hm0⟩ : ∃ m0, ms[mn - (k + 1)]? = some m0 := ⟨_, List.getElem?_eq_getElem (by have := HN.out; omega)⟩
              have hts : ms.take (mn - k) = ms.take (mn - (k + 1)) ++ [m0] := by
                have e : mn - k = mn - (k + 1) + 1 := by omega
                rw [e]; exact take_snoc hm0
              obtain ⟨p', fs, _, hbk⟩ := hG.out.back hts (by rw [List.length_take]; have := HN.out; omega)
              have HU := Lib.hid (hbk _ (Below.refl _ _))
              clear hm0 hts hbk hG
              go_wp2_with fail
              go_at_call 10; refine HU.out.mono ?_; rintro e w24 ⟨rfl, hgr⟩
              have HG24 := Lib.hid hgr
              clear hgr HU
              go_wp2_with fail
              go_roundw
              case rel => exact ⟨k + 1, p', fs, by omega, by go_num, HG24⟩
              case measure => simp [intOf]; omega
            · obtain rfl : k = j := by omega
              obtain ⟨s, hs⟩ : ∃ s, s = mn - k := ⟨_, rfl⟩
              rw [← hs] at hG
              have hsn : s ≤ mn := by omega
              have HGK := Lib.hid (hG.out.gat HD0.out (HA.out.bel.trans (HBW.out.mono HA.out.bel.size)))
              have HMV : Hid (Calls Tryz.prog 17 #[.pointer (some ⟨bb, 0, none⟩)] wr (fun e w' => ∃ a c, e = .returned (.slice a s c) ∧ Below wr.heap.size wr w')) := Lib.hid ((HGK.out.moves (by rw [List.length_take]; omega)).mono fun _ _ ⟨a, n', c, h1, _, h2, h3⟩ => ⟨a, c, by rw [h1, h2, List.length_take, ← HN.out, Nat.min_eq_left hsn], h3⟩)
              have HSF : Hid (∀ W, Fram D0 W0 W → Stay wr2.heap.size W (.slice ma mn mk) ms pb q (.slice ca cn cc) (.slice a0 n0 c0) (.slice a1 n1 c1)) := Lib.hid (fun W h => HST.out.fram HDL.out h)
              clear HGK hs
              go_wp2_with fail
              go_at_call 17; refine HMV.out.mono ?_; rintro e w25 ⟨xa2, xc2, rfl, hb⟩
              have HG25 := Lib.hid (hG.out.keep hb)
              clear hb hG HMV
              have hST25 := HSF.out _ HG25.out.fram
              obtain ⟨la', lc', e1, hcp, hcell⟩ := (hST25.l).shape HN.out
              simp only [Value.slice.injEq] at e1
              obtain ⟨rfl, -, rfl⟩ := e1
              obtain ⟨A, hA1, hsl⟩ := slice_fromM ma mn mk s hsn hcp
              have HCL : Hid (∀ i, s + i < mn → ∃ g o m1 m2 m3, A = some ⟨g, o, none⟩ ∧ ms[s + i]? = some (m1, m2, m3) ∧ ∀ W, Fram D0 W0 W → W.cell? ⟨g, o + i * 3, none⟩ = some (.int .i64 m1) ∧ W.cell? ⟨g, o + i * 3 + 1, none⟩ = some (.int .i64 m2) ∧ W.cell? ⟨g, o + i * 3 + 2, none⟩ = some (.int .i64 m3)) := Lib.hid (fun i hi => by
                obtain ⟨g, o, ⟨m1, m2, m3⟩, hma, hm, hd⟩ := hcell (s + i) hi
                refine ⟨g, o + s * 3, m1, m2, m3, hA1 (by omega) g o hma, hm, fun W hW => ?_⟩
                obtain ⟨la2, lc2, e1, _, hcell2⟩ := ((HSF.out W hW).l).shape HN.out
                simp only [Value.slice.injEq] at e1
                obtain ⟨rfl, -, rfl⟩ := e1
                obtain ⟨g', o', m', hma', hm', _, d0, d1, d2⟩ := hcell2 (s + i) hi
                rw [hma] at hma'
                simp only [Option.some.injEq, Addr.mk.injEq, and_true] at hma'
                obtain ⟨rfl, rfl⟩ := hma'
                rw [hm] at hm'
                obtain rfl := Option.some.inj hm'
                have e2 : o + s * 3 + i * 3 = o + (s + i) * 3 := by omega
                rw [e2]
                exact ⟨d0, d1, d2⟩)
              obtain ⟨u, hu⟩ : ∃ u, u = mn - s := ⟨_, rfl⟩
              obtain ⟨uc, huc⟩ : ∃ u, u = mk - s := ⟨_, rfl⟩
              have hucc : u ≤ uc := by omega
              rw [← hu, ← huc] at hsl
              have hus : s + u = mn := by omega
              clear hST25 hcell hA1 hu huc
              go_wp2_with fail
              have HG26 : Hid (GR W1 D0 W0 w25 bb r q' es' (ms.take (s + 0))) := Lib.hid HG25.out
              clear HG25 hsl
              go_loopw [19, 111] (fun _ i wr => ∃ (k : Nat) (q' : PlaceD) (es' : List PlaceD), k ≤ u ∧ i = .int .i64 (k : Int) ∧ Hid (GR W1 D0 W0 wr bb r q' es' (ms.take (s + k)))) (fun _ i _ => u - (intOf i).toNat)
              case atStart => exact ⟨0, q', es', by omega, rfl, HG26⟩
              case round =>
                clear HG26
                obtain ⟨k2, q2, es2, hk2, rfl, hG⟩ := hrel
                by_cases hlt2 : k2 < u
                · obtain ⟨g2, o2, m1, m2, m3, rfl, hm0, hcw⟩ := HCL.out k2 (by omega)
                  obtain ⟨d0, d1, d2⟩ := hcw wr hG.out.fram
                  have hal := (Below.refl wr.heap.size wr).alloc (Nat.le_refl _) (.cells #[.int .i64 m1, .int .i64 m2, .int .i64 m3] 43)
                  have hmb := heap_alloc_new wr (.cells #[.int .i64 m1, .int .i64 m2, .int .i64 m3] 43)
                  have hmc : ∀ i, (wr.alloc (.cells #[.int .i64 m1, .int .i64 m2, .int .i64 m3] 43)).cell? ⟨wr.heap.size, i, none⟩ = (#[.int .i64 m1, .int .i64 m2, .int .i64 m3] : Array Value)[i]? := fun i => cell_of_row _ _ i _ _ (0, 0) hmb
                  have f0 := hmc 0
                  have f1 := hmc 1
                  have f2 := hmc 2
                  obtain ⟨D9, _, _, _, hch2⟩ := hG.out
                  obtain ⟨hr0, hl0, hch3⟩ := HCH.out.next hch2 hm0
                  have HP := Lib.hid ((hG.out.keep hal).play (by rw [List.length_take]; omega) hr0 (m1, m2, m3) hl0)
                  have HTS : Hid (ms.take (s + (k2 + 1)) = ms.take (s + k2) ++ [(m1, m2, m3)]) := Lib.hid (take_snoc hm0)
                  rw [← HTS.out] at HP
                  unfold moveV at HP
                  clear hal hmb hmc hch2 hch3 hr0 hl0 hcw hm0 hG HTS
                  go_wp2_with fail
                  generalize wr.alloc (.cells #[.int .i64 m1, .int .i64 m2, .int .i64 m3] 43) = w26 at HP f0 f1 f2 ⊢
                  go_at_call 14; refine HP.out.mono ?_; rintro e w27 ⟨rfl, hgr⟩
                  have HG27 := Lib.hid hgr
                  clear hgr HP f0 f1 f2 d0 d1 d2
                  go_wp2_with fail
                  go_roundw
                  case rel => exact ⟨k2 + 1, _, _, by omega, by go_num, HG27⟩
                  case measure => simp [intOf]; omega
                · obtain rfl : k2 = u := by omega
                  have hG := hG.out
                  have htk : ms.take (s + k2) = ms := List.take_of_length_le (by rw [hus, HN.out]; exact Nat.le_refl _)
                  rw [htk] at hG
                  have hg := hG
                  obtain ⟨D9, hg9, hd9, hf9, hch9⟩ := hg
                  obtain ⟨e1, e2⟩ := hch9.fn HCH.out
                  subst e1 e2
                  have hST := HSF.out _ hf9
                  have HGA := Lib.hid (hG.gat HD0.out (HA.out.bel.trans (HBW.out.mono HA.out.bel.size)))
                  have HML := Lib.hid (hST.l.mono (q' := MoveAt) (fun _ _ _ h => h.2))
                  have HPL := Lib.hid hST.p.plain
                  have HBX := Lib.hid hST.b
                  have HMV : Hid (∀ W, Below wr.heap.size wr W → Calls Tryz.prog 17 #[.pointer (some ⟨bb, 0, none⟩)] W (GMoves ms W)) := Lib.hid (fun W h => (HGA.out.keep h).moves HL100.out)
                  have HPP : Hid (∀ W, Below wr.heap.size wr W → Calls Tryz.prog 12 #[.pointer (some ⟨bb, 0, none⟩)] W (PosPost q2 W)) := Lib.hid (fun W h => (HGA.out.keep h).position)
                  have HRS : Hid (∀ W, Below wr.heap.size wr W → Calls Tryz.prog 13 #[.pointer (some ⟨bb, 0, none⟩)] W (BelPost (.int .i64 X) W)) := Lib.hid (fun W h => by rw [HX.out]; exact (HGA.out.keep h).result HL100.out)
                  have HCN : Hid (∀ W, Below wr.heap.size wr W → Calls Tryz.prog 22 #[.pointer (some ⟨bb, 0, none⟩)] W (BelPost (.int .i64 (C : Int)) W)) := Lib.hid (fun W h => by rw [HC.out]; exact (HGA.out.keep h).count HL100.out)
                  have HEQ : Hid (∀ W a n c, Below wr.heap.size wr W → IsSl MoveAt 3 W (.slice a n c) ms → Calls Tryz.prog 33 #[.slice ma mn mk, .slice a n c] W (BelPost (.bool true) W)) := Lib.hid (fun W a n c h h2 => equalMoves_same ms ma a mn n mk c W (HML.out.below move_keeps h (Nat.le_refl _)) h2 (by have := HL100.out; omega))
                  have HSM : Hid (∀ W b1 b2 b3, Below wr.heap.size wr W → PlaceIn W q2 b1 b2 b3 → Calls Tryz.prog 34 #[PlaceV q2 (.slice ca cn cc) (.slice a0 n0 c0) (.slice a1 n1 c1), PlaceV q2 b1 b2 b3] W (BelPost (.bool true) W)) := Lib.hid (fun W b1 b2 b3 h h2 => bsame_eq q2 _ _ _ _ _ _ W (HPL.out.below h (Nat.le_refl _)) h2 HPQ.out.short)
                  have HS2 : Hid (∀ W', Below wr.heap.size wr W' → W'.cell? ⟨pb, 0, none⟩ = some (.slice ca cn cc) ∧ W'.cell? ⟨pb, 1, none⟩ = some (.slice a0 n0 c0) ∧ W'.cell? ⟨pb, 2, none⟩ = some (.slice a1 n1 c1) ∧ W'.cell? ⟨pb, 3, none⟩ = some (.int .i64 q2.turn) ∧ W'.cell? ⟨pb, 4, none⟩ = some (.int .i64 q2.quiet)) := Lib.hid (fun W' hb => by
                    obtain ⟨⟨e0, e1, e2, e3, e4⟩, -⟩ := (HBX.out.below hb HBX.out.lt).facts
                    exact ⟨e0, e1, e2, e3, e4⟩)
                  have hXX : (X == X) = true := by simp
                  have hCC : ((C : Int) == (C : Int)) = true := by simp
                  unfold PlaceV PlaceCells at HSM
                  have HBE0 := Lib.hid (HB.out.trans ((HB3.out.trans (HGA.out.bel.mono HB3.out.size)).mono HB.out.size))
                  clear htk hg9 hd9 hf9 hch9 hG hST
                  obtain ⟨e0, e1, e2, e3, e4⟩ := HS2.out wr (Below.refl _ _)
                  go_wp2_with fail
                  have hBc : Below wr.heap.size wr wr.drew := (Below.refl _ _).drew
                  go_region_held3 (fun w' => w'.cell? ⟨pb, 0, none⟩ = some (.slice ca cn cc) ∧ w'.cell? ⟨pb, 1, none⟩ = some (.slice a0 n0 c0) ∧ w'.cell? ⟨pb, 2, none⟩ = some (.slice a1 n1 c1) ∧ w'.cell? ⟨pb, 3, none⟩ = some (.int .i64 q2.turn) ∧ w'.cell? ⟨pb, 4, none⟩ = some (.int .i64 q2.quiet)) (with_reducible exact HS2.out _ hBc) (first
                    | (go_at_call 17; refine (HMV.out _ hBc).mono ?_; rintro e w30 ⟨na, nn, nc, rfl, hI, -, hb⟩; have hB5 : Below wr.heap.size wr w30 := hBc.trans (hb.mono hBc.size); have hBc := hB5; have HI := Lib.hid hI; clear hb hI)
                    | (go_at_call 33; refine (HEQ.out _ _ _ _ hBc (by first | exact HI.out | exact HI.out.below move_keeps (Below.refl _ _).drew (Nat.le_refl _))).mono ?_; rintro e w31 ⟨rfl, hb⟩; have hB5 : Below wr.heap.size wr w31 := hBc.trans (hb.mono hBc.size); have hBc := hB5; clear hb HI)
                    | (go_at_call 12; refine (HPP.out _ hBc).mono ?_; rintro e w32 ⟨ta, tn, tc, t0, tn0, tc0, t1, tn1, tc1, rfl, hpf, hb⟩; have hB5 : Below wr.heap.size wr w32 := hBc.trans (hb.mono hBc.size); have hBc := hB5; have HPJ := Lib.hid hpf.plain; clear hb hpf)
                    | (go_at_call 34; refine (HSM.out _ _ _ _ hBc (by first | exact HPJ.out | exact HPJ.out.below (Below.refl _ _).drew (Nat.le_refl _))).mono ?_; rintro e w33 ⟨rfl, hb⟩; have hB5 : Below wr.heap.size wr w33 := hBc.trans (hb.mono hBc.size); have hBc := hB5; clear hb HPJ)
                    | (go_at_call 13; refine (HRS.out _ hBc).mono ?_; rintro e w34 ⟨rfl, hb⟩; have hB5 : Below wr.heap.size wr w34 := hBc.trans (hb.mono hBc.size); have hBc := hB5; clear hb)
                    | (go_at_call 22; refine (HCN.out _ hBc).mono ?_; rintro e w35 ⟨rfl, hb⟩; have hB5 : Below wr.heap.size wr w35 := hBc.trans (hb.mono hBc.size); have hBc := hB5; clear hb))
                  have HBE := Lib.hid (HBE0.out.trans (hB5.mono HBE0.out.size))
                  clear hB5 hBc e0 e1 e2 e3 e4
                  go_wp2_with fail
                  go_ret
                  exact ⟨rfl, HBE.out⟩
        · have hne : ((ln : Int) == 0) = false := by simp; omega
          have h1 : 1 ≤ ln := by omega
          have h5 : ln ≤ 5000 := by rw [HLN7.out]; exact HLN.out
          obtain ⟨X, hX⟩ : ∃ X, X = resG r q es := ⟨_, rfl⟩
          have HRS := Lib.hid (HA7.out.result HL100.out)
          rw [← hX] at HRS
          have HX := Lib.hid hX
          clear hl0 hX
          go_wp2_with fail
          go_at_call 13; refine HRS.out.mono ?_; rintro e w8 ⟨rfl, hb⟩
          have HA8 := Lib.hid (HA7.out.keep hb)
          have HI8 := Lib.hid (HI7.out.below move_keeps hb (Nat.le_refl _))
          have HBR8 := Lib.hid (HBR7.out.trans (hb.mono HBR7.out.size))
          clear hb HRS HA7 HI7 HBR7
          by_cases hres : X = 0
          · have HRES : Hid (resG r q es = 0) := Lib.hid (by rw [← HX.out]; exact hres)
            subst hres
            obtain ⟨t, ht, ⟨t1, t2⟩, jj, hj, hjn⟩ := some_rem x h1
            obtain ⟨a', cp', e1, hcp, hcell⟩ := HI8.out.shape HLN7.out
            simp only [Value.slice.injEq] at e1
            obtain ⟨rfl, -, rfl⟩ := e1
            obtain ⟨g5, off, ⟨m1, m2, m3⟩, rfl, hx5, d0, d1, d2⟩ := hcell jj hjn
            have hsum : IntKind.i64.wrap (t + (ln : Int)) = t + (ln : Int) := IntWalk.i64_in _ (by omega)
            have HP := Lib.hid (HA8.out.play HL100.out HRES.out (m1, m2, m3) (legalB_all.2 (by rw [← HLL.out]; exact List.mem_of_getElem? hx5)))
            unfold moveV at HP
            dsimp only at d0 d1 d2
            clear hcell hx5 HA8 HI8
            go_wp2_with fail
            go_at_call 14; refine HP.out.mono ?_; rintro e w10 ⟨rfl, hga⟩
            have HA13 := Lib.hid hga
            have HE13 : Hid ((ms ++ [(m1, m2, m3)]).length ≤ k + 1) := Lib.hid (by have := hEs.out; simp; omega)
            clear hga HP d0 d1 d2
            go_wp2_with fail
            go_roundw
            case rel => exact ⟨k + 1, _, _, _, by omega, by go_num, HA13, HE13⟩
            case measure => simp [intOf]; omega
          · have hxb : (X != 0) = true := by simpa using hres
            have HA := HA8
            have HBR := HBR8
            obtain ⟨wr2, hwr2⟩ : ∃ W, W = w8 := ⟨_, rfl⟩
            rw [← hwr2] at HA HBR
            clear HA8 HBR8 HB7 HI8 HLN7 HLL HLN hres
            go_wp2_with fail
            rw [← hwr2]
            clear hwr2
            obtain ⟨⟨D0, hg0, hD0⟩, hbw, hch⟩ := HA.out
            have HCH := Lib.hid hch
            have HD0 := Lib.hid hD0
            have HDL : Hid (∀ k, D0 k → k < wr2.heap.size) := Lib.hid hg0.ok.2.2.1
            obtain ⟨n, hn⟩ : ∃ n, n = ms.length := ⟨_, rfl⟩
            have HMF := Lib.hid (gmoves_fresh hg0 HL100.out)
            have HG0 := Lib.hid hg0
            have hn24 : n ≤ 24 := by rw [hn]; exact HLE.out
            have HN := Lib.hid hn
            clear hg0 hD0 hbw hch hn
            go_at_call 17; refine HMF.out.mono ?_; rintro e w20 ⟨ma, mn, mk, rfl, hmf, hmn', hb⟩
            obtain rfl : mn = n := by rw [hmn', HN.out]
            have HB20 := Lib.hid hb
            have HMS20 := Lib.hid hmf
            have HPO := Lib.hid (gposition_any (HG0.out.keep hb))
            clear hb hmf hmn' HMF
            go_wp2_with fail
            go_at_call 12; refine HPO.out.mono ?_; rintro e w21 ⟨ca, cn, cc, a0, n0, c0, a1, n1, c1, rfl, hpf, hb⟩
            have HB21 := Lib.hid (HB20.out.trans (hb.mono HB20.out.size))
            have HMS21 := Lib.hid (movesBlk_on (fun k _ hk => hb.block k hk) HMS20.out)
            have HPF21 : Hid (PlaceF (fun k => wr2.heap.size ≤ k) w21 q (.slice ca cn cc) (.slice a0 n0 c0) (.slice a1 n1 c1)) := Lib.hid (hpf.on (fun _ _ _ => rfl) (fun k hk => Nat.le_trans HB20.out.size hk))
            obtain ⟨X, hX⟩ : ∃ X, X = resG r q es := ⟨_, rfl⟩
            obtain ⟨C, hC⟩ : ∃ C, C = countG q es := ⟨_, rfl⟩
            have HX := Lib.hid hX
            have HC := Lib.hid hC
            have hC2 : C ≤ 25 := by have h1 := (countG_le q es).2; have h2 := HCH.out.len; have h3 := HN.out; omega
            have HRS := Lib.hid ((HA.out.keep HB21.out).result HL100.out)
            rw [← hX] at HRS
            clear hb hpf hX hC HMS20 HPO
            go_wp2_with fail
            go_at_call 13; refine HRS.out.mono ?_; rintro e w22 ⟨rfl, hb⟩
            have HB22 := Lib.hid (HB21.out.trans (hb.mono HB21.out.size))
            have HMS22 := Lib.hid (movesBlk_on (fun k _ hk => hb.block k hk) HMS21.out)
            have HPF22 := Lib.hid (HPF21.out.on (e := fun k => wr2.heap.size ≤ k) (fun k _ hk => hb.block k hk) (fun _ h => h))
            have HCT := Lib.hid ((HA.out.keep HB22.out).count HL100.out)
            rw [← HC.out] at HCT
            clear hb HMS21 HPF21 HRS
            go_wp2_with fail
            go_at_call 22; refine HCT.out.mono ?_; rintro e w23 ⟨rfl, hb⟩
            have hb23 := HB22.out.trans (hb.mono HB22.out.size)
            have hms := movesBlk_on (fun k _ hk => hb.block k hk) HMS22.out
            have hpf := HPF22.out.on (e := fun k => wr2.heap.size ≤ k) (fun k _ hk => hb.block k hk) (fun _ h => h)
            have hal := (Below.refl w23.heap.size w23).alloc (Nat.le_refl _) (.cells (PlaceCells q (.slice ca cn cc) (.slice a0 n0 c0) (.slice a1 n1 c1)) 38)
            have hST : Stay wr2.heap.size (w23.alloc (.cells (PlaceCells q (.slice ca cn cc) (.slice a0 n0 c0) (.slice a1 n1 c1)) 38)) (.slice ma mn mk) ms w23.heap.size q (.slice ca cn cc) (.slice a0 n0 c0) (.slice a1 n1 c1) :=
              ⟨movesBlk_on (fun k _ hk => hal.block k hk) hms, hpf.on (fun k _ hk => hal.block k hk) (fun _ h => h), PBox.new _ _ _ _ _ _, hb23.size⟩
            have hGR := GR.zero (HG0.out.keep (hb23.trans (hal.mono hb23.size))) HCH.out
            have HBW := Lib.hid (hb23.trans (hal.mono hb23.size))
            have HST := Lib.hid hST
            have HGR := Lib.hid hGR
            unfold PlaceCells at HST HGR HBW
            clear hb hb23 hms hpf hal hST hGR HMS22 HPF22 HCT HG0
            obtain ⟨t, ht, ⟨t1, t2⟩, j, hj, hjn⟩ := some_rem z (n := mn + 1) (by omega)
            have hcast : ((mn + 1 : Nat) : Int) = (mn : Int) + 1 := by omega
            rw [hcast] at ht t1 t2 hj
            rw [← Int.add_assoc] at hj
            have hw1 : IntKind.i64.wrap ((mn : Int) + 1) = (mn : Int) + 1 := IntWalk.i64_in _ (by omega)
            have hw2 : IntKind.i64.wrap (t + (mn : Int)) = t + (mn : Int) := IntWalk.i64_in _ (by omega)
            have hw3 : IntKind.i64.wrap (t + (mn : Int) + 1) = t + (mn : Int) + 1 := IntWalk.i64_in _ (by omega)
            have hne1 : ((mn : Int) + 1 == 0) = false := by simp; omega
            have hjn : j ≤ mn := by omega
            clear hcast
            go_wp2_with fail
            generalize w23.alloc (.cells #[.slice ca cn cc, .slice a0 n0 c0, .slice a1 n1 c1, .int .i64 q.turn, .int .i64 q.quiet] 38) = W0 at HST HGR HBW ⊢
            generalize w23.heap.size = pb at HST ⊢
            have HTK0 : Hid (ms.take (mn - 0) = ms) := Lib.hid (List.take_of_length_le (by rw [← HN.out]; exact Nat.le_refl _))
            have HGR1 : Hid (GR W1 D0 W0 W0 bb r q es (ms.take (mn - 0))) := Lib.hid (by rw [HTK0.out]; exact HGR.out)
            clear ht hj hw1 hw2 hw3 hne1 t1 t2 HTK0 HGR
            go_loopw [99] (fun i wr => ∃ (k : Nat) (q' : PlaceD) (es' : List PlaceD), k ≤ j ∧ i = .int .i64 (k : Int) ∧ Hid (GR W1 D0 W0 wr bb r q' es' (ms.take (mn - k)))) (fun i _ => j - (intOf i).toNat)
            case atStart => exact ⟨0, q, es, by omega, rfl, HGR1⟩
            case round =>
              clear HGR1
              obtain ⟨k, q', es', hk, rfl, hG⟩ := hrel
              by_cases hlt : k < j
              · obtain ⟨m0, hm0⟩ : ∃ m0, ms[mn - (k + 1)]? = some m0 := ⟨_, List.getElem?_eq_getElem (by have := HN.out; omega)⟩
                have hts : ms.take (mn - k) = ms.take (mn - (k + 1)) ++ [m0] := by
                  have e : mn - k = mn - (k + 1) + 1 := by omega
                  rw [e]; exact take_snoc hm0
                obtain ⟨p', fs, _, hbk⟩ := hG.out.back hts (by rw [List.length_take]; have := HN.out; omega)
                have HU := Lib.hid (hbk _ (Below.refl _ _))
                clear hm0 hts hbk hG
                go_wp2_with fail
                go_at_call 10; refine HU.out.mono ?_; rintro e w24 ⟨rfl, hgr⟩
                have HG24 := Lib.hid hgr
                clear hgr HU
                go_wp2_with fail
                go_roundw
                case rel => exact ⟨k + 1, p', fs, by omega, by go_num, HG24⟩
                case measure => simp [intOf]; omega
              · obtain rfl : k = j := by omega
                obtain ⟨s, hs⟩ : ∃ s, s = mn - k := ⟨_, rfl⟩
                rw [← hs] at hG
                have hsn : s ≤ mn := by omega
                have HGK := Lib.hid (hG.out.gat HD0.out (HA.out.bel.trans (HBW.out.mono HA.out.bel.size)))
                have HMV : Hid (Calls Tryz.prog 17 #[.pointer (some ⟨bb, 0, none⟩)] wr (fun e w' => ∃ a c, e = .returned (.slice a s c) ∧ Below wr.heap.size wr w')) := Lib.hid ((HGK.out.moves (by rw [List.length_take]; omega)).mono fun _ _ ⟨a, n', c, h1, _, h2, h3⟩ => ⟨a, c, by rw [h1, h2, List.length_take, ← HN.out, Nat.min_eq_left hsn], h3⟩)
                have HSF : Hid (∀ W, Fram D0 W0 W → Stay wr2.heap.size W (.slice ma mn mk) ms pb q (.slice ca cn cc) (.slice a0 n0 c0) (.slice a1 n1 c1)) := Lib.hid (fun W h => HST.out.fram HDL.out h)
                clear HGK hs
                go_wp2_with fail
                go_at_call 17; refine HMV.out.mono ?_; rintro e w25 ⟨xa2, xc2, rfl, hb⟩
                have HG25 := Lib.hid (hG.out.keep hb)
                clear hb hG HMV
                have hST25 := HSF.out _ HG25.out.fram
                obtain ⟨la', lc', e1, hcp, hcell⟩ := (hST25.l).shape HN.out
                simp only [Value.slice.injEq] at e1
                obtain ⟨rfl, -, rfl⟩ := e1
                obtain ⟨A, hA1, hsl⟩ := slice_fromM ma mn mk s hsn hcp
                have HCL : Hid (∀ i, s + i < mn → ∃ g o m1 m2 m3, A = some ⟨g, o, none⟩ ∧ ms[s + i]? = some (m1, m2, m3) ∧ ∀ W, Fram D0 W0 W → W.cell? ⟨g, o + i * 3, none⟩ = some (.int .i64 m1) ∧ W.cell? ⟨g, o + i * 3 + 1, none⟩ = some (.int .i64 m2) ∧ W.cell? ⟨g, o + i * 3 + 2, none⟩ = some (.int .i64 m3)) := Lib.hid (fun i hi => by
                  obtain ⟨g, o, ⟨m1, m2, m3⟩, hma, hm, hd⟩ := hcell (s + i) hi
                  refine ⟨g, o + s * 3, m1, m2, m3, hA1 (by omega) g o hma, hm, fun W hW => ?_⟩
                  obtain ⟨la2, lc2, e1, _, hcell2⟩ := ((HSF.out W hW).l).shape HN.out
                  simp only [Value.slice.injEq] at e1
                  obtain ⟨rfl, -, rfl⟩ := e1
                  obtain ⟨g', o', m', hma', hm', _, d0, d1, d2⟩ := hcell2 (s + i) hi
                  rw [hma] at hma'
                  simp only [Option.some.injEq, Addr.mk.injEq, and_true] at hma'
                  obtain ⟨rfl, rfl⟩ := hma'
                  rw [hm] at hm'
                  obtain rfl := Option.some.inj hm'
                  have e2 : o + s * 3 + i * 3 = o + (s + i) * 3 := by omega
                  rw [e2]
                  exact ⟨d0, d1, d2⟩)
                obtain ⟨u, hu⟩ : ∃ u, u = mn - s := ⟨_, rfl⟩
                obtain ⟨uc, huc⟩ : ∃ u, u = mk - s := ⟨_, rfl⟩
                have hucc : u ≤ uc := by omega
                rw [← hu, ← huc] at hsl
                have hus : s + u = mn := by omega
                clear hST25 hcell hA1 hu huc
                go_wp2_with fail
                have HG26 : Hid (GR W1 D0 W0 w25 bb r q' es' (ms.take (s + 0))) := Lib.hid HG25.out
                clear HG25 hsl
                go_loopw [19, 111] (fun _ i wr => ∃ (k : Nat) (q' : PlaceD) (es' : List PlaceD), k ≤ u ∧ i = .int .i64 (k : Int) ∧ Hid (GR W1 D0 W0 wr bb r q' es' (ms.take (s + k)))) (fun _ i _ => u - (intOf i).toNat)
                case atStart => exact ⟨0, q', es', by omega, rfl, HG26⟩
                case round =>
                  clear HG26
                  obtain ⟨k2, q2, es2, hk2, rfl, hG⟩ := hrel
                  by_cases hlt2 : k2 < u
                  · obtain ⟨g2, o2, m1, m2, m3, rfl, hm0, hcw⟩ := HCL.out k2 (by omega)
                    obtain ⟨d0, d1, d2⟩ := hcw wr hG.out.fram
                    have hal := (Below.refl wr.heap.size wr).alloc (Nat.le_refl _) (.cells #[.int .i64 m1, .int .i64 m2, .int .i64 m3] 43)
                    have hmb := heap_alloc_new wr (.cells #[.int .i64 m1, .int .i64 m2, .int .i64 m3] 43)
                    have hmc : ∀ i, (wr.alloc (.cells #[.int .i64 m1, .int .i64 m2, .int .i64 m3] 43)).cell? ⟨wr.heap.size, i, none⟩ = (#[.int .i64 m1, .int .i64 m2, .int .i64 m3] : Array Value)[i]? := fun i => cell_of_row _ _ i _ _ (0, 0) hmb
                    have f0 := hmc 0
                    have f1 := hmc 1
                    have f2 := hmc 2
                    obtain ⟨D9, _, _, _, hch2⟩ := hG.out
                    obtain ⟨hr0, hl0, hch3⟩ := HCH.out.next hch2 hm0
                    have HP := Lib.hid ((hG.out.keep hal).play (by rw [List.length_take]; omega) hr0 (m1, m2, m3) hl0)
                    have HTS : Hid (ms.take (s + (k2 + 1)) = ms.take (s + k2) ++ [(m1, m2, m3)]) := Lib.hid (take_snoc hm0)
                    rw [← HTS.out] at HP
                    unfold moveV at HP
                    clear hal hmb hmc hch2 hch3 hr0 hl0 hcw hm0 hG HTS
                    go_wp2_with fail
                    generalize wr.alloc (.cells #[.int .i64 m1, .int .i64 m2, .int .i64 m3] 43) = w26 at HP f0 f1 f2 ⊢
                    go_at_call 14; refine HP.out.mono ?_; rintro e w27 ⟨rfl, hgr⟩
                    have HG27 := Lib.hid hgr
                    clear hgr HP f0 f1 f2 d0 d1 d2
                    go_wp2_with fail
                    go_roundw
                    case rel => exact ⟨k2 + 1, _, _, by omega, by go_num, HG27⟩
                    case measure => simp [intOf]; omega
                  · obtain rfl : k2 = u := by omega
                    have hG := hG.out
                    have htk : ms.take (s + k2) = ms := List.take_of_length_le (by rw [hus, HN.out]; exact Nat.le_refl _)
                    rw [htk] at hG
                    have hg := hG
                    obtain ⟨D9, hg9, hd9, hf9, hch9⟩ := hg
                    obtain ⟨e1, e2⟩ := hch9.fn HCH.out
                    subst e1 e2
                    have hST := HSF.out _ hf9
                    have HGA := Lib.hid (hG.gat HD0.out (HA.out.bel.trans (HBW.out.mono HA.out.bel.size)))
                    have HML := Lib.hid (hST.l.mono (q' := MoveAt) (fun _ _ _ h => h.2))
                    have HPL := Lib.hid hST.p.plain
                    have HBX := Lib.hid hST.b
                    have HMV : Hid (∀ W, Below wr.heap.size wr W → Calls Tryz.prog 17 #[.pointer (some ⟨bb, 0, none⟩)] W (GMoves ms W)) := Lib.hid (fun W h => (HGA.out.keep h).moves HL100.out)
                    have HPP : Hid (∀ W, Below wr.heap.size wr W → Calls Tryz.prog 12 #[.pointer (some ⟨bb, 0, none⟩)] W (PosPost q2 W)) := Lib.hid (fun W h => (HGA.out.keep h).position)
                    have HRS : Hid (∀ W, Below wr.heap.size wr W → Calls Tryz.prog 13 #[.pointer (some ⟨bb, 0, none⟩)] W (BelPost (.int .i64 X) W)) := Lib.hid (fun W h => by rw [HX.out]; exact (HGA.out.keep h).result HL100.out)
                    have HCN : Hid (∀ W, Below wr.heap.size wr W → Calls Tryz.prog 22 #[.pointer (some ⟨bb, 0, none⟩)] W (BelPost (.int .i64 (C : Int)) W)) := Lib.hid (fun W h => by rw [HC.out]; exact (HGA.out.keep h).count HL100.out)
                    have HEQ : Hid (∀ W a n c, Below wr.heap.size wr W → IsSl MoveAt 3 W (.slice a n c) ms → Calls Tryz.prog 33 #[.slice ma mn mk, .slice a n c] W (BelPost (.bool true) W)) := Lib.hid (fun W a n c h h2 => equalMoves_same ms ma a mn n mk c W (HML.out.below move_keeps h (Nat.le_refl _)) h2 (by have := HL100.out; omega))
                    have HSM : Hid (∀ W b1 b2 b3, Below wr.heap.size wr W → PlaceIn W q2 b1 b2 b3 → Calls Tryz.prog 34 #[PlaceV q2 (.slice ca cn cc) (.slice a0 n0 c0) (.slice a1 n1 c1), PlaceV q2 b1 b2 b3] W (BelPost (.bool true) W)) := Lib.hid (fun W b1 b2 b3 h h2 => bsame_eq q2 _ _ _ _ _ _ W (HPL.out.below h (Nat.le_refl _)) h2 HPQ.out.short)
                    have HS2 : Hid (∀ W', Below wr.heap.size wr W' → W'.cell? ⟨pb, 0, none⟩ = some (.slice ca cn cc) ∧ W'.cell? ⟨pb, 1, none⟩ = some (.slice a0 n0 c0) ∧ W'.cell? ⟨pb, 2, none⟩ = some (.slice a1 n1 c1) ∧ W'.cell? ⟨pb, 3, none⟩ = some (.int .i64 q2.turn) ∧ W'.cell? ⟨pb, 4, none⟩ = some (.int .i64 q2.quiet)) := Lib.hid (fun W' hb => by
                      obtain ⟨⟨e0, e1, e2, e3, e4⟩, -⟩ := (HBX.out.below hb HBX.out.lt).facts
                      exact ⟨e0, e1, e2, e3, e4⟩)
                    have hXX : (X == X) = true := by simp
                    have hCC : ((C : Int) == (C : Int)) = true := by simp
                    unfold PlaceV PlaceCells at HSM
                    have HBE0 := Lib.hid (HB.out.trans ((HB3.out.trans (HGA.out.bel.mono HB3.out.size)).mono HB.out.size))
                    clear htk hg9 hd9 hf9 hch9 hG hST
                    obtain ⟨e0, e1, e2, e3, e4⟩ := HS2.out wr (Below.refl _ _)
                    go_wp2_with fail
                    have hBc : Below wr.heap.size wr wr.drew := (Below.refl _ _).drew
                    go_region_held3 (fun w' => w'.cell? ⟨pb, 0, none⟩ = some (.slice ca cn cc) ∧ w'.cell? ⟨pb, 1, none⟩ = some (.slice a0 n0 c0) ∧ w'.cell? ⟨pb, 2, none⟩ = some (.slice a1 n1 c1) ∧ w'.cell? ⟨pb, 3, none⟩ = some (.int .i64 q2.turn) ∧ w'.cell? ⟨pb, 4, none⟩ = some (.int .i64 q2.quiet)) (with_reducible exact HS2.out _ hBc) (first
                      | (go_at_call 17; refine (HMV.out _ hBc).mono ?_; rintro e w30 ⟨na, nn, nc, rfl, hI, -, hb⟩; have hB5 : Below wr.heap.size wr w30 := hBc.trans (hb.mono hBc.size); have hBc := hB5; have HI := Lib.hid hI; clear hb hI)
                      | (go_at_call 33; refine (HEQ.out _ _ _ _ hBc (by first | exact HI.out | exact HI.out.below move_keeps (Below.refl _ _).drew (Nat.le_refl _))).mono ?_; rintro e w31 ⟨rfl, hb⟩; have hB5 : Below wr.heap.size wr w31 := hBc.trans (hb.mono hBc.size); have hBc := hB5; clear hb HI)
                      | (go_at_call 12; refine (HPP.out _ hBc).mono ?_; rintro e w32 ⟨ta, tn, tc, t0, tn0, tc0, t1, tn1, tc1, rfl, hpf, hb⟩; have hB5 : Below wr.heap.size wr w32 := hBc.trans (hb.mono hBc.size); have hBc := hB5; have HPJ := Lib.hid hpf.plain; clear hb hpf)
                      | (go_at_call 34; refine (HSM.out _ _ _ _ hBc (by first | exact HPJ.out | exact HPJ.out.below (Below.refl _ _).drew (Nat.le_refl _))).mono ?_; rintro e w33 ⟨rfl, hb⟩; have hB5 : Below wr.heap.size wr w33 := hBc.trans (hb.mono hBc.size); have hBc := hB5; clear hb HPJ)
                      | (go_at_call 13; refine (HRS.out _ hBc).mono ?_; rintro e w34 ⟨rfl, hb⟩; have hB5 : Below wr.heap.size wr w34 := hBc.trans (hb.mono hBc.size); have hBc := hB5; clear hb)
                      | (go_at_call 22; refine (HCN.out _ hBc).mono ?_; rintro e w35 ⟨rfl, hb⟩; have hB5 : Below wr.heap.size wr w35 := hBc.trans (hb.mono hBc.size); have hBc := hB5; clear hb))
                    have HBE := Lib.hid (HBE0.out.trans (hB5.mono HBE0.out.size))
                    clear hB5 hBc e0 e1 e2 e3 e4
                    go_wp2_with fail
                    go_ret
                    exact ⟨rfl, HBE.out⟩
      · have HA := hA
        have HBR := HBR
        obtain ⟨wr2, hwr2⟩ : ∃ W, W = wr := ⟨_, rfl⟩
        rw [← hwr2] at HA HBR
        clear hA
        go_wp2_with fail
        rw [← hwr2]
        clear hwr2
        obtain ⟨⟨D0, hg0, hD0⟩, hbw, hch⟩ := HA.out
        have HCH := Lib.hid hch
        have HD0 := Lib.hid hD0
        have HDL : Hid (∀ k, D0 k → k < wr2.heap.size) := Lib.hid hg0.ok.2.2.1
        obtain ⟨n, hn⟩ : ∃ n, n = ms.length := ⟨_, rfl⟩
        have HMF := Lib.hid (gmoves_fresh hg0 HL100.out)
        have HG0 := Lib.hid hg0
        have hn24 : n ≤ 24 := by rw [hn]; exact HLE.out
        have HN := Lib.hid hn
        clear hg0 hD0 hbw hch hn
        go_at_call 17; refine HMF.out.mono ?_; rintro e w20 ⟨ma, mn, mk, rfl, hmf, hmn', hb⟩
        obtain rfl : mn = n := by rw [hmn', HN.out]
        have HB20 := Lib.hid hb
        have HMS20 := Lib.hid hmf
        have HPO := Lib.hid (gposition_any (HG0.out.keep hb))
        clear hb hmf hmn' HMF
        go_wp2_with fail
        go_at_call 12; refine HPO.out.mono ?_; rintro e w21 ⟨ca, cn, cc, a0, n0, c0, a1, n1, c1, rfl, hpf, hb⟩
        have HB21 := Lib.hid (HB20.out.trans (hb.mono HB20.out.size))
        have HMS21 := Lib.hid (movesBlk_on (fun k _ hk => hb.block k hk) HMS20.out)
        have HPF21 : Hid (PlaceF (fun k => wr2.heap.size ≤ k) w21 q (.slice ca cn cc) (.slice a0 n0 c0) (.slice a1 n1 c1)) := Lib.hid (hpf.on (fun _ _ _ => rfl) (fun k hk => Nat.le_trans HB20.out.size hk))
        obtain ⟨X, hX⟩ : ∃ X, X = resG r q es := ⟨_, rfl⟩
        obtain ⟨C, hC⟩ : ∃ C, C = countG q es := ⟨_, rfl⟩
        have HX := Lib.hid hX
        have HC := Lib.hid hC
        have hC2 : C ≤ 25 := by have h1 := (countG_le q es).2; have h2 := HCH.out.len; have h3 := HN.out; omega
        have HRS := Lib.hid ((HA.out.keep HB21.out).result HL100.out)
        rw [← hX] at HRS
        clear hb hpf hX hC HMS20 HPO
        go_wp2_with fail
        go_at_call 13; refine HRS.out.mono ?_; rintro e w22 ⟨rfl, hb⟩
        have HB22 := Lib.hid (HB21.out.trans (hb.mono HB21.out.size))
        have HMS22 := Lib.hid (movesBlk_on (fun k _ hk => hb.block k hk) HMS21.out)
        have HPF22 := Lib.hid (HPF21.out.on (e := fun k => wr2.heap.size ≤ k) (fun k _ hk => hb.block k hk) (fun _ h => h))
        have HCT := Lib.hid ((HA.out.keep HB22.out).count HL100.out)
        rw [← HC.out] at HCT
        clear hb HMS21 HPF21 HRS
        go_wp2_with fail
        go_at_call 22; refine HCT.out.mono ?_; rintro e w23 ⟨rfl, hb⟩
        have hb23 := HB22.out.trans (hb.mono HB22.out.size)
        have hms := movesBlk_on (fun k _ hk => hb.block k hk) HMS22.out
        have hpf := HPF22.out.on (e := fun k => wr2.heap.size ≤ k) (fun k _ hk => hb.block k hk) (fun _ h => h)
        have hal := (Below.refl w23.heap.size w23).alloc (Nat.le_refl _) (.cells (PlaceCells q (.slice ca cn cc) (.slice a0 n0 c0) (.slice a1 n1 c1)) 38)
        have hST : Stay wr2.heap.size (w23.alloc (.cells (PlaceCells q (.slice ca cn cc) (.slice a0 n0 c0) (.slice a1 n1 c1)) 38)) (.slice ma mn mk) ms w23.heap.size q (.slice ca cn cc) (.slice a0 n0 c0) (.slice a1 n1 c1) :=
          ⟨movesBlk_on (fun k _ hk => hal.block k hk) hms, hpf.on (fun k _ hk => hal.block k hk) (fun _ h => h), PBox.new _ _ _ _ _ _, hb23.size⟩
        have hGR := GR.zero (HG0.out.keep (hb23.trans (hal.mono hb23.size))) HCH.out
        have HBW := Lib.hid (hb23.trans (hal.mono hb23.size))
        have HST := Lib.hid hST
        have HGR := Lib.hid hGR
        unfold PlaceCells at HST HGR HBW
        clear hb hb23 hms hpf hal hST hGR HMS22 HPF22 HCT HG0
        obtain ⟨t, ht, ⟨t1, t2⟩, j, hj, hjn⟩ := some_rem z (n := mn + 1) (by omega)
        have hcast : ((mn + 1 : Nat) : Int) = (mn : Int) + 1 := by omega
        rw [hcast] at ht t1 t2 hj
        rw [← Int.add_assoc] at hj
        have hw1 : IntKind.i64.wrap ((mn : Int) + 1) = (mn : Int) + 1 := IntWalk.i64_in _ (by omega)
        have hw2 : IntKind.i64.wrap (t + (mn : Int)) = t + (mn : Int) := IntWalk.i64_in _ (by omega)
        have hw3 : IntKind.i64.wrap (t + (mn : Int) + 1) = t + (mn : Int) + 1 := IntWalk.i64_in _ (by omega)
        have hne1 : ((mn : Int) + 1 == 0) = false := by simp; omega
        have hjn : j ≤ mn := by omega
        clear hcast
        go_wp2_with fail
        generalize w23.alloc (.cells #[.slice ca cn cc, .slice a0 n0 c0, .slice a1 n1 c1, .int .i64 q.turn, .int .i64 q.quiet] 38) = W0 at HST HGR HBW ⊢
        generalize w23.heap.size = pb at HST ⊢
        have HTK0 : Hid (ms.take (mn - 0) = ms) := Lib.hid (List.take_of_length_le (by rw [← HN.out]; exact Nat.le_refl _))
        have HGR1 : Hid (GR W1 D0 W0 W0 bb r q es (ms.take (mn - 0))) := Lib.hid (by rw [HTK0.out]; exact HGR.out)
        clear ht hj hw1 hw2 hw3 hne1 t1 t2 HTK0 HGR
        go_loopw [99] (fun i wr => ∃ (k : Nat) (q' : PlaceD) (es' : List PlaceD), k ≤ j ∧ i = .int .i64 (k : Int) ∧ Hid (GR W1 D0 W0 wr bb r q' es' (ms.take (mn - k)))) (fun i _ => j - (intOf i).toNat)
        case atStart => exact ⟨0, q, es, by omega, rfl, HGR1⟩
        case round =>
          clear HGR1
          obtain ⟨k, q', es', hk, rfl, hG⟩ := hrel
          by_cases hlt : k < j
          · obtain ⟨m0, hm0⟩ : ∃ m0, ms[mn - (k + 1)]? = some m0 := ⟨_, List.getElem?_eq_getElem (by have := HN.out; omega)⟩
            have hts : ms.take (mn - k) = ms.take (mn - (k + 1)) ++ [m0] := by
              have e : mn - k = mn - (k + 1) + 1 := by omega
              rw [e]; exact take_snoc hm0
            obtain ⟨p', fs, _, hbk⟩ := hG.out.back hts (by rw [List.length_take]; have := HN.out; omega)
            have HU := Lib.hid (hbk _ (Below.refl _ _))
            clear hm0 hts hbk hG
            go_wp2_with fail
            go_at_call 10; refine HU.out.mono ?_; rintro e w24 ⟨rfl, hgr⟩
            have HG24 := Lib.hid hgr
            clear hgr HU
            go_wp2_with fail
            go_roundw
            case rel => exact ⟨k + 1, p', fs, by omega, by go_num, HG24⟩
            case measure => simp [intOf]; omega
          · obtain rfl : k = j := by omega
            obtain ⟨s, hs⟩ : ∃ s, s = mn - k := ⟨_, rfl⟩
            rw [← hs] at hG
            have hsn : s ≤ mn := by omega
            have HGK := Lib.hid (hG.out.gat HD0.out (HA.out.bel.trans (HBW.out.mono HA.out.bel.size)))
            have HMV : Hid (Calls Tryz.prog 17 #[.pointer (some ⟨bb, 0, none⟩)] wr (fun e w' => ∃ a c, e = .returned (.slice a s c) ∧ Below wr.heap.size wr w')) := Lib.hid ((HGK.out.moves (by rw [List.length_take]; omega)).mono fun _ _ ⟨a, n', c, h1, _, h2, h3⟩ => ⟨a, c, by rw [h1, h2, List.length_take, ← HN.out, Nat.min_eq_left hsn], h3⟩)
            have HSF : Hid (∀ W, Fram D0 W0 W → Stay wr2.heap.size W (.slice ma mn mk) ms pb q (.slice ca cn cc) (.slice a0 n0 c0) (.slice a1 n1 c1)) := Lib.hid (fun W h => HST.out.fram HDL.out h)
            clear HGK hs
            go_wp2_with fail
            go_at_call 17; refine HMV.out.mono ?_; rintro e w25 ⟨xa2, xc2, rfl, hb⟩
            have HG25 := Lib.hid (hG.out.keep hb)
            clear hb hG HMV
            have hST25 := HSF.out _ HG25.out.fram
            obtain ⟨la', lc', e1, hcp, hcell⟩ := (hST25.l).shape HN.out
            simp only [Value.slice.injEq] at e1
            obtain ⟨rfl, -, rfl⟩ := e1
            obtain ⟨A, hA1, hsl⟩ := slice_fromM ma mn mk s hsn hcp
            have HCL : Hid (∀ i, s + i < mn → ∃ g o m1 m2 m3, A = some ⟨g, o, none⟩ ∧ ms[s + i]? = some (m1, m2, m3) ∧ ∀ W, Fram D0 W0 W → W.cell? ⟨g, o + i * 3, none⟩ = some (.int .i64 m1) ∧ W.cell? ⟨g, o + i * 3 + 1, none⟩ = some (.int .i64 m2) ∧ W.cell? ⟨g, o + i * 3 + 2, none⟩ = some (.int .i64 m3)) := Lib.hid (fun i hi => by
              obtain ⟨g, o, ⟨m1, m2, m3⟩, hma, hm, hd⟩ := hcell (s + i) hi
              refine ⟨g, o + s * 3, m1, m2, m3, hA1 (by omega) g o hma, hm, fun W hW => ?_⟩
              obtain ⟨la2, lc2, e1, _, hcell2⟩ := ((HSF.out W hW).l).shape HN.out
              simp only [Value.slice.injEq] at e1
              obtain ⟨rfl, -, rfl⟩ := e1
              obtain ⟨g', o', m', hma', hm', _, d0, d1, d2⟩ := hcell2 (s + i) hi
              rw [hma] at hma'
              simp only [Option.some.injEq, Addr.mk.injEq, and_true] at hma'
              obtain ⟨rfl, rfl⟩ := hma'
              rw [hm] at hm'
              obtain rfl := Option.some.inj hm'
              have e2 : o + s * 3 + i * 3 = o + (s + i) * 3 := by omega
              rw [e2]
              exact ⟨d0, d1, d2⟩)
            obtain ⟨u, hu⟩ : ∃ u, u = mn - s := ⟨_, rfl⟩
            obtain ⟨uc, huc⟩ : ∃ u, u = mk - s := ⟨_, rfl⟩
            have hucc : u ≤ uc := by omega
            rw [← hu, ← huc] at hsl
            have hus : s + u = mn := by omega
            clear hST25 hcell hA1 hu huc
            go_wp2_with fail
            have HG26 : Hid (GR W1 D0 W0 w25 bb r q' es' (ms.take (s + 0))) := Lib.hid HG25.out
            clear HG25 hsl
            go_loopw [19, 111] (fun _ i wr => ∃ (k : Nat) (q' : PlaceD) (es' : List PlaceD), k ≤ u ∧ i = .int .i64 (k : Int) ∧ Hid (GR W1 D0 W0 wr bb r q' es' (ms.take (s + k)))) (fun _ i _ => u - (intOf i).toNat)
            case atStart => exact ⟨0, q', es', by omega, rfl, HG26⟩
            case round =>
              clear HG26
              obtain ⟨k2, q2, es2, hk2, rfl, hG⟩ := hrel
              by_cases hlt2 : k2 < u
              · obtain ⟨g2, o2, m1, m2, m3, rfl, hm0, hcw⟩ := HCL.out k2 (by omega)
                obtain ⟨d0, d1, d2⟩ := hcw wr hG.out.fram
                have hal := (Below.refl wr.heap.size wr).alloc (Nat.le_refl _) (.cells #[.int .i64 m1, .int .i64 m2, .int .i64 m3] 43)
                have hmb := heap_alloc_new wr (.cells #[.int .i64 m1, .int .i64 m2, .int .i64 m3] 43)
                have hmc : ∀ i, (wr.alloc (.cells #[.int .i64 m1, .int .i64 m2, .int .i64 m3] 43)).cell? ⟨wr.heap.size, i, none⟩ = (#[.int .i64 m1, .int .i64 m2, .int .i64 m3] : Array Value)[i]? := fun i => cell_of_row _ _ i _ _ (0, 0) hmb
                have f0 := hmc 0
                have f1 := hmc 1
                have f2 := hmc 2
                obtain ⟨D9, _, _, _, hch2⟩ := hG.out
                obtain ⟨hr0, hl0, hch3⟩ := HCH.out.next hch2 hm0
                have HP := Lib.hid ((hG.out.keep hal).play (by rw [List.length_take]; omega) hr0 (m1, m2, m3) hl0)
                have HTS : Hid (ms.take (s + (k2 + 1)) = ms.take (s + k2) ++ [(m1, m2, m3)]) := Lib.hid (take_snoc hm0)
                rw [← HTS.out] at HP
                unfold moveV at HP
                clear hal hmb hmc hch2 hch3 hr0 hl0 hcw hm0 hG HTS
                go_wp2_with fail
                generalize wr.alloc (.cells #[.int .i64 m1, .int .i64 m2, .int .i64 m3] 43) = w26 at HP f0 f1 f2 ⊢
                go_at_call 14; refine HP.out.mono ?_; rintro e w27 ⟨rfl, hgr⟩
                have HG27 := Lib.hid hgr
                clear hgr HP f0 f1 f2 d0 d1 d2
                go_wp2_with fail
                go_roundw
                case rel => exact ⟨k2 + 1, _, _, by omega, by go_num, HG27⟩
                case measure => simp [intOf]; omega
              · obtain rfl : k2 = u := by omega
                have hG := hG.out
                have htk : ms.take (s + k2) = ms := List.take_of_length_le (by rw [hus, HN.out]; exact Nat.le_refl _)
                rw [htk] at hG
                have hg := hG
                obtain ⟨D9, hg9, hd9, hf9, hch9⟩ := hg
                obtain ⟨e1, e2⟩ := hch9.fn HCH.out
                subst e1 e2
                have hST := HSF.out _ hf9
                have HGA := Lib.hid (hG.gat HD0.out (HA.out.bel.trans (HBW.out.mono HA.out.bel.size)))
                have HML := Lib.hid (hST.l.mono (q' := MoveAt) (fun _ _ _ h => h.2))
                have HPL := Lib.hid hST.p.plain
                have HBX := Lib.hid hST.b
                have HMV : Hid (∀ W, Below wr.heap.size wr W → Calls Tryz.prog 17 #[.pointer (some ⟨bb, 0, none⟩)] W (GMoves ms W)) := Lib.hid (fun W h => (HGA.out.keep h).moves HL100.out)
                have HPP : Hid (∀ W, Below wr.heap.size wr W → Calls Tryz.prog 12 #[.pointer (some ⟨bb, 0, none⟩)] W (PosPost q2 W)) := Lib.hid (fun W h => (HGA.out.keep h).position)
                have HRS : Hid (∀ W, Below wr.heap.size wr W → Calls Tryz.prog 13 #[.pointer (some ⟨bb, 0, none⟩)] W (BelPost (.int .i64 X) W)) := Lib.hid (fun W h => by rw [HX.out]; exact (HGA.out.keep h).result HL100.out)
                have HCN : Hid (∀ W, Below wr.heap.size wr W → Calls Tryz.prog 22 #[.pointer (some ⟨bb, 0, none⟩)] W (BelPost (.int .i64 (C : Int)) W)) := Lib.hid (fun W h => by rw [HC.out]; exact (HGA.out.keep h).count HL100.out)
                have HEQ : Hid (∀ W a n c, Below wr.heap.size wr W → IsSl MoveAt 3 W (.slice a n c) ms → Calls Tryz.prog 33 #[.slice ma mn mk, .slice a n c] W (BelPost (.bool true) W)) := Lib.hid (fun W a n c h h2 => equalMoves_same ms ma a mn n mk c W (HML.out.below move_keeps h (Nat.le_refl _)) h2 (by have := HL100.out; omega))
                have HSM : Hid (∀ W b1 b2 b3, Below wr.heap.size wr W → PlaceIn W q2 b1 b2 b3 → Calls Tryz.prog 34 #[PlaceV q2 (.slice ca cn cc) (.slice a0 n0 c0) (.slice a1 n1 c1), PlaceV q2 b1 b2 b3] W (BelPost (.bool true) W)) := Lib.hid (fun W b1 b2 b3 h h2 => bsame_eq q2 _ _ _ _ _ _ W (HPL.out.below h (Nat.le_refl _)) h2 HPQ.out.short)
                have HS2 : Hid (∀ W', Below wr.heap.size wr W' → W'.cell? ⟨pb, 0, none⟩ = some (.slice ca cn cc) ∧ W'.cell? ⟨pb, 1, none⟩ = some (.slice a0 n0 c0) ∧ W'.cell? ⟨pb, 2, none⟩ = some (.slice a1 n1 c1) ∧ W'.cell? ⟨pb, 3, none⟩ = some (.int .i64 q2.turn) ∧ W'.cell? ⟨pb, 4, none⟩ = some (.int .i64 q2.quiet)) := Lib.hid (fun W' hb => by
                  obtain ⟨⟨e0, e1, e2, e3, e4⟩, -⟩ := (HBX.out.below hb HBX.out.lt).facts
                  exact ⟨e0, e1, e2, e3, e4⟩)
                have hXX : (X == X) = true := by simp
                have hCC : ((C : Int) == (C : Int)) = true := by simp
                unfold PlaceV PlaceCells at HSM
                have HBE0 := Lib.hid (HB.out.trans ((HB3.out.trans (HGA.out.bel.mono HB3.out.size)).mono HB.out.size))
                clear htk hg9 hd9 hf9 hch9 hG hST
                obtain ⟨e0, e1, e2, e3, e4⟩ := HS2.out wr (Below.refl _ _)
                go_wp2_with fail
                have hBc : Below wr.heap.size wr wr.drew := (Below.refl _ _).drew
                go_region_held3 (fun w' => w'.cell? ⟨pb, 0, none⟩ = some (.slice ca cn cc) ∧ w'.cell? ⟨pb, 1, none⟩ = some (.slice a0 n0 c0) ∧ w'.cell? ⟨pb, 2, none⟩ = some (.slice a1 n1 c1) ∧ w'.cell? ⟨pb, 3, none⟩ = some (.int .i64 q2.turn) ∧ w'.cell? ⟨pb, 4, none⟩ = some (.int .i64 q2.quiet)) (with_reducible exact HS2.out _ hBc) (first
                  | (go_at_call 17; refine (HMV.out _ hBc).mono ?_; rintro e w30 ⟨na, nn, nc, rfl, hI, -, hb⟩; have hB5 : Below wr.heap.size wr w30 := hBc.trans (hb.mono hBc.size); have hBc := hB5; have HI := Lib.hid hI; clear hb hI)
                  | (go_at_call 33; refine (HEQ.out _ _ _ _ hBc (by first | exact HI.out | exact HI.out.below move_keeps (Below.refl _ _).drew (Nat.le_refl _))).mono ?_; rintro e w31 ⟨rfl, hb⟩; have hB5 : Below wr.heap.size wr w31 := hBc.trans (hb.mono hBc.size); have hBc := hB5; clear hb HI)
                  | (go_at_call 12; refine (HPP.out _ hBc).mono ?_; rintro e w32 ⟨ta, tn, tc, t0, tn0, tc0, t1, tn1, tc1, rfl, hpf, hb⟩; have hB5 : Below wr.heap.size wr w32 := hBc.trans (hb.mono hBc.size); have hBc := hB5; have HPJ := Lib.hid hpf.plain; clear hb hpf)
                  | (go_at_call 34; refine (HSM.out _ _ _ _ hBc (by first | exact HPJ.out | exact HPJ.out.below (Below.refl _ _).drew (Nat.le_refl _))).mono ?_; rintro e w33 ⟨rfl, hb⟩; have hB5 : Below wr.heap.size wr w33 := hBc.trans (hb.mono hBc.size); have hBc := hB5; clear hb HPJ)
                  | (go_at_call 13; refine (HRS.out _ hBc).mono ?_; rintro e w34 ⟨rfl, hb⟩; have hB5 : Below wr.heap.size wr w34 := hBc.trans (hb.mono hBc.size); have hBc := hB5; clear hb)
                  | (go_at_call 22; refine (HCN.out _ hBc).mono ?_; rintro e w35 ⟨rfl, hb⟩; have hB5 : Below wr.heap.size wr w35 := hBc.trans (hb.mono hBc.size); have hBc := hB5; clear hb))
                have HBE := Lib.hid (HBE0.out.trans (hB5.mono HBE0.out.size))
                clear hB5 hBc e0 e1 e2 e3 e4
                go_wp2_with fail
                go_ret
                exact ⟨rfl, HBE.out⟩
  · have HNB1 := Lib.hid (HNB.out hz)
    have hne := bool_of_ne hz
    clear HNG HNB HOK hz
    go_at_call 9; refine (HNB1.out _ HB3.out).mono ?_; rintro e w4 ⟨rfl, hb⟩
    have HBE := Lib.hid (HB.out.trans ((HB3.out.trans (hb.mono HB3.out.size)).mono HB.out.size))
    clear hb HB3 HNB1 y0 y1 y2 y3 y4 y5 y6 y7 y8 y9 y10
    go_wp2_with fail
    go_ret
    exact ⟨rfl, HBE.out⟩
end Go.Proofs.YtkficjpnflnjhaaGreatDoor
