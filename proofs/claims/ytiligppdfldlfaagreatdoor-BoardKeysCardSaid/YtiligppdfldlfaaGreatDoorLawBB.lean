/- The law BoardBack: moves that are made and taken back leave the position and its key. -/
import Derived.Test.YtiligppdfldlfaaGreatDoorBrdK
import Derived.Test.YtiligppdfldlfaaGreatDoorSomeM
import Derived.Test.YtiligppdfldlfaaGreatDoorOpnA
set_option maxRecDepth 100000
namespace Go.Proofs.YtiligppdfldlfaaGreatDoor
open Go.ChangeShapes Go.WideShapes Go.ChangeAt Go.RowKit

theorem head_snoc {q p : PlaceD} {es : List PlaceD} (h : (es ++ [q])[0]? = some p) (x : PlaceD) : ((es ++ [q]) ++ [x])[0]? = some p := by rw [List.getElem?_append_left (by simp)]; exact h
theorem last_of {es : List PlaceD} {n : Nat} (h : n + 1 = es.length) : ∃ fs x, es = fs ++ [x] ∧ fs.length = n := by
  have hne : es ≠ [] := fun e => by rw [e] at h; simp at h
  exact ⟨es.dropLast, es.getLast hne, (List.dropLast_concat_getLast hne).symm, by simp; omega⟩
theorem bool_of_ne {c : Int} (h : c ≠ 0) : (c != 0) = true := by simpa using h
theorem key_self (K : BitVec 64) : ((K.toNat : Int) == (K.toNat : Int)) = true := by simp
set_option maxHeartbeats 8000000 in
theorem boardBack_full (r : RulesD) (vp vs ve : Value) (p : PlaceD) (vc v0 v1 : Value) (xs : List Int) (xv : Value) (w : World) (hr : RulesIn w r vp vs ve) (hp : PlaceIn w p vc v0 v1) (hx : IsSl IntAt 1 w xv xs) (hT : Dir w) :
    Calls Tryz.prog 3 #[RulesV r vp vs ve, PlaceV p vc v0 v1, xv] w fun e w' => e = .returned (.bool true) ∧ Below w.heap.size w w' := by
  obtain ⟨V, hV⟩ : ∃ V, V = (w.alloc (.cells (RulesCells r vp vs ve) 26)).alloc (.cells (PlaceCells p vc v0 v1) 29) := ⟨_, rfl⟩
  obtain ⟨hB, hY, hX⟩ := rp_boxes w r p vp vs ve vc v0 v1
  rw [← hV] at hB hY hX
  have HB := Lib.hid hB
  have HIR : Hid (∀ W, Below V.heap.size V W → RulesIn W r vp vs ve) := Lib.hid (fun W h => (hr.below hB (Nat.le_refl _)).below h (Nat.le_refl _))
  have HIP : Hid (∀ W, Below V.heap.size V W → PlaceIn W p vc v0 v1) := Lib.hid (fun W h => (hp.below hB (Nat.le_refl _)).below h (Nat.le_refl _))
  have HT : Hid (∀ W, Below V.heap.size V W → Dir W) := Lib.hid (fun W h => (hT.below hB (Nat.le_refl _)).below h (Nat.le_refl _))
  have HX : Hid (∀ W, Below V.heap.size V W → BoxP W (w.heap.size + 1) p vc v0 v1) := Lib.hid (fun W hb => hX.below hb (Nat.le_refl _))
  have HY : Hid (∀ W, Below V.heap.size V W → BoxR W w.heap.size r vp vs ve) := Lib.hid (fun W hb => hY.below hb (Nat.le_refl _))
  obtain ⟨xa, xn, xc, rfl, hxn, hxc, hxs⟩ := hx.parts
  have HXS : Hid (∀ W, Below V.heap.size V W → ∀ k, k < xn → ∃ g o x, xa = some ⟨g, o, none⟩ ∧ W.cell? ⟨g, o + k, none⟩ = some (.int .i64 x)) := Lib.hid (fun W h k hk => by
    obtain ⟨g, o, x, e1, _, e3⟩ := hxs W (hB.trans (h.mono hB.size)) k hk
    exact ⟨g, o, x, e1, e3⟩)
  have hxm : xn ≤ maxLen := by rw [hxn]; exact hx.fit
  unfold maxLen at hxm
  obtain ⟨c, hc⟩ : ∃ c, c = placeE r p := ⟨_, rfl⟩
  have HOK : Hid (c = 0 → POkay r p) := Lib.hid (fun h => placeE_iff.1 (by rw [← hc]; exact h))
  have HNB : Hid (c ≠ 0 → ∀ W, Below V.heap.size V W → Calls Tryz.prog 8 #[RulesV r vp vs ve, PlaceV p vc v0 v1] W (NewBad c W)) := Lib.hid (fun hz W h => by rw [hc]; exact new_bad r p vp vs ve vc v0 v1 W (HIR.out W h) (HIP.out W h) (by rw [← hc]; exact hz))
  have HNG : Hid (c = 0 → ∀ W, Below V.heap.size V W → Calls Tryz.prog 8 #[RulesV r vp vs ve, PlaceV p vc v0 v1] W (NewB r p W)) := Lib.hid (fun hz W h => newB r p vp vs ve vc v0 v1 W (HIR.out W h) (HIP.out W h) (HOK.out hz) (HT.out W h))
  obtain ⟨x0, x1, x2, x3, x4⟩ := HX.out _ (Below.refl _ _)
  obtain ⟨y0, y1, y2, y3, y4, y5, y6, y7, y8, y9, y10⟩ := HY.out _ (Below.refl _ _)
  have hV' := hV
  unfold RulesCells PlaceCells at hV'
  unfold RulesV PlaceV PlaceCells at HNB HNG
  unfold RulesV PlaceV PlaceCells
  clear hr hp hc hB hX hY hT hxn hxs hx hV x0 x1 x2 x3 x4 y0 y1 y2 y3 y4 y5 y6 y7 y8 y9 y10
  go_enter Tryz.func3, Tryz.ntmps3
  go_wp2_with fail
  rw [← hV']
  clear hV'
  go_at_call 7; refine (boarded_any _ (HT.out _ (Below.refl _ _))).mono ?_; rintro e w1 ⟨rfl, hb⟩
  have HB1 := Lib.hid hb
  obtain ⟨x0, x1, x2, x3, x4⟩ := HX.out _ hb
  obtain ⟨y0, y1, y2, y3, y4, y5, y6, y7, y8, y9, y10⟩ := HY.out _ hb
  clear hb
  go_wp2_with fail
  by_cases hz : c = 0
  · have HNG1 := Lib.hid (HNG.out hz)
    have HPK := Lib.hid (HOK.out hz)
    clear HNG HNB HOK hz
    go_at_call 8; refine (HNG1.out _ HB1.out).mono ?_; rintro e w2 ⟨bb, W1, rfl, hba⟩
    have HA2 := Lib.hid hba
    obtain ⟨K, hK⟩ : ∃ K, K = keyZ p := ⟨_, rfl⟩
    have HK := Lib.hid hK
    have hkk := key_self K
    have hB2 := HB1.out.trans (hba.bel.mono HB1.out.size)
    have HKY := Lib.hid hba.key
    rw [← hK] at HKY
    clear hba HNG1 x0 x1 x2 x3 x4 y0 y1 y2 y3 y4 y5 y6 y7 y8 y9 y10 hK hB2
    go_wp2_with fail
    go_at_call 9; refine HKY.out.mono ?_; rintro e w3 ⟨rfl, hb⟩
    have HA3 := Lib.hid (HA2.out.keep hb)
    clear hb HA2 HKY
    obtain ⟨m, hm, hmn, hmc, hmx⟩ : ∃ m : Nat, m = min xn 20 ∧ m ≤ 20 ∧ m ≤ xc ∧ m ≤ xn := ⟨_, rfl, by omega, by omega, by omega⟩
    have HM := Lib.hid hm
    have hm1 : min (xn : Int) 20 = (m : Int) := by omega
    have hm2 : max (m : Int) 0 = (m : Int) := by omega
    have HD0 : Hid (p = p) := Lib.hid rfl
    clear HM hmn hm hmx
    obtain ⟨hm20, hmx⟩ : m ≤ 20 ∧ m ≤ xn := by omega
    go_wp2_with fail
    go_loopw [11, 12, 38] (fun _ _ i wr => ∃ (k : Nat) (q : PlaceD) (es : List PlaceD), k ≤ m ∧ i = .int .i64 (k : Int) ∧ Hid (BAt w1 W1 wr bb r q es) ∧ Hid ((es ++ [q])[0]? = some p) ∧ Hid (es.length ≤ k)) (fun _ _ i _ => m - (intOf i).toNat)
    case atStart => exact ⟨0, p, [], by omega, rfl, HA3, Lib.hid rfl, Lib.hid (Nat.le_refl _)⟩
    case round =>
      obtain ⟨k, q, es, hk, rfl, hA, hHd, hEs⟩ := hrel
      clear HA3
      by_cases hlt : k < m
      · obtain ⟨g, o, x, rfl, c0⟩ := HXS.out wr (HB1.out.trans (hA.out.bel.mono HB1.out.size)) k (by omega)
        by_cases hres : resultD r q = 0
        · have HOP := Lib.hid (hA.out.opn hres)
          have HNE := Lib.hid (result_open hA.out.ok hres)
          have HLN := Lib.hid (allD_length hA.out.ok)
          have HRS := Lib.hid hres
          clear hres
          go_wp2_with fail
          go_at_call 10; refine HOP.out.mono ?_; rintro e w5 ⟨la, ln, lc, rfl, hI, hln, hb⟩
          have HA5 := Lib.hid (hA.out.keep hb)
          have h1 : 1 ≤ ln := by
            rcases Nat.eq_zero_or_pos ln with h | h
            · exact absurd (List.eq_nil_of_length_eq_zero (by rw [← hln]; exact h)) HNE.out
            · exact h
          have h5 : ln ≤ 5000 := by rw [hln]; exact HLN.out
          have hne : ((ln : Int) == 0) = false := by simp; omega
          have HSM := Lib.hid (someM_any (allD r q) la ln lc x w5 hI hln h1 h5)
          clear hI hln hb HOP HNE HLN c0
          go_wp2_with fail
          go_at_call 12; refine HSM.out.mono ?_; rintro e w6 ⟨m1, m2, m3, hm, rfl, hb⟩
          have HD := Lib.hid ((HA5.out.keep hb).doOk HRS.out (m1, m2, m3) (legalB_all.2 hm) (by have := hEs.out; omega))
          clear hm hb HSM HA5 hA
          go_wp2_with fail
          go_at_call 11; refine HD.out.mono ?_; rintro e w7 ⟨rfl, hba⟩
          have HA7 := Lib.hid hba
          have HH7 := Lib.hid (head_snoc hHd.out (afterD r q (m1, m2, m3)))
          have HE7 : Hid ((es ++ [q]).length ≤ k + 1) := Lib.hid (by have := hEs.out; simp; omega)
          clear hba HD
          go_wp2_with fail
          go_roundw
          case rel => exact ⟨k + 1, _, _, by omega, by go_num, HA7, HH7, HE7⟩
          case measure => simp [intOf]; omega
        · have HOV := Lib.hid (hA.out.over hres)
          clear hres
          go_wp2_with fail
          go_at_call 10; refine HOV.out.mono ?_; rintro e w5 ⟨rfl, hb⟩
          have HA5 := Lib.hid (hA.out.keep hb)
          have HL5 := Lib.hid HA5.out.len
          obtain ⟨n, hn⟩ : ∃ n, n = es.length := ⟨_, rfl⟩
          have hn20 : n ≤ 20 := by have := hEs.out; omega
          rw [← hn] at HL5
          have HN5 := Lib.hid hn
          clear hb HOV hA c0 hn hEs hlt hk
          go_wp2_with fail
          go_at_call 13; refine HL5.out.mono ?_; rintro e w8 ⟨rfl, hb⟩
          have HA8 := Lib.hid (HA5.out.keep hb)
          clear hb HL5 HA5
          go_wp2_with fail
          go_loopw [13] (fun i wr => ∃ (n : Nat) (q : PlaceD) (es : List PlaceD), n ≤ 20 ∧ i = .int .i64 (n : Int) ∧ Hid (n = es.length) ∧ Hid (BAt w1 W1 wr bb r q es) ∧ Hid ((es ++ [q])[0]? = some p)) (fun i _ => (intOf i).toNat)
          case atStart => exact ⟨n, q, es, hn20, rfl, HN5, HA8, hHd⟩
          case round =>
            clear HA8 HN5 hHd hn20
            obtain ⟨n, q, es, hn20, rfl, hN, hA, hHd⟩ := hrel
            by_cases h0 : n = 0
            · subst h0
              have he : es = [] := List.eq_nil_of_length_eq_zero hN.out.symm
              have hqp : q = p := by have h := hHd.out; rw [he] at h; simpa using h
              subst hqp
              have HE := Lib.hid he
              have HBP := Lib.hid (HB1.out.trans (hA.out.bel.mono HB1.out.size))
              obtain ⟨x0, x1, x2, x3, x4⟩ := HX.out _ HBP.out
              have HBK := Lib.hid (fun W (h : Below wr.heap.size wr W) => HBP.out.trans (h.mono HBP.out.size))
              have HAK := Lib.hid (fun W (h : Below wr.heap.size wr W) => hA.out.keep h)
              have HKY : Hid (∀ W, Below wr.heap.size wr W → Calls Tryz.prog 9 #[.pointer (some ⟨bb, 0, none⟩)] W (BelPost (.int .u64 (K.toNat : Int)) W)) := Lib.hid (fun W h => by rw [HK.out]; exact (HAK.out W h).key)
              have HSM : Hid (∀ W a1 a2 a3, Below wr.heap.size wr W → PlaceIn W q a1 a2 a3 → Calls Tryz.prog 15 #[PlaceV q a1 a2 a3, PlaceV q vc v0 v1] W (BelPost (.bool true) W)) := Lib.hid (fun W a1 a2 a3 h h2 => same_eq q _ _ _ _ _ _ W h2 (HIP.out W (HBK.out W h)) HPK.out.short)
              unfold PlaceV PlaceCells at HSM
              have HXK : Hid (∀ W, Below wr.heap.size wr W → W.cell? ⟨w.heap.size + 1, 0, none⟩ = some vc ∧ W.cell? ⟨w.heap.size + 1, 1, none⟩ = some v0 ∧ W.cell? ⟨w.heap.size + 1, 2, none⟩ = some v1 ∧ W.cell? ⟨w.heap.size + 1, 3, none⟩ = some (.int .i64 q.turn) ∧ W.cell? ⟨w.heap.size + 1, 4, none⟩ = some (.int .i64 q.quiet)) := Lib.hid (fun W h => HX.out W (HBK.out W h))
              clear he
              go_wp2_with fail
              have hBc : Below wr.heap.size wr wr.drew := (Below.refl _ _).drew
              go_region_held3 (fun w' => w'.cell? ⟨w.heap.size + 1, 0, none⟩ = some vc ∧ w'.cell? ⟨w.heap.size + 1, 1, none⟩ = some v0 ∧ w'.cell? ⟨w.heap.size + 1, 2, none⟩ = some v1 ∧ w'.cell? ⟨w.heap.size + 1, 3, none⟩ = some (.int .i64 q.turn) ∧ w'.cell? ⟨w.heap.size + 1, 4, none⟩ = some (.int .i64 q.quiet)) (with_reducible exact HXK.out _ hBc) (first
                | (go_at_call 9; refine (HKY.out _ hBc).mono ?_; rintro e w11 ⟨rfl, hb⟩; have hB5 : Below wr.heap.size wr w11 := hBc.trans (hb.mono hBc.size); have hBc := hB5; clear hb)
                | (go_at_call 16; refine (HAK.out _ hBc).position.mono ?_; rintro e w12 ⟨ca, cn, cc, a0, n0, c0, a1, n1, c1, rfl, hpf, hb⟩; have hB5 : Below wr.heap.size wr w12 := hBc.trans (hb.mono hBc.size); have hBc := hB5; have HPP := Lib.hid hpf.plain; clear hb hpf)
                | (go_at_call 15; refine (HSM.out _ _ _ _ hBc (by first | exact HPP.out | exact HPP.out.below (Below.refl _ _).drew (Nat.le_refl _))).mono ?_; rintro e w13 ⟨rfl, hb⟩; have hB5 : Below wr.heap.size wr w13 := hBc.trans (hb.mono hBc.size); have hBc := hB5; clear hb)
                | (go_at_call 14; refine ((HAK.out _ hBc).undoNone HE.out).mono ?_; rintro e w14 ⟨rfl, hb⟩; have hB5 : Below wr.heap.size wr w14 := hBc.trans (hb.mono hBc.size); have hBc := hB5; clear hb))
              all_goals
                have HBE := Lib.hid (HB.out.trans ((HBK.out _ hBc).mono HB.out.size))
                clear hBc
                go_wp2_with fail
                go_ret
                exact ⟨rfl, HBE.out⟩
            · obtain ⟨n', rfl⟩ : ∃ n', n = n' + 1 := ⟨n - 1, by omega⟩
              obtain ⟨fs, p', he, hfl⟩ := last_of hN.out
              have HU := Lib.hid (fun W (h : Below wr.heap.size wr W) => (hA.out.keep h).undoOk he (by omega))
              have HL : Hid (Calls Tryz.prog 13 #[.pointer (some ⟨bb, 0, none⟩)] wr (BelPost (.int .i64 ((n' : Int) + 1)) wr)) := Lib.hid (by
                have h1 := hA.out.len
                rw [← hN.out] at h1
                exact_mod_cast h1)
              have HF := Lib.hid hfl
              have HH2 : Hid ((fs ++ [p'])[0]? = some p) := Lib.hid (by have h := hHd.out; rw [he, List.getElem?_append_left (by simp)] at h; exact h)
              have hgt : decide ((n' : Int) + 1 > 0) = true := by simp <;> omega
              have hgt2 : decide (0 < (n' : Int) + 1) = true := by simp <;> omega
              have hee : (((n' : Int) + 1) != ((n' : Int) + 1)) = false := by simp
              have hpc : ((n' + 1 : Nat) : Int) = (n' : Int) + 1 := by omega
              clear he hfl hN hA hHd h0
              go_wp2_with fail
              go_at_call 13; refine HL.out.mono ?_; rintro e w9 ⟨rfl, hb⟩
              have HU2 := Lib.hid (HU.out _ hb)
              clear hb HL HU
              go_wp2_with fail
              go_at_call 14; refine HU2.out.mono ?_; rintro e w10 ⟨rfl, hba⟩
              have HA10 := Lib.hid hba
              clear hba HU2
              go_wp2_with fail
              go_roundw
              case rel => exact ⟨n', p', fs, by omega, by go_num, Lib.hid HF.out.symm, HA10, HH2⟩
              case measure => simp [intOf] <;> omega
      · have HA5 := hA
        have HL5 := Lib.hid HA5.out.len
        obtain ⟨n, hn⟩ : ∃ n, n = es.length := ⟨_, rfl⟩
        have hn20 : n ≤ 20 := by have := hEs.out; omega
        rw [← hn] at HL5
        have HN5 := Lib.hid hn
        clear hA hn hEs hk
        go_wp2_with fail
        go_at_call 13; refine HL5.out.mono ?_; rintro e w8 ⟨rfl, hb⟩
        have HA8 := Lib.hid (HA5.out.keep hb)
        clear hb HL5 HA5
        go_wp2_with fail
        go_loopw [13] (fun i wr => ∃ (n : Nat) (q : PlaceD) (es : List PlaceD), n ≤ 20 ∧ i = .int .i64 (n : Int) ∧ Hid (n = es.length) ∧ Hid (BAt w1 W1 wr bb r q es) ∧ Hid ((es ++ [q])[0]? = some p)) (fun i _ => (intOf i).toNat)
        case atStart => exact ⟨n, q, es, hn20, rfl, HN5, HA8, hHd⟩
        case round =>
          clear HA8 HN5 hHd hn20
          obtain ⟨n, q, es, hn20, rfl, hN, hA, hHd⟩ := hrel
          by_cases h0 : n = 0
          · subst h0
            have he : es = [] := List.eq_nil_of_length_eq_zero hN.out.symm
            have hqp : q = p := by have h := hHd.out; rw [he] at h; simpa using h
            subst hqp
            have HE := Lib.hid he
            have HBP := Lib.hid (HB1.out.trans (hA.out.bel.mono HB1.out.size))
            obtain ⟨x0, x1, x2, x3, x4⟩ := HX.out _ HBP.out
            have HBK := Lib.hid (fun W (h : Below wr.heap.size wr W) => HBP.out.trans (h.mono HBP.out.size))
            have HAK := Lib.hid (fun W (h : Below wr.heap.size wr W) => hA.out.keep h)
            have HKY : Hid (∀ W, Below wr.heap.size wr W → Calls Tryz.prog 9 #[.pointer (some ⟨bb, 0, none⟩)] W (BelPost (.int .u64 (K.toNat : Int)) W)) := Lib.hid (fun W h => by rw [HK.out]; exact (HAK.out W h).key)
            have HSM : Hid (∀ W a1 a2 a3, Below wr.heap.size wr W → PlaceIn W q a1 a2 a3 → Calls Tryz.prog 15 #[PlaceV q a1 a2 a3, PlaceV q vc v0 v1] W (BelPost (.bool true) W)) := Lib.hid (fun W a1 a2 a3 h h2 => same_eq q _ _ _ _ _ _ W h2 (HIP.out W (HBK.out W h)) HPK.out.short)
            unfold PlaceV PlaceCells at HSM
            have HXK : Hid (∀ W, Below wr.heap.size wr W → W.cell? ⟨w.heap.size + 1, 0, none⟩ = some vc ∧ W.cell? ⟨w.heap.size + 1, 1, none⟩ = some v0 ∧ W.cell? ⟨w.heap.size + 1, 2, none⟩ = some v1 ∧ W.cell? ⟨w.heap.size + 1, 3, none⟩ = some (.int .i64 q.turn) ∧ W.cell? ⟨w.heap.size + 1, 4, none⟩ = some (.int .i64 q.quiet)) := Lib.hid (fun W h => HX.out W (HBK.out W h))
            clear he
            go_wp2_with fail
            have hBc : Below wr.heap.size wr wr.drew := (Below.refl _ _).drew
            go_region_held3 (fun w' => w'.cell? ⟨w.heap.size + 1, 0, none⟩ = some vc ∧ w'.cell? ⟨w.heap.size + 1, 1, none⟩ = some v0 ∧ w'.cell? ⟨w.heap.size + 1, 2, none⟩ = some v1 ∧ w'.cell? ⟨w.heap.size + 1, 3, none⟩ = some (.int .i64 q.turn) ∧ w'.cell? ⟨w.heap.size + 1, 4, none⟩ = some (.int .i64 q.quiet)) (with_reducible exact HXK.out _ hBc) (first
              | (go_at_call 9; refine (HKY.out _ hBc).mono ?_; rintro e w11 ⟨rfl, hb⟩; have hB5 : Below wr.heap.size wr w11 := hBc.trans (hb.mono hBc.size); have hBc := hB5; clear hb)
              | (go_at_call 16; refine (HAK.out _ hBc).position.mono ?_; rintro e w12 ⟨ca, cn, cc, a0, n0, c0, a1, n1, c1, rfl, hpf, hb⟩; have hB5 : Below wr.heap.size wr w12 := hBc.trans (hb.mono hBc.size); have hBc := hB5; have HPP := Lib.hid hpf.plain; clear hb hpf)
              | (go_at_call 15; refine (HSM.out _ _ _ _ hBc (by first | exact HPP.out | exact HPP.out.below (Below.refl _ _).drew (Nat.le_refl _))).mono ?_; rintro e w13 ⟨rfl, hb⟩; have hB5 : Below wr.heap.size wr w13 := hBc.trans (hb.mono hBc.size); have hBc := hB5; clear hb)
              | (go_at_call 14; refine ((HAK.out _ hBc).undoNone HE.out).mono ?_; rintro e w14 ⟨rfl, hb⟩; have hB5 : Below wr.heap.size wr w14 := hBc.trans (hb.mono hBc.size); have hBc := hB5; clear hb))
            all_goals
              have HBE := Lib.hid (HB.out.trans ((HBK.out _ hBc).mono HB.out.size))
              clear hBc
              go_wp2_with fail
              go_ret
              exact ⟨rfl, HBE.out⟩
          · obtain ⟨n', rfl⟩ : ∃ n', n = n' + 1 := ⟨n - 1, by omega⟩
            obtain ⟨fs, p', he, hfl⟩ := last_of hN.out
            have HU := Lib.hid (fun W (h : Below wr.heap.size wr W) => (hA.out.keep h).undoOk he (by omega))
            have HL : Hid (Calls Tryz.prog 13 #[.pointer (some ⟨bb, 0, none⟩)] wr (BelPost (.int .i64 ((n' : Int) + 1)) wr)) := Lib.hid (by
              have h1 := hA.out.len
              rw [← hN.out] at h1
              exact_mod_cast h1)
            have HF := Lib.hid hfl
            have HH2 : Hid ((fs ++ [p'])[0]? = some p) := Lib.hid (by have h := hHd.out; rw [he, List.getElem?_append_left (by simp)] at h; exact h)
            have hgt : decide ((n' : Int) + 1 > 0) = true := by simp <;> omega
            have hgt2 : decide (0 < (n' : Int) + 1) = true := by simp <;> omega
            have hee : (((n' : Int) + 1) != ((n' : Int) + 1)) = false := by simp
            have hpc : ((n' + 1 : Nat) : Int) = (n' : Int) + 1 := by omega
            clear he hfl hN hA hHd h0
            go_wp2_with fail
            go_at_call 13; refine HL.out.mono ?_; rintro e w9 ⟨rfl, hb⟩
            have HU2 := Lib.hid (HU.out _ hb)
            clear hb HL HU
            go_wp2_with fail
            go_at_call 14; refine HU2.out.mono ?_; rintro e w10 ⟨rfl, hba⟩
            have HA10 := Lib.hid hba
            clear hba HU2
            go_wp2_with fail
            go_roundw
            case rel => exact ⟨n', p', fs, by omega, by go_num, Lib.hid HF.out.symm, HA10, HH2⟩
            case measure => simp [intOf] <;> omega
  · have HNB1 := Lib.hid (HNB.out hz)
    have hne := bool_of_ne hz
    clear HNG HNB HOK hz
    go_at_call 8; refine (HNB1.out _ HB1.out).mono ?_; rintro e w2 ⟨rfl, hb⟩
    have HBE := Lib.hid (HB.out.trans ((HB1.out.trans (hb.mono HB1.out.size)).mono HB.out.size))
    clear hb HB1 HNB1 x0 x1 x2 x3 x4 y0 y1 y2 y3 y4 y5 y6 y7 y8 y9 y10
    go_wp2_with fail
    go_ret
    exact ⟨rfl, HBE.out⟩
end Go.Proofs.YtiligppdfldlfaaGreatDoor
