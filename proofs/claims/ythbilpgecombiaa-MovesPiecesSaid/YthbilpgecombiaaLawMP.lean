/- The law MovesPieces: no move makes pieces; only taking without Keeps, or into a full hand, loses one. -/
import Derived.Test.YthbilpgecombiaaPlayK
import Derived.Test.YthbilpgecombiaaOpenP
import Derived.Test.YthbilpgecombiaaPces
set_option maxRecDepth 100000
namespace Go.Proofs.Ythbilpgecombiaa
open Go.ChangeShapes Go.WideShapes Go.ChangeAt Go.RowKit

/-- A position of the other player that was made, and no error. -/
def NextP (q : PlaceD) (t : Int) (w : World) (e : Ending) (w' : World) : Prop :=
  ∃ ca cn cc a0 n0 c0 a1 n1 c1, e = .returned (.tuple #[.agg #[.slice ca cn cc, .slice a0 n0 c0, .slice a1 n1 c1, .int .i64 (1 - t), .int .i64 q.quiet], .int .i64 0]) ∧ PlaceIn w' q (.slice ca cn cc) (.slice a0 n0 c0) (.slice a1 n1 c1) ∧ Below w.heap.size w w'
theorem nextP_of {r : RulesD} {p : PlaceD} {m : MoveD} {w : World} {e : Ending} {w' : World} (h : AftPost r p m w e w') (he : afterE r p m = 0) : NextP (afterD r p m) p.turn w e w' := by
  rcases h with ⟨_, ca, cn, cc, a0, n0, c0, a1, n1, c1, h1, h2, h3⟩ | ⟨h, _⟩
  · exact ⟨ca, cn, cc, a0, n0, c0, a1, n1, c1, h1, h2.plain, h3⟩
  · exact absurd he h
theorem afterE_legal {r : RulesD} {p : PlaceD} {m : MoveD} (hk : POkay r p) (hl : legalB r p m = true) : afterE r p m = 0 := by rw [afterE, if_pos (placeE_iff.2 hk), if_pos hl]
theorem pieces_ok {r : RulesD} {p : PlaceD} (hk : POkay r p) (vc v0 v1 : Value) (w : World) (hp : PlaceIn w p vc v0 v1) : Calls Try.prog 16 #[PlaceV p vc v0 v1] w (BelPost (.int .i64 (piecesD p)) w) := by
  obtain ⟨_, hn⟩ := pieces_len hk.e
  exact pieces_any p vc v0 v1 w hp (cells_len hk).2 (by rw [hk.l0]; exact hn) (by rw [hk.l1]; exact hn) hk.n0 hk.n1
theorem max_any (xs : List Int) (v : Value) (w : World) (h : IsSl IntAt 1 w v xs) (hne : xs ≠ []) : Calls Try.prog 17 #[v] w fun e w' => e = .returned (.int .i64 (Lib.maxOf xs)) ∧ w = w' := by
  have hfit := h.fit
  rcases h with ⟨rfl, _⟩ | ⟨g, off, cap, rfl, _, _, _, hc⟩
  · exact absurd rfl hne
  · have h1 := Try.slices_Max_int g off xs.length cap xs w (List.length_pos_iff.2 hne) (Nat.le_refl _) hfit (fun j hj => by
      have h2 := hc j _ (List.getElem?_eq_getElem hj)
      rw [Nat.mul_one] at h2
      rw [List.getD_eq_getElem?_getD, List.getElem?_eq_getElem hj]
      exact h2)
    rw [List.take_length] at h1
    exact h1.mono fun _ _ h2 => ⟨h2.1, h2.2.symm⟩
theorem cases_of {cx d mx n1 q : Int} {kp : Bool} (h : (cx = 0 ∧ d = 0) ∨ (cx ≠ 0 ∧ kp = false ∧ d = 1) ∨ (cx ≠ 0 ∧ kp = true ∧ d = 1 ∧ mx = 1000) ∨ (cx ≠ 0 ∧ kp = true ∧ d = 0)) (hq : (n1 < 0 ∨ cx ≠ 0) ↔ q = 0) :
    (cx = 0 ∧ d = 0 ∧ decide (n1 < 0) = true ∧ (q == 0) = true) ∨ (cx = 0 ∧ d = 0 ∧ decide (n1 < 0) = false ∧ (q == 0) = false) ∨ ((cx != 0) = true ∧ kp = false ∧ d = 1 ∧ (q == 0) = true) ∨ ((cx != 0) = true ∧ kp = true ∧ d = 1 ∧ mx = 1000 ∧ (q == 0) = true) ∨ ((cx != 0) = true ∧ kp = true ∧ d = 0 ∧ (q == 0) = true) := by
  rcases h with ⟨h1, h2⟩ | ⟨h1, h2, h3⟩ | ⟨h1, h2, h3, h4⟩ | ⟨h1, h2, h3⟩
  · by_cases hn : n1 < 0
    · exact .inl ⟨h1, h2, by simpa using hn, by simpa using hq.1 (.inl hn)⟩
    · refine .inr (.inl ⟨h1, h2, by simpa using hn, ?_⟩)
      have : ¬ q = 0 := fun e => (hq.2 e).elim hn (fun h => h h1)
      simpa using this
  · exact .inr (.inr (.inl ⟨by simpa using h1, h2, h3, by simpa using hq.1 (.inr h1)⟩))
  · exact .inr (.inr (.inr (.inl ⟨by simpa using h1, h2, h3, h4, by simpa using hq.1 (.inr h1)⟩)))
  · exact .inr (.inr (.inr (.inr ⟨by simpa using h1, h2, h3, by simpa using hq.1 (.inr h1)⟩)))
set_option maxHeartbeats 16000000 in
theorem movesPieces_full (r : RulesD) (vp vs ve : Value) (p : PlaceD) (vc v0 v1 : Value) (w : World) (hr : RulesIn w r vp vs ve) (hp : PlaceIn w p vc v0 v1) :
    Calls Try.prog 4 #[RulesV r vp vs ve, PlaceV p vc v0 v1] w fun e w' => e = .returned (.bool true) ∧ Below w.heap.size w w' := by
  obtain ⟨m, hm⟩ : ∃ m, m = p.cells.length := ⟨_, rfl⟩
  obtain ⟨pn0, hpn0⟩ : ∃ m, m = p.h0.length := ⟨_, rfl⟩
  obtain ⟨pn1, hpn1⟩ : ∃ m, m = p.h1.length := ⟨_, rfl⟩
  obtain ⟨ca, cc, rfl, _, hac⟩ := hp.c.shape hm
  obtain ⟨p0, pc0, rfl, _, _⟩ := hp.a.shape hpn0
  obtain ⟨p1, pc1, rfl, _, _⟩ := hp.b.shape hpn1
  have HAC : Hid (∀ k, k < m → ∃ g off x, ca = some ⟨g, off, none⟩ ∧ p.cells[k]? = some x ∧ ∀ V, Below w.heap.size w V → V.cell? ⟨g, off + k, none⟩ = some (.int .i64 x)) := Lib.hid (by
    intro k hk
    obtain ⟨g, off, x, e, hx, hq⟩ := hac k hk
    refine ⟨g, off, x, e, hx, fun V hV => ?_⟩
    have := cell_keeps hV (Nat.le_refl _) hq
    rwa [Nat.mul_one] at this)
  obtain ⟨hB, hY, hX⟩ := rp_boxes w r p vp vs ve (.slice ca m cc) (.slice p0 pn0 pc0) (.slice p1 pn1 pc1)
  obtain ⟨V, hV⟩ : ∃ V, V = (w.alloc (.cells (RulesCells r vp vs ve) 26)).alloc (.cells (PlaceCells p (.slice ca m cc) (.slice p0 pn0 pc0) (.slice p1 pn1 pc1)) 29) := ⟨_, rfl⟩
  rw [← hV] at hB hY hX
  have HB := Lib.hid hB
  have HIR : Hid (∀ W, Below w.heap.size w W → RulesIn W r vp vs ve) := Lib.hid (fun W h => hr.below h (Nat.le_refl _))
  have HIP : Hid (∀ W, Below w.heap.size w W → PlaceIn W p (.slice ca m cc) (.slice p0 pn0 pc0) (.slice p1 pn1 pc1)) := Lib.hid (fun W h => hp.below h (Nat.le_refl _))
  obtain ⟨c, hc⟩ : ∃ c, c = placeE r p := ⟨_, rfl⟩
  have HOK : Hid (c = 0 → POkay r p) := Lib.hid (fun h => placeE_iff.1 (by rw [← hc]; exact h))
  have HLB : Hid (c ≠ 0 → ∀ W, Below w.heap.size w W → Calls Try.prog 12 #[RulesV r vp vs ve, PlaceV p (.slice ca m cc) (.slice p0 pn0 pc0) (.slice p1 pn1 pc1)] W (ListBad c W)) := Lib.hid (fun hz W h => by rw [hc]; exact all_bad r p vp vs ve _ _ _ W (HIR.out W h) (HIP.out W h) (by rw [← hc]; exact hz))
  have HLG : Hid (c = 0 → ∀ W, Below w.heap.size w W → Calls Try.prog 12 #[RulesV r vp vs ve, PlaceV p (.slice ca m cc) (.slice p0 pn0 pc0) (.slice p1 pn1 pc1)] W (ListPost (allD r p) W)) := Lib.hid (fun hz W h => all_ok r p vp vs ve _ _ _ W (HIR.out W h) (HIP.out W h) (HOK.out hz))
  have HAF : Hid (c = 0 → ∀ x : MoveD, legalB r p x = true → ∀ W, Below w.heap.size w W → Calls Try.prog 13 #[RulesV r vp vs ve, PlaceV p (.slice ca m cc) (.slice p0 pn0 pc0) (.slice p1 pn1 pc1), .agg #[.int .i64 x.1, .int .i64 x.2.1, .int .i64 x.2.2]] W (NextP (afterD r p x) p.turn W)) := Lib.hid (fun hz x hl W h => (After_any r p vp vs ve _ _ _ x W (HIR.out W h) (HIP.out W h)).mono fun _ _ h2 => nextP_of h2 (afterE_legal (HOK.out hz) hl))
  have HPP : Hid (c = 0 → ∀ W, Below w.heap.size w W → Calls Try.prog 16 #[PlaceV p (.slice ca m cc) (.slice p0 pn0 pc0) (.slice p1 pn1 pc1)] W (BelPost (.int .i64 (piecesD p)) W)) := Lib.hid (fun hz W h => pieces_ok (HOK.out hz) _ _ _ W (HIP.out W h))
  have HQQ : Hid (c = 0 → ∀ x : MoveD, legalB r p x = true → ∀ uc u0 u1 W, PlaceIn W (afterD r p x) uc u0 u1 → Calls Try.prog 16 #[.agg #[uc, u0, u1, .int .i64 (1 - p.turn), .int .i64 (afterD r p x).quiet]] W (BelPost (.int .i64 (piecesD (afterD r p x))) W)) := Lib.hid (fun hz x hl uc u0 u1 W hpi => pieces_ok (after_ok (HOK.out hz) (legal_ok (HOK.out hz) hl)) uc u0 u1 W hpi)
  have HPB : Hid (c = 0 → (0 ≤ piecesD p ∧ piecesD p ≤ 20000) ∧ ∀ x : MoveD, legalB r p x = true → 0 ≤ piecesD (afterD r p x) ∧ piecesD (afterD r p x) ≤ 20000) := Lib.hid (fun hz => ⟨pieces_bound (HOK.out hz), fun x hl => pieces_bound (after_ok (HOK.out hz) (legal_ok (HOK.out hz) hl))⟩)
  have HMX : Hid (c = 0 → ∀ W, Below w.heap.size w W → Calls Try.prog 17 #[if p.turn = 0 then .slice p0 pn0 pc0 else .slice p1 pn1 pc1] W (fun e w' => e = .returned (.int .i64 (Lib.maxOf (handI p))) ∧ W = w')) := Lib.hid (fun hz W h => by
    have hk := HOK.out hz
    have hin := HIP.out W h
    obtain ⟨hn1, _⟩ := pieces_len hk.e
    have hhl := hand_len hk
    have hne : handI p ≠ [] := by intro e; rw [e] at hhl; simp at hhl; omega
    unfold handI at hne ⊢
    by_cases ht : p.turn = 0
    · simp only [if_pos ht] at hne ⊢; exact max_any _ _ _ hin.a hne
    · simp only [if_neg ht] at hne ⊢; exact max_any _ _ _ hin.b hne)
  have HLC : Hid (c = 0 → ∀ x : MoveD, legalB r p x = true → (0 ≤ x.2.1 ∧ x.2.1 < m) ∧ ((cellI p x.2.1 = 0 ∧ piecesD p - piecesD (afterD r p x) = 0) ∨ (cellI p x.2.1 ≠ 0 ∧ r.keeps = false ∧ piecesD p - piecesD (afterD r p x) = 1) ∨ (cellI p x.2.1 ≠ 0 ∧ r.keeps = true ∧ piecesD p - piecesD (afterD r p x) = 1 ∧ Lib.maxOf (handI p) = 1000) ∨ (cellI p x.2.1 ≠ 0 ∧ r.keeps = true ∧ piecesD p - piecesD (afterD r p x) = 0)) ∧ ((x.1 < 0 ∨ cellI p x.2.1 ≠ 0) ↔ (afterD r p x).quiet = 0)) := Lib.hid (fun hz x hl => ⟨⟨(legal_ok (HOK.out hz) hl).t0, by rw [hm]; exact (legal_ok (HOK.out hz) hl).t1⟩, lost_cases (HOK.out hz) hl, quiet_case (HOK.out hz) hl⟩)
  have HT : Hid (c = 0 → 0 ≤ p.turn ∧ p.turn ≤ 1) := Lib.hid (fun hz => ⟨(HOK.out hz).t0, (HOK.out hz).t1⟩)
  have HX : Hid (∀ W, Below V.heap.size V W → BoxP W (w.heap.size + 1) p (.slice ca m cc) (.slice p0 pn0 pc0) (.slice p1 pn1 pc1)) := Lib.hid (fun W hb => hX.below hb (Nat.le_refl _))
  have HY : Hid (∀ W, Below V.heap.size V W → BoxR W w.heap.size r vp vs ve) := Lib.hid (fun W hb => hY.below hb (Nat.le_refl _))
  have HALL : Hid (∀ x, x ∈ allD r p → legalB r p x = true) := Lib.hid (fun x h => legalB_all.2 h)
  have HLN : Hid (c = 0 → (allD r p).length ≤ 5000) := Lib.hid (fun hz => allD_length (HOK.out hz))
  have HM64 : Hid (c = 0 → m ≤ 64) := Lib.hid (fun hz => by rw [hm]; exact (cells_len (HOK.out hz)).2)
  obtain ⟨L, hL⟩ : ∃ L, L = allD r p := ⟨_, rfl⟩
  rw [← hL] at HLG HALL HLN
  obtain ⟨x0, x1, x2, x3, x4⟩ := hX
  obtain ⟨y0, y1, y2, y3, y4, y5, y6, y7, y8, y9, y10⟩ := hY
  unfold RulesCells PlaceCells at hV
  unfold RulesV at HLB HLG HAF ⊢
  unfold PlaceV PlaceCells at HLB HLG HAF HPP ⊢
  clear hr hp hc hL hB hac hm hpn0 hpn1 x0 x1 x2 x3 x4 y0 y1 y2 y3 y4 y5 y6 y7 y8 y9 y10
  go_enter Try.func4, Try.ntmps4
  go_wp2_with fail
  rw [← hV]
  clear hV
  go_at_call 8; refine (plays_any _).mono ?_; rintro e w1 ⟨rfl, hb⟩
  have HBv4 := Lib.hid hb
  clear hb
  obtain ⟨x0, x1, x2, x3, x4⟩ := HX.out _ HBv4.out
  obtain ⟨y0, y1, y2, y3, y4, y5, y6, y7, y8, y9, y10⟩ := HY.out _ HBv4.out
  have HB4 := Lib.hid (HB.out.trans (HBv4.out.mono HB.out.size))
  go_wp2_with fail
  by_cases hz : c = 0
  · have HLG1 := Lib.hid (HLG.out hz)
    have HAF1 := Lib.hid (HAF.out hz)
    have HPP1 := Lib.hid (HPP.out hz)
    have HQQ1 := Lib.hid (HQQ.out hz)
    have HPB1 := Lib.hid (HPB.out hz)
    have HMX1 := Lib.hid (HMX.out hz)
    have HLC1 := Lib.hid (HLC.out hz)
    obtain ⟨t0, t1⟩ := HT.out hz
    have hln := HLN.out hz
    have hm64 := HM64.out hz
    clear HLG HAF HPP HQQ HPB HMX HLC HT HLN HLB HOK hz HM64
    go_at_call 12; refine (HLG1.out _ HB4.out).mono ?_; rintro e w5 ⟨la, ln, lc, rfl, hI, hll, hb⟩
    have HBv5 := Lib.hid (HBv4.out.trans (hb.mono HBv4.out.size))
    have HI5 := Lib.hid hI
    have HLL := Lib.hid hll
    have hln2 : ln ≤ 5000 := by rw [hll]; exact hln
    clear hb hI hll HB4 HBv4 HLG1 x0 x1 x2 x3 x4 y0 y1 y2 y3 y4 y5 y6 y7 y8 y9 y10
    obtain ⟨la', lc', hlv, hlc, hcell⟩ := HI5.out.shape HLL.out
    simp only [Value.slice.injEq] at hlv
    obtain ⟨rfl, -, rfl⟩ := hlv
    have HEL : Hid (∀ W, Below w5.heap.size w5 W → ∀ j, j < ln → ∃ g off x, la = some ⟨g, off, none⟩ ∧ L[j]? = some x ∧ MoveAt W g (off + j * 3) x) := Lib.hid (fun W hb j hj => by
      obtain ⟨g, off, x, e1, e2, e3⟩ := hcell j hj
      exact ⟨g, off, x, e1, e2, move_keeps _ _ _ _ _ _ hb (Nat.le_refl _) e3⟩)
    clear hcell
    go_wp2_with fail
    go_loopw [8, 9, 10, 11, 12, 13, 29] (fun _ _ _ _ _ _ i wr => ∃ k : Nat, k ≤ ln ∧ i = .int .i64 (k : Int) ∧ Hid (Below w5.heap.size w5 wr)) (fun _ _ _ _ _ _ i _ => ln - (intOf i).toNat)
    case atStart => exact ⟨0, by omega, rfl, Lib.hid (Below.refl _ _)⟩
    case round =>
      obtain ⟨k, hkl, rfl, hbel⟩ := hrel
      have hbv : Below V.heap.size V wr := HBv5.out.trans (hbel.out.mono HBv5.out.size)
      by_cases hlt : k < ln
      · obtain ⟨g, off, ⟨n1, n2, n3⟩, rfl, hx, c0, c1, c2⟩ := HEL.out wr hbel.out k hlt
        have hl1 := HALL.out _ (List.mem_of_getElem? hx)
        obtain ⟨⟨ht0, ht1⟩, hcs, hqu⟩ := HLC1.out _ hl1
        dsimp only at ht0 ht1 hcs hqu
        obtain ⟨t, rfl⟩ : ∃ t : Nat, n2 = (t : Int) := ⟨n2.toNat, by omega⟩
        have htm : t < m := by omega
        obtain ⟨cg, co, cx, rfl, hcx, hcc⟩ := HAC.out t htm
        have hci : cellI p (t : Int) = cx := by unfold cellI; rw [Int.toNat_natCast, hcx]; rfl
        rw [hci] at hcs hqu
        have HCX := Lib.hid hcc
        obtain ⟨⟨q0, q1⟩, hqb⟩ := HPB1.out
        obtain ⟨q2, q3⟩ := hqb _ hl1
        have hal := (Below.refl wr.heap.size wr).alloc (Nat.le_refl _) (.cells #[.int .i64 n1, .int .i64 (t : Int), .int .i64 n3] 31)
        have hbW : Below V.heap.size V (wr.alloc (.cells #[.int .i64 n1, .int .i64 (t : Int), .int .i64 n3] 31)) := hbv.trans (hal.mono hbv.size)
        have hNB : MoveAt (wr.alloc (.cells #[.int .i64 n1, .int .i64 (t : Int), .int .i64 n3] 31)) wr.heap.size 0 (n1, (t : Int), n3) := by
          refine ⟨?_, ?_, ?_⟩ <;> (rw [World.cell?_alloc_at (hn := rfl)]; rfl)
        have HNB := Lib.hid hNB
        have HBW := Lib.hid hbW
        have HBL := Lib.hid (hbel.out.trans (hal.mono hbel.out.size))
        have hAF := HAF1.out (n1, (t : Int), n3) hl1 _ (HB.out.trans (hbW.mono HB.out.size))
        have hQQ := HQQ1.out (n1, (t : Int), n3) hl1
        obtain ⟨qd, hqd⟩ : ∃ qd, qd = afterD r p (n1, (t : Int), n3) := ⟨_, rfl⟩
        rw [← hqd] at hAF hQQ hcs hqu q2 q3
        dsimp only at hAF
        have HAFk := Lib.hid hAF
        have HQQk := Lib.hid hQQ
        obtain ⟨P, hP⟩ : ∃ P, P = piecesD p := ⟨_, rfl⟩
        obtain ⟨Q, hQ⟩ : ∃ Q, Q = piecesD qd := ⟨_, rfl⟩
        obtain ⟨mx, hmx⟩ : ∃ x, x = Lib.maxOf (handI p) := ⟨_, rfl⟩
        have HPPk := HPP1
        have HMXk := HMX1
        rw [← hP] at HPPk hcs q0 q1
        rw [← hQ] at HQQk hcs q2 q3
        rw [← hmx] at HMXk hcs
        have HCS := Lib.hid hcs
        have HQU := Lib.hid hqu
        clear HPP1 HMX1
        obtain ⟨x0, x1, x2, x3, x4⟩ := HX.out _ hbW
        obtain ⟨z0, z1, z2, z3, z4, z5, z6, z7, z8, z9, z10⟩ := HY.out _ hbW
        clear hx hl1 hal hbW hNB hAF hQQ hqd hbv hbel hP hQ hmx hqb hcs hqu hcx hcc hci
        go_wp2_with fail
        go_at_call 13; refine HAFk.out.mono ?_; rintro e w6 ⟨da, dn, dc, a0, j0, k0, a1, j1, k1, rfl, hpi, hb⟩
        have HBv6 := Lib.hid (HBW.out.trans (hb.mono HBW.out.size))
        have HBl6 := Lib.hid (HBL.out.trans (hb.mono HBL.out.size))
        have HNB6 := Lib.hid (MoveAt.below HNB.out hb (Nat.le_refl _))
        have HPI6 := Lib.hid hpi
        clear hb hpi HBW HBL HNB HAFk c0 c1 c2 x0 x1 x2 x3 x4 z0 z1 z2 z3 z4 z5 z6 z7 z8 z9 z10
        go_wp2_with fail
        have hal := (Below.refl w6.heap.size w6).alloc (Nat.le_refl _) (.cells #[.slice da dn dc, .slice a0 j0 k0, .slice a1 j1 k1, .int .i64 (1 - p.turn), .int .i64 qd.quiet] 29)
        have HBv7 := Lib.hid (HBv6.out.trans (hal.mono HBv6.out.size))
        have HBl7 := Lib.hid (HBl6.out.trans (hal.mono HBl6.out.size))
        have HNB7 := Lib.hid (MoveAt.below HNB6.out hal (Nat.le_refl _))
        have HPI7 := Lib.hid (HPI6.out.below hal (Nat.le_refl _))
        have HQ7 := Lib.hid (boxP_new w6 ⟨qd.cells, qd.h0, qd.h1, 1 - p.turn, qd.quiet⟩ (.slice da dn dc) (.slice a0 j0 k0) (.slice a1 j1 k1) 29)
        unfold PlaceCells at HQ7
        dsimp only at HQ7
        clear hal HBv6 HBl6 HNB6 HPI6
        generalize w6.alloc (.cells #[.slice da dn dc, .slice a0 j0 k0, .slice a1 j1 k1, .int .i64 (1 - p.turn), .int .i64 qd.quiet] 29) = w7 at HBv7 HBl7 HNB7 HPI7 HQ7 ⊢
        generalize w6.heap.size = qb at HQ7 ⊢
        generalize wr.heap.size = nb at HNB7 ⊢
        obtain ⟨d, hd⟩ : ∃ d, d = P - Q := ⟨_, rfl⟩
        rw [← hd] at HCS
        have hwr : IntKind.i64.wrap (P - Q) = d := by rw [hd]; exact IntWalk.i64_in _ (by omega)
        clear hd
        have hBc : Below w7.heap.size w7 w7.drew := (Below.refl _ _).drew
        refine wp_region_noPanic ?_
        refine wp_region_held_drew (S := (fun w' => (w'.cell? ⟨w.heap.size + 1, 0, none⟩ = some (.slice (some ⟨cg, co, none⟩) m cc) ∧ w'.cell? ⟨w.heap.size + 1, 1, none⟩ = some (.slice p0 pn0 pc0) ∧ w'.cell? ⟨w.heap.size + 1, 2, none⟩ = some (.slice p1 pn1 pc1) ∧ w'.cell? ⟨w.heap.size + 1, 3, none⟩ = some (.int .i64 p.turn) ∧ w'.cell? ⟨w.heap.size + 1, 4, none⟩ = some (.int .i64 p.quiet)) ∧ (w'.cell? ⟨qb, 0, none⟩ = some (.slice da dn dc) ∧ w'.cell? ⟨qb, 1, none⟩ = some (.slice a0 j0 k0) ∧ w'.cell? ⟨qb, 2, none⟩ = some (.slice a1 j1 k1) ∧ w'.cell? ⟨qb, 3, none⟩ = some (.int .i64 (1 - p.turn)) ∧ w'.cell? ⟨qb, 4, none⟩ = some (.int .i64 qd.quiet)))) (by kernel_rfl) ?_ (fun hHeld => ?_)
        · exact ⟨HX.out _ (HBv7.out.trans (hBc.mono HBv7.out.size)), HQ7.out.below hBc (Nat.le_refl _)⟩
        refine wpAnyH_take (i := 0) (v := ?_) rfl (by kernel_rfl) (by kernel_rfl) (by kernel_rfl) (fun _ _ _ h => h) (Or.inl ⟨by rfl, ?_⟩) (by assumption) ?_
        rotate_left
        · intro w hSw
          (try dsimp only at hSw)
          go_simp
          all_goals with_reducible rfl
        simp only [Act.put, List.setIfInBounds_toArray, List.set_cons_zero, List.set_cons_succ, List.getElem_toArray, List.getElem_cons_zero]
        refine wpAnyH_take (i := 2) (v := ?_) rfl (by kernel_rfl) (by kernel_rfl) (by kernel_rfl) (fun _ _ _ h => h) (Or.inl ⟨by rfl, ?_⟩) (by assumption) ?_
        rotate_left
        · intro w hSw
          (try dsimp only at hSw)
          go_simp
          all_goals with_reducible rfl
        simp only [Act.put, List.setIfInBounds_toArray, List.set_cons_zero, List.set_cons_succ, List.getElem_toArray, List.getElem_cons_zero, List.getElem_cons_succ]
        refine wpAnyH_ready (rs := [1]) (by kernel_rfl) (by simp) (AllReadyH.cons rfl (fun K hK => ?_) AllReadyH.nil)
        go_simp
        go_at_call 16; refine (HPPk.out _ (HB.out.trans ((HBv7.out.trans (hBc.mono HBv7.out.size)).mono HB.out.size))).mono ?_; rintro e w8 ⟨rfl, hb⟩; have hBc := hBc.trans (hb.mono hBc.size); clear hb
        refine hK.out _ _ ?_ (fun hHeld => ?_)
        · exact ⟨HX.out _ (HBv7.out.trans (hBc.mono HBv7.out.size)), HQ7.out.below hBc (Nat.le_refl _)⟩
        clear hK K
        try simp only [Act.put, List.setIfInBounds_toArray, List.set_cons_zero, List.set_cons_succ, List.getElem_toArray, List.getElem_cons_zero, List.getElem_cons_succ]
        refine wpAnyH_ready (rs := [3]) (by kernel_rfl) (by simp) (AllReadyH.cons rfl (fun K hK => ?_) AllReadyH.nil)
        go_simp
        go_at_call 16; refine (HQQk.out _ _ _ _ (HPI7.out.below hBc (Nat.le_refl _))).mono ?_; rintro e w9 ⟨rfl, hb⟩; have hBc := hBc.trans (hb.mono hBc.size); clear hb
        refine hK.out _ _ ?_ (fun hHeld => ?_)
        · exact ⟨HX.out _ (HBv7.out.trans (hBc.mono HBv7.out.size)), HQ7.out.below hBc (Nat.le_refl _)⟩
        clear hK K
        try simp only [Act.put, List.setIfInBounds_toArray, List.set_cons_zero, List.set_cons_succ, List.getElem_toArray, List.getElem_cons_zero, List.getElem_cons_succ]
        refine wpAnyH_take (i := 4) (v := ?_) rfl (by kernel_rfl) (by kernel_rfl) (by kernel_rfl) (fun _ _ _ h => h) (Or.inl ⟨by rfl, ?_⟩) (by assumption) ?_
        rotate_left
        · intro w hSw
          (try dsimp only at hSw)
          go_simp
          all_goals with_reducible rfl
        simp only [Act.put, List.setIfInBounds_toArray, List.set_cons_zero, List.set_cons_succ, List.getElem_toArray, List.getElem_cons_zero, List.getElem_cons_succ]
        refine wpAnyH_take (i := 5) (v := ?_) rfl (by kernel_rfl) (by kernel_rfl) (by kernel_rfl) (fun _ _ _ h => h) (Or.inl ⟨by rfl, ?_⟩) (by assumption) ?_
        rotate_left
        · intro w hSw
          (try dsimp only at hSw)
          go_simp
          all_goals with_reducible rfl
        simp only [Act.put, List.setIfInBounds_toArray, List.set_cons_zero, List.set_cons_succ, List.getElem_toArray, List.getElem_cons_zero, List.getElem_cons_succ]
        refine wpAnyH_done (by kernel_rfl) ?_ _
        refine NoPanic.normal ?_
        clear hHeld
        have HBv9 := Lib.hid (HBv7.out.trans (hBc.mono HBv7.out.size))
        have HBl9 := Lib.hid (HBl7.out.trans (hBc.mono HBl7.out.size))
        have HNB9 := Lib.hid (MoveAt.below HNB7.out hBc (Nat.le_refl _))
        have HQ9 := Lib.hid (HQ7.out.below hBc (Nat.le_refl _))
        clear hBc HBv7 HBl7 HNB7 HQ7 HPI7
        have HBw9 := Lib.hid (HB.out.trans (HBv9.out.mono HB.out.size))
        obtain ⟨x0, x1, x2, x3, x4⟩ := HX.out _ HBv9.out
        obtain ⟨z0, z1, z2, z3, z4, z5, z6, z7, z8, z9, z10⟩ := HY.out _ HBv9.out
        obtain ⟨g0, g1, g2⟩ := HNB9.out
        obtain ⟨e0, e1, e2, e3, e4⟩ := HQ9.out
        dsimp only at e0 e1 e2 e3 e4
        have ccell := HCX.out _ HBw9.out
        have hMX := HMXk.out _ HBw9.out
        obtain ⟨ht, hMX⟩ | ⟨ht, hMX⟩ : (p.turn = 0 ∧ Calls Try.prog 17 #[.slice p0 pn0 pc0] w9 (fun e w' => e = .returned (.int .i64 mx) ∧ w9 = w')) ∨ (p.turn = 1 ∧ Calls Try.prog 17 #[.slice p1 pn1 pc1] w9 (fun e w' => e = .returned (.int .i64 mx) ∧ w9 = w')) := by
          by_cases ht : p.turn = 0
          · rw [if_pos ht] at hMX; exact .inl ⟨ht, hMX⟩
          · rw [if_neg ht] at hMX; exact .inr ⟨by omega, hMX⟩
        all_goals
          rw [ht] at x3
          have HMY := Lib.hid hMX
          clear hMX HMXk ht
          go_wp2_with fail
          go_at_call 17; refine HMY.out.mono ?_; rintro e w' ⟨rfl, rfl⟩
          clear HMY
          obtain ⟨rfl, rfl, hn, hq⟩ | ⟨rfl, rfl, hn, hq⟩ | ⟨hc0, hkp, rfl, hq⟩ | ⟨hc0, hkp, rfl, rfl, hq⟩ | ⟨hc0, hkp, rfl, hq⟩ := cases_of HCS.out HQU.out
          · clear HCS HQU HCX
            go_wp2_with fail
            go_roundw
            case rel => exact ⟨k + 1, by omega, by go_num, HBl9⟩
            case measure => simp [intOf]; omega
          · clear HCS HQU HCX
            go_wp2_with fail
            go_roundw
            case rel => exact ⟨k + 1, by omega, by go_num, HBl9⟩
            case measure => simp [intOf]; omega
          · clear HCS HQU HCX
            rw [hkp] at z6
            clear hkp
            go_wp2_with fail
            go_roundw
            case rel => exact ⟨k + 1, by omega, by go_num, HBl9⟩
            case measure => simp [intOf]; omega
          · clear HCS HQU HCX
            rw [hkp] at z6
            clear hkp
            go_wp2_with fail
            go_roundw
            case rel => exact ⟨k + 1, by omega, by go_num, HBl9⟩
            case measure => simp [intOf]; omega
          · clear HCS HQU HCX
            rw [hkp] at z6
            clear hkp
            go_wp2_with fail
            go_roundw
            case rel => exact ⟨k + 1, by omega, by go_num, HBl9⟩
            case measure => simp [intOf]; omega
      · obtain rfl : k = ln := by omega
        have HBE := Lib.hid (HB.out.trans (hbv.mono HB.out.size))
        clear hbv hbel
        go_wp2_with fail
        go_ret
        exact ⟨rfl, HBE.out⟩
  · have HLB1 := Lib.hid (HLB.out hz)
    have hne : (c != 0) = true := by simpa using hz
    clear HLG HAF HPP HQQ HPB HMX HLC HT HLN HLB HOK hz HM64
    go_at_call 12; refine (HLB1.out _ HB4.out).mono ?_; rintro e w5 ⟨rfl, hb⟩
    have HB5 := Lib.hid (HB4.out.trans (hb.mono HB4.out.size))
    clear hb HB4 HLB1
    go_wp2_with fail
    go_ret
    exact ⟨rfl, HB5.out⟩
end Go.Proofs.Ythbilpgecombiaa
