/- The reference's SamePlace of any two positions; positions in a row behind a pointer; the result that PlainRuns reckons. (Written by genrunr.py.) -/
import Derived.Test.YtkficjpnflnjhaaGreatDoorGmeP
import Derived.Test.YtkficjpnflnjhaaGreatDoorRefA
import Derived.Test.YtkficjpnflnjhaaGreatDoorRefS
import Derived.Test.YtkficjpnflnjhaaGreatDoorBrdD
set_option maxRecDepth 100000
namespace Go.Proofs.YtkficjpnflnjhaaGreatDoor
open Go.ChangeShapes Go.WideShapes Go.ChangeAt Go.RowKit

theorem take_more {xs ys : List Int} {k : Nat} {x y : Int} (h : xs.take k = ys.take k) (hx : xs[k]? = some x) (hy : ys[k]? = some y) (e : x = y) : xs.take (k + 1) = ys.take (k + 1) := by
  rw [List.take_add_one, List.take_add_one, h, hx, hy, e]
set_option maxHeartbeats 2000000 in
theorem sameIntsR_any {xs ys : List Int} {v1 v2 : Value} {w : World} (h1 : IsSl IntAt 1 w v1 xs) (h2 : IsSl IntAt 1 w v2 ys) (hl : xs.length ≤ 100) (hl2 : ys.length ≤ 100) : Calls Tryz.prog 56 #[v1, v2] w (BelPost (.bool (decide (xs = ys))) w) := by
  obtain ⟨n, hn⟩ : ∃ n, n = xs.length := ⟨_, rfl⟩
  obtain ⟨n2, hn2⟩ : ∃ n, n = ys.length := ⟨_, rfl⟩
  obtain ⟨a, c, rfl, hc, hat⟩ := h1.shape hn
  obtain ⟨b, d, rfl, hd, hbt⟩ := h2.shape hn2
  have hA : ∀ k, k < n → ∃ g off x, a = some ⟨g, off, none⟩ ∧ xs[k]? = some x ∧ ∀ V, Below w.heap.size w V → V.cell? ⟨g, off + k, none⟩ = some (.int .i64 x) := fun k hk => by
    obtain ⟨g, off, x, e, hx, hq⟩ := hat k hk
    refine ⟨g, off, x, e, hx, fun V hV => ?_⟩
    have := cell_keeps hV (Nat.le_refl _) hq
    rwa [Nat.mul_one] at this
  have hB : ∀ k, k < n2 → ∃ g off x, b = some ⟨g, off, none⟩ ∧ ys[k]? = some x ∧ ∀ V, Below w.heap.size w V → V.cell? ⟨g, off + k, none⟩ = some (.int .i64 x) := fun k hk => by
    obtain ⟨g, off, x, e, hx, hq⟩ := hbt k hk
    refine ⟨g, off, x, e, hx, fun V hV => ?_⟩
    have := cell_keeps hV (Nat.le_refl _) hq
    rwa [Nat.mul_one] at this
  have HA := Lib.hid hA
  have HB := Lib.hid hB
  have hn1 : n ≤ 100 := by omega
  have hn3 : n2 ≤ 100 := by omega
  have HLX : Hid (xs.take n = xs) := Lib.hid (List.take_of_length_le (by omega))
  by_cases hlen : n = n2
  · have HLY : Hid (ys.take n = ys) := Lib.hid (List.take_of_length_le (by omega))
    subst hlen
    clear hat hbt h1 h2 hn hn2 hl hl2 hA hB
    go_enter Tryz.func56, Tryz.ntmps56
    go_wp2_with fail
    go_loopw [13] (fun i wr => ∃ k : Nat, k ≤ n ∧ i = .int .i64 (k : Int) ∧ Hid (Below w.heap.size w wr) ∧ Hid (xs.take k = ys.take k)) (fun i _ => n - (intOf i).toNat)
    case atStart => exact ⟨0, by omega, rfl, Lib.hid (Below.refl _ _), Lib.hid rfl⟩
    case round =>
      obtain ⟨k, hk, rfl, hbel, hT⟩ := hrel
      by_cases hlt : k < n
      · obtain ⟨g, o, x, rfl, hx, hcx⟩ := HA.out k hlt
        obtain ⟨g2, o2, y, rfl, hy, hcy⟩ := HB.out k hlt
        have c1 := hcx _ hbel.out
        have c2 := hcy _ hbel.out
        by_cases hxy : x = y
        · have HT2 := Lib.hid (take_more hT.out hx hy hxy)
          subst hxy
          clear hx hy hcx hcy hT
          go_wp2
          go_quiet (fail)
          go_wp2
          go_roundw
          case rel => exact ⟨k + 1, by omega, by go_num, Lib.hid (below_drewN hbel.out _), HT2⟩
          case measure => simp [intOf]; omega
        · have hne : (x != y) = true := by simpa using hxy
          have K : Hid (false = decide (xs = ys)) := Lib.hid (decide_eq_false (fun e => hxy (by rw [e, hy] at hx; exact (Option.some.inj hx).symm))).symm
          clear hx hy hcx hcy hT hxy
          go_wp2
          go_quiet (fail)
          go_wp2
          go_ret
          exact ⟨ret_bool K.out, below_drewN hbel.out _⟩
      · obtain rfl : k = n := by omega
        have K : Hid (true = decide (xs = ys)) := Lib.hid (decide_eq_true (by rw [← HLX.out, ← HLY.out]; exact hT.out)).symm
        clear hT
        go_wp2
        go_ret
        exact ⟨ret_bool K.out, hbel.out⟩
  · have hne : ((n : Int) != (n2 : Int)) = true := by simp; omega
    have K : Hid (false = decide (xs = ys)) := Lib.hid (decide_eq_false (fun e => hlen (by rw [hn, hn2, e]))).symm
    clear hat hbt h1 h2 hn hn2 hl hl2 hA hB hlen
    go_enter Tryz.func56, Tryz.ntmps56
    go_wp2
    go_ret
    exact ⟨ret_bool K.out, Below.refl _ _⟩
theorem sameB_all {p q : PlaceD} (h : p.turn = q.turn) : sameB p q = (decide (p.cells = q.cells) && (decide (p.h0 = q.h0) && decide (p.h1 = q.h1))) := by
  rw [sameB, decide_eq_true h]
  cases decide (p.cells = q.cells) <;> cases decide (p.h0 = q.h0) <;> cases decide (p.h1 = q.h1) <;> rfl
theorem sameB_turn {p q : PlaceD} (h : ¬ p.turn = q.turn) : sameB p q = false := by
  rw [sameB, decide_eq_false h]; simp
set_option maxHeartbeats 8000000 in
theorem samePlaceR_any (p q : PlaceD) (vc v0 v1 uc u0 u1 : Value) (w : World) (h1 : PlaceIn w p vc v0 v1) (h2 : PlaceIn w q uc u0 u1) (hs : Short p) (hs2 : Short q) (hq : p.quiet = q.quiet) :
    Calls Tryz.prog 29 #[PlaceV p vc v0 v1, PlaceV q uc u0 u1] w (BelPost (.bool (sameB p q)) w) := by
  obtain ⟨ec, hec⟩ : ∃ e, e = decide (p.cells = q.cells) := ⟨_, rfl⟩
  obtain ⟨e0, he0⟩ : ∃ e, e = decide (p.h0 = q.h0) := ⟨_, rfl⟩
  obtain ⟨e1, he1⟩ : ∃ e, e = decide (p.h1 = q.h1) := ⟨_, rfl⟩
  have HC : Hid (∀ W, Below w.heap.size w W → Calls Tryz.prog 56 #[vc, uc] W (BelPost (.bool ec) W)) := Lib.hid (fun W h => by rw [hec]; exact sameIntsR_any (h1.below h (Nat.le_refl _)).c (h2.below h (Nat.le_refl _)).c hs.c hs2.c)
  have H0 : Hid (∀ W, Below w.heap.size w W → Calls Tryz.prog 56 #[v0, u0] W (BelPost (.bool e0) W)) := Lib.hid (fun W h => by rw [he0]; exact sameIntsR_any (h1.below h (Nat.le_refl _)).a (h2.below h (Nat.le_refl _)).a hs.a hs2.a)
  have H1 : Hid (∀ W, Below w.heap.size w W → Calls Tryz.prog 56 #[v1, u1] W (BelPost (.bool e1) W)) := Lib.hid (fun W h => by rw [he1]; exact sameIntsR_any (h1.below h (Nat.le_refl _)).b (h2.below h (Nat.le_refl _)).b hs.b hs2.b)
  obtain ⟨hB, hX, hY⟩ := two_boxes w p q vc v0 v1 uc u0 u1 38
  have HB := Lib.hid hB
  have HX := Lib.hid hX
  have HY := Lib.hid hY
  unfold PlaceCells at HB HX HY
  unfold PlaceV PlaceCells
  have hqq : (p.quiet == q.quiet) = true := by simpa using hq
  by_cases ht : p.turn = q.turn
  · have htt : (p.turn == q.turn) = true := by simpa using ht
    have HK : Hid (sameB p q = (ec && (e0 && e1))) := Lib.hid (by rw [hec, he0, he1]; exact sameB_all ht)
    clear h1 h2 hB hX hY hs hs2 hq ht hec he0 he1
    go_enter Tryz.func29, Tryz.ntmps29
    go_wp2_with fail
    go_at_call 56; refine (HC.out _ HB.out).mono ?_; rintro e w1 ⟨rfl, hb⟩
    have HB1 := Lib.hid (HB.out.trans (hb.mono HB.out.size))
    have HX1 := Lib.hid (HX.out.below hb (Nat.le_refl _))
    have HY1 := Lib.hid (HY.out.below hb (Nat.le_refl _))
    clear hb HB HX HY
    obtain ⟨x0, x1, x2, x3, x4⟩ := HX1.out
    obtain ⟨y0, y1, y2, y3, y4⟩ := HY1.out
    cases ec
    · have K : Hid (false = sameB p q) := Lib.hid (by rw [HK.out]; rfl)
      clear HK
      go_wp2_with fail
      go_ret
      exact ⟨ret_bool K.out, HB1.out⟩
    · go_wp2_with fail
      go_at_call 56; refine (H0.out _ HB1.out).mono ?_; rintro e w2 ⟨rfl, hb⟩
      have HB2 := Lib.hid (HB1.out.trans (hb.mono HB1.out.size))
      have HX2 := Lib.hid (HX1.out.below hb (Nat.le_refl _))
      have HY2 := Lib.hid (HY1.out.below hb (Nat.le_refl _))
      clear hb HB1 HX1 HY1 x0 x1 x2 x3 x4 y0 y1 y2 y3 y4
      obtain ⟨x0, x1, x2, x3, x4⟩ := HX2.out
      obtain ⟨y0, y1, y2, y3, y4⟩ := HY2.out
      cases e0
      · have K : Hid (false = sameB p q) := Lib.hid (by rw [HK.out]; rfl)
        clear HK
        go_wp2_with fail
        go_ret
        exact ⟨ret_bool K.out, HB2.out⟩
      · go_wp2_with fail
        go_at_call 56; refine (H1.out _ HB2.out).mono ?_; rintro e w3 ⟨rfl, hb⟩
        have HB3 := Lib.hid (HB2.out.trans (hb.mono HB2.out.size))
        have K : Hid (e1 = sameB p q) := Lib.hid (by rw [HK.out]; simp)
        clear hb HB2 HX2 HY2 x0 x1 x2 x3 x4 y0 y1 y2 y3 y4 HK
        go_wp2_with fail
        go_ret
        exact ⟨ret_bool K.out, HB3.out⟩
  · have htt : (p.turn == q.turn) = false := by simpa using ht
    have K : Hid (false = sameB p q) := Lib.hid (sameB_turn ht).symm
    clear h1 h2 hB hX hY hs hs2 hq ht hec he0 he1 HC H0 H1
    go_enter Tryz.func29, Tryz.ntmps29
    go_wp2_with fail
    go_ret
    exact ⟨ret_bool K.out, HB.out⟩

/-! ### Positions in a row, behind a pointer -/
structure PRowV (B cb : Nat) (W : World) (pa : Option Addr) (pn pc : Nat) (ps : List PlaceD) (news : List Value) : Prop where
  cell : W.heap[cb]? = some (.cells #[.slice pa pn pc] 56 (0, 0))
  own : W.ownsRow B 38 5 (.slice pa pn pc) ps.length news
  row : RowOf (fun k => k ≠ cb ∧ ∀ a, pa = some a → k ≠ a.block) W ps news
  ne : ∀ a, pa = some a → a.block ≠ cb
def PRow (B cb : Nat) (W : World) (ps : List PlaceD) : Prop := ∃ pa pn pc news, PRowV B cb W pa pn pc ps news
theorem PRowV.keep {B cb : Nat} {W W' : World} {pa : Option Addr} {pn pc : Nat} {ps : List PlaceD} {news : List Value} (h : PRowV B cb W pa pn pc ps news) (hb : Below W.heap.size W W') : PRowV B cb W' pa pn pc ps news :=
  ⟨(hb.block cb (Array.getElem?_eq_some_iff.1 h.cell).1).trans h.cell, own_below h.own hb, h.row.on (fun k _ hk => hb.block k hk) (fun _ x => x), h.ne⟩
theorem PRow.keep {B cb : Nat} {W W' : World} {ps : List PlaceD} (h : PRow B cb W ps) (hb : Below W.heap.size W W') : PRow B cb W' ps := by
  obtain ⟨pa, pn, pc, news, hv⟩ := h
  exact ⟨pa, pn, pc, news, hv.keep hb⟩
/-- The k-th position of the row. -/
theorem PRowV.nth {B cb : Nat} {W : World} {pa : Option Addr} {pn pc : Nat} {ps : List PlaceD} {news : List Value} (h : PRowV B cb W pa pn pc ps news) {n : Nat} (hn : n = ps.length) : W.cell? ⟨cb, 0, none⟩ = some (.slice pa pn pc) ∧ pn = n ∧ ∀ k, k < n → ∃ g p ca cn cc a0 n0 c0 a1 n1 c1, pa = some ⟨g, 0, none⟩ ∧ n ≤ pc ∧ ps[k]? = some p ∧
    (W.cell? ⟨g, k * 5, none⟩ = some (.slice ca cn cc) ∧ W.cell? ⟨g, k * 5 + 1, none⟩ = some (.slice a0 n0 c0) ∧ W.cell? ⟨g, k * 5 + 2, none⟩ = some (.slice a1 n1 c1) ∧ W.cell? ⟨g, k * 5 + 3, none⟩ = some (.int .i64 p.turn) ∧ W.cell? ⟨g, k * 5 + 4, none⟩ = some (.int .i64 p.quiet)) ∧ PlaceIn W p (.slice ca cn cc) (.slice a0 n0 c0) (.slice a1 n1 c1) := by
  have hown := h.own
  rw [← hn] at hown
  have hpn := own_len hown
  refine ⟨cell_of_row W cb 0 _ _ (0, 0) h.cell, hpn, fun k hk => ?_⟩
  subst hpn
  obtain ⟨g, cap, he⟩ := Joins.ownsRow_form hown (by omega)
  simp only [Value.slice.injEq, true_and] at he
  obtain ⟨rfl, rfl⟩ := he
  obtain ⟨p, hp⟩ : ∃ p, ps[k]? = some p := ⟨_, List.getElem?_eq_getElem (by omega)⟩
  obtain ⟨ca, cn, cc, a0, n0, c0, a1, n1, c1, hcs, hpf⟩ := h.row k p hp
  have hel : ∀ j, j < 5 → W.cell? ⟨g, k * 5 + j, none⟩ = (PlaceCells p (.slice ca cn cc) (.slice a0 n0 c0) (.slice a1 n1 c1))[j]? := fun j hj => (hown.cellAt (k * 5 + j) (by omega)).trans (hcs j hj)
  exact ⟨g, p, ca, cn, cc, a0, n0, c0, a1, n1, c1, rfl, own_cap hown, hp, ⟨hel 0 (by decide), hel 1 (by decide), hel 2 (by decide), hel 3 (by decide), hel 4 (by decide)⟩, hpf.plain⟩

/-! ### The result -/
theorem resG_wantR {r : RulesD} (hz : rulesE r = 0) (q : PlaceD) (es : List PlaceD) : resG r q es = if resultD r q = 0 ∧ 0 < r.rep ∧ r.rep ≤ (countG q es : Int) then 3 else resultD r q := by
  have h := (rOk hz).r1
  have e : (resultD r q = 0 ∧ r.rep ≠ 0 ∧ r.rep ≤ (countG q es : Int)) = (resultD r q = 0 ∧ 0 < r.rep ∧ r.rep ≤ (countG q es : Int)) := by
    apply propext
    constructor
    · rintro ⟨h1, h2, h3⟩; exact ⟨h1, by omega, h3⟩
    · rintro ⟨h1, h2, h3⟩; exact ⟨h1, by omega, h3⟩
  unfold resG
  simp only [e]
def cntR (q : PlaceD) (ps : List PlaceD) : Nat := (ps.filter fun p => sameB p q).length
theorem sameB_selfR (q : PlaceD) : sameB q q = true := by simp [sameB]
theorem cntR_all (q : PlaceD) (es : List PlaceD) : cntR q (es ++ [q]) = countG q es := by
  simp [cntR, countG, sameB_selfR]
theorem cntR_step (q : PlaceD) (ps : List PlaceD) (k : Nat) (p : PlaceD) (h : ps[k]? = some p) : cntR q (ps.take (k + 1)) = cntR q (ps.take k) + (if sameB p q = true then 1 else 0) := by
  rw [List.take_add_one, h]
  simp only [cntR, Option.toList_some, List.filter_append, List.length_append]
  cases h2 : sameB p q <;> simp [h2]
set_option maxHeartbeats 8000000 in
theorem resultR_any (r : RulesD) (vp vs ve : Value) (q : PlaceD) (es : List PlaceD) (B cb rb : Nat) (W : World) (hY : BoxR W rb r vp vs ve) (hr : RulesIn W r vp vs ve) (hz : rulesE r = 0) (hk : POkay r q) (hks : ∀ p ∈ es, POkay r p) (h : PRow B cb W (es ++ [q])) (hle : es.length ≤ 100) :
    Calls Tryz.prog 27 #[.pointer (some ⟨cb, 0, none⟩), .pointer (some ⟨rb, 0, none⟩)] W (BelPost (.int .i64 (resG r q es)) W) := by
  obtain ⟨pa, pn, pc, news, hv⟩ := h
  obtain ⟨n, hn⟩ : ∃ n, n = es.length := ⟨_, rfl⟩
  have hpl : n + 1 = (es ++ [q]).length := by simp [hn]
  obtain ⟨z0, hpn, hat⟩ := hv.nth hpl
  subst hpn
  have HYK : Hid (∀ W', Below W.heap.size W W' → BoxR W' rb r vp vs ve) := Lib.hid (fun W' hb => hY.below hb (Nat.le_refl _))
  have HV : Hid (∀ W', Below W.heap.size W W' → PRowV B cb W' pa (n + 1) pc (es ++ [q]) news) := Lib.hid (fun W' hb => hv.keep hb)
  have HPL := Lib.hid hpl
  have HKS : Hid (∀ p ∈ es ++ [q], POkay r p) := Lib.hid (fun p hp => by
    rcases List.mem_append.1 hp with h | h
    · exact hks p h
    · rw [List.mem_singleton.1 h]; exact hk)
  have HRS : Hid (∀ W' a1 a2 a3, Below W.heap.size W W' → PlaceIn W' q a1 a2 a3 → Calls Tryz.prog 28 #[RulesV r vp vs ve, PlaceV q a1 a2 a3] W' (BelPost (.int .i64 (resultD r q)) W')) := Lib.hid (fun W' a1 a2 a3 h h2 => result_any r q vp vs ve a1 a2 a3 W' (hr.below h (Nat.le_refl _)).1 h2 hk)
  have HWN : Hid (resG r q es = if resultD r q = 0 ∧ 0 < r.rep ∧ r.rep ≤ (cntR q (es ++ [q]) : Int) then 3 else resultD r q) := Lib.hid (by rw [cntR_all]; exact resG_wantR hz q es)
  obtain ⟨g, q', ca, cn, cc, a0, n0, c0, a1, n1, c1, rfl, hcap, hq', ⟨e0, e1, e2, e3, e4⟩, hpi⟩ := hat n (by omega)
  obtain rfl : q = q' := by
    rw [List.getElem?_append_right (by omega), hn] at hq'
    simpa using hq'
  have HPI : Hid (∀ W', Below W.heap.size W W' → PlaceIn W' q (.slice ca cn cc) (.slice a0 n0 c0) (.slice a1 n1 c1)) := Lib.hid (fun W' hb => hpi.below hb (Nat.le_refl _))
  have hn100 : n ≤ 100 := by omega
  obtain ⟨X, hX⟩ : ∃ X, X = resultD r q := ⟨_, rfl⟩
  rw [← hX] at HRS HWN
  have HSQ := Lib.hid hk.short
  obtain ⟨rw', hrw⟩ : ∃ z : Int, z = r.rep := ⟨_, rfl⟩
  clear hY hr hz hk hks hv hpl hat hq' hn hpi hle hX hrw rw'
  unfold RulesV PlaceV PlaceCells at HRS
  have hal := (Below.refl W.heap.size W).alloc (Nat.le_refl _) (.cells #[.slice ca cn cc, .slice a0 n0 c0, .slice a1 n1 c1, .int .i64 q.turn, .int .i64 q.quiet] 38)
  obtain ⟨y0, y1, y2, y3, y4, y5, y6, y7, y8, y9, y10⟩ := HYK.out _ hal
  have hX0 := boxP_new W q (.slice ca cn cc) (.slice a0 n0 c0) (.slice a1 n1 c1) 38
  unfold PlaceCells at hX0
  have HX0 := Lib.hid hX0
  have hlt0 : W.heap.size < (W.alloc (.cells #[.slice ca cn cc, .slice a0 n0 c0, .slice a1 n1 c1, .int .i64 q.turn, .int .i64 q.quiet] 38)).heap.size := by simp
  obtain ⟨x0, x1, x2, x3, x4⟩ := hX0
  have HAL := Lib.hid hal
  clear hal
  go_enter Tryz.func27, Tryz.ntmps27
  go_wp2_with fail
  generalize W.alloc (.cells #[.slice ca cn cc, .slice a0 n0 c0, .slice a1 n1 c1, .int .i64 q.turn, .int .i64 q.quiet] 38) = U at y0 y1 y2 y3 y4 y5 y6 y7 y8 y9 y10 HAL HX0 x0 x1 x2 x3 x4 hlt0 ⊢
  obtain ⟨nb, hnb⟩ : ∃ nb, nb = W.heap.size := ⟨_, rfl⟩
  rw [← hnb] at HX0 x0 x1 x2 x3 x4 hlt0 ⊢
  clear hnb
  go_at_call 28; refine (HRS.out _ _ _ _ HAL.out (HPI.out _ HAL.out)).mono ?_; rintro e w1 ⟨rfl, hb⟩
  have HB1 := Lib.hid (HAL.out.trans (hb.mono HAL.out.size))
  have HXK : Hid (∀ W', Below w1.heap.size w1 W' → W'.cell? ⟨nb, 0, none⟩ = some (.slice ca cn cc) ∧ W'.cell? ⟨nb, 1, none⟩ = some (.slice a0 n0 c0) ∧ W'.cell? ⟨nb, 2, none⟩ = some (.slice a1 n1 c1) ∧ W'.cell? ⟨nb, 3, none⟩ = some (.int .i64 q.turn) ∧ W'.cell? ⟨nb, 4, none⟩ = some (.int .i64 q.quiet)) := Lib.hid (fun W' h => HX0.out.below (hb.trans (h.mono hb.size)) (Nat.le_refl _))
  have HLT : Hid (nb < w1.heap.size) := Lib.hid (Nat.lt_of_lt_of_le hlt0 hb.size)
  clear hb HAL HX0 x0 x1 x2 x3 x4 y0 y1 y2 y3 y4 y5 y6 y7 y8 y9 y10 e0 e1 e2 e3 e4 z0 HRS hlt0
  obtain ⟨z0, -, -⟩ := (HV.out _ HB1.out).nth HPL.out
  go_wp2_with fail
  go_loopw [5, 7, 19] (fun c _ i wr => ∃ (k N : Nat), k ≤ n + 1 ∧ N ≤ k ∧ i = .int .i64 (k : Int) ∧ c = .int .i64 (N : Int) ∧ Hid (N = cntR q ((es ++ [q]).take k)) ∧ Hid (Below w1.heap.size w1 wr)) (fun _ _ i _ => n + 1 - (intOf i).toNat)
  case atStart => exact ⟨0, 0, by omega, by omega, rfl, rfl, Lib.hid rfl, Lib.hid (Below.refl _ _)⟩
  case round =>
    obtain ⟨k, N, hk, hNk, rfl, rfl, hC, hB⟩ := hrel
    clear z0
    have HBR := Lib.hid (HB1.out.trans (hB.out.mono HB1.out.size))
    by_cases hlt : k < n + 1
    · obtain ⟨_, _, hat⟩ := (HV.out _ HBR.out).nth HPL.out
      obtain ⟨g', p, da, dn, dc, d0, dn0, dc0, d1, dn1, dc1, hgg, hcap2, hp, ⟨e0, e1, e2, e3, e4⟩, hpi⟩ := hat k hlt
      simp only [Option.some.injEq, Addr.mk.injEq, and_true] at hgg
      subst hgg
      have HCS := Lib.hid (cntR_step q (es ++ [q]) k p hp)
      obtain ⟨U, hU⟩ : ∃ U, U = wr.alloc (.cells #[.slice da dn dc, .slice d0 dn0 dc0, .slice d1 dn1 dc1, .int .i64 p.turn, .int .i64 q.quiet] 38) := ⟨_, rfl⟩
      have hbu : Below wr.heap.size wr U := by rw [hU]; exact (Below.refl _ _).alloc (Nat.le_refl _) _
      obtain ⟨p', hp'⟩ : ∃ p' : PlaceD, p' = ⟨p.cells, p.h0, p.h1, p.turn, q.quiet⟩ := ⟨_, rfl⟩
      have hbx : U.heap[wr.heap.size]? = some (.cells #[.slice da dn dc, .slice d0 dn0 dc0, .slice d1 dn1 dc1, .int .i64 p.turn, .int .i64 q.quiet] 38 (0, 0)) := by
        rw [hU]; exact heap_alloc_new wr _
      have hcx : ∀ i, U.cell? ⟨wr.heap.size, i, none⟩ = (#[.slice da dn dc, .slice d0 dn0 dc0, .slice d1 dn1 dc1, .int .i64 p.turn, .int .i64 q.quiet] : Array Value)[i]? := fun i => cell_of_row U _ i _ _ (0, 0) hbx
      have t0 := hcx 0
      have t1 := hcx 1
      have t2 := hcx 2
      have t3 := hcx 3
      have t4 := hcx 4
      have hsm : sameB p' q = sameB p q := by rw [hp']; rfl
      have HSP := Lib.hid (samePlaceR_any p' q (.slice da dn dc) (.slice d0 dn0 dc0) (.slice d1 dn1 dc1) (.slice ca cn cc) (.slice a0 n0 c0) (.slice a1 n1 c1) U (by rw [hp']; exact ⟨(hpi.below hbu (Nat.le_refl _)).c, (hpi.below hbu (Nat.le_refl _)).a, (hpi.below hbu (Nat.le_refl _)).b⟩) (HPI.out _ (HBR.out.trans (hbu.mono HBR.out.size))) (by have h := (HKS.out p (List.mem_of_getElem? hp)).short; rw [hp']; exact ⟨h.c, h.a, h.b⟩) HSQ.out (by rw [hp']))
      rw [hsm, hp'] at HSP
      obtain ⟨b, hbs⟩ : ∃ b, b = sameB p q := ⟨_, rfl⟩
      rw [← hbs] at HSP HCS
      unfold PlaceV PlaceCells at HSP
      dsimp only at HSP
      have HBU := Lib.hid (hB.out.trans (hbu.mono hB.out.size))
      obtain ⟨-, -, -, -, x4⟩ := HXK.out _ hB.out
      have x5 := (HXK.out _ (hB.out.trans (((Below.refl wr.heap.size wr).alloc (Nat.le_refl _) (.cells #[.slice da dn dc, .slice d0 dn0 dc0, .slice d1 dn1 dc1, .int .i64 p.turn, .int .i64 p.quiet] 38)).mono hB.out.size))).2.2.2.2
      obtain ⟨u0, u1, u2, u3, u4⟩ := HXK.out _ HBU.out
      clear hat hp hpi hbu hbx hcx hsm hbs hp'
      rw [hU] at t0 t1 t2 t3 t4 u0 u1 u2 u3 u4
      go_wp2_with fail
      rw [← hU]
      clear hU t0 t1 t2 t3 t4 u0 u1 u2 u3 u4 x4 x5 e0 e1 e2 e3 e4
      go_at_call 29; refine HSP.out.mono ?_; rintro e w5 ⟨rfl, hb⟩
      have HB5 := Lib.hid (HBU.out.trans (hb.mono HBU.out.size))
      clear hb HSP HBU
      cases b
      · have HC2 : Hid (N = cntR q ((es ++ [q]).take (k + 1))) := Lib.hid (by rw [HCS.out, hC.out]; simp)
        clear HCS hC
        go_wp2_with fail
        go_roundw
        case rel => exact ⟨k + 1, N, by omega, by omega, by go_num, rfl, HC2, HB5⟩
        case measure => simp [intOf]; omega
      · have HC2 : Hid (N + 1 = cntR q ((es ++ [q]).take (k + 1))) := Lib.hid (by rw [HCS.out, hC.out]; simp)
        clear HCS hC
        go_wp2_with fail
        go_roundw
        case rel => exact ⟨k + 1, N + 1, by omega, by omega, by go_num, by go_num, HC2, HB5⟩
        case measure => simp [intOf]; omega
    · obtain rfl : k = n + 1 := by omega
      have HNE : Hid (N = cntR q (es ++ [q])) := Lib.hid (by rw [hC.out, List.take_of_length_le (by rw [← HPL.out]; exact Nat.le_refl _)])
      have HW2 : Hid (resG r q es = if X = 0 ∧ 0 < r.rep ∧ r.rep ≤ (N : Int) then 3 else X) := Lib.hid (by rw [HNE.out]; exact HWN.out)
      have y10 := (HYK.out _ HBR.out).2.2.2.2.2.2.2.2.2.2
      clear hC HNE HWN HV HPI HKS
      by_cases hX0 : X = 0
      · subst hX0
        by_cases hR : 0 < r.rep
        · have hR1 : decide (r.rep > 0) = true := decide_eq_true hR
          have hR2 : decide (0 < r.rep) = true := decide_eq_true hR
          by_cases hL : r.rep ≤ (N : Int)
          · have hC1 : decide ((N : Int) ≥ r.rep) = true := decide_eq_true hL
            have hC2 : decide (r.rep ≤ (N : Int)) = true := decide_eq_true hL
            have HE : Hid (3 = resG r q es) := Lib.hid (by rw [HW2.out, if_pos ⟨rfl, hR, hL⟩])
            clear hR hL
            go_wp2_with fail
            go_ret
            exact ⟨ret_i64 HE.out, HBR.out⟩
          · have hC1 : decide ((N : Int) ≥ r.rep) = false := decide_eq_false hL
            have hC2 : decide (r.rep ≤ (N : Int)) = false := decide_eq_false hL
            have HE : Hid (0 = resG r q es) := Lib.hid (by rw [HW2.out, if_neg (fun h => hL h.2.2)])
            clear hR hL
            go_wp2_with fail
            go_ret
            exact ⟨ret_i64 HE.out, HBR.out⟩
        · have hR1 : decide (r.rep > 0) = false := decide_eq_false hR
          have hR2 : decide (0 < r.rep) = false := decide_eq_false hR
          have HE : Hid (0 = resG r q es) := Lib.hid (by rw [HW2.out, if_neg (fun h => hR h.2.1)])
          clear hR
          go_wp2_with fail
          go_ret
          exact ⟨ret_i64 HE.out, HBR.out⟩
      · have hxb : (X == 0) = false := by simpa using hX0
        have HE : Hid (X = resG r q es) := Lib.hid (by rw [HW2.out, if_neg (fun h => hX0 h.1)])
        clear hX0
        go_wp2_with fail
        go_ret
        exact ⟨ret_i64 HE.out, HBR.out⟩
end Go.Proofs.YtkficjpnflnjhaaGreatDoor
