/- moves.allFrom: the legal moves with one From. -/
import Derived.Test.YthbilpgecombiaaMovP
import Derived.Test.YthbilpgecombiaaMvK
set_option maxRecDepth 100000
namespace Go.Proofs.Ythbilpgecombiaa
open Go.ChangeShapes Go.WideShapes Go.ChangeAt Go.RowKit

theorem sort_none {a : Option Addr} {c : Nat} (w : World) : Calls Try.prog 62 #[.slice a 0 c, .func (.func 63) #[] #[]] w fun e w' => e = .returned (.tuple #[]) ∧ w' = w := by
  have h := AnyF.slices_SortFunc_none Try.sortMove a c (.func (.func 63) #[] #[]) w
  exact h
theorem compact_none (a : Option Addr) (c : Nat) (w : World) : Calls Try.prog 65 #[.slice a 0 c] w fun e w' => e = .returned (.slice a 0 c) ∧ w' = w := by
  go_enter Try.func65, Try.ntmps65
  go_wp2
  go_ret
  exact ⟨rfl, rfl⟩
theorem owns_other {W W' : World} {B B' : Nat} {e e' : TypeId} {k k' : Nat} {v v' : Value} {n n' : Nat} {xs xs' : List Value} (h : W.ownsRow B e k v n xs) (h2 : W.ownsRow B' e' k' v' n' xs') (he : e ≠ e') (hg : W.grownBy W' v'.ownBlock) : W'.ownsRow B e k v n xs := by
  refine ⟨h.1, ?_⟩
  rcases h.2 with h3 | ⟨g, cap, cur, e1, e2, e3, e4⟩
  · exact .inl h3
  · refine .inr ⟨g, cap, cur, e1, e2, (hg.block g (Array.getElem?_eq_some_iff.1 e3).1 ?_).trans e3, e4⟩
    rcases h2.2 with ⟨rfl, _⟩ | ⟨g', cap', cur', rfl, _, e5, _⟩
    · intro h; cases h
    · intro h
      have h6 : g = g' := by simpa [Value.ownBlock] using h
      subst h6
      rw [e3] at e5
      simp at e5
      exact he e5.2
theorem iv_length (L : List Int) : (iv L).length = L.length := by simp [iv]
theorem owns_at {W : World} {B : Nat} {e : TypeId} {a : Option Addr} {n c : Nat} {L : List Int} (h : W.ownsRow B e 1 (.slice a n c) n (iv L)) {q : Nat} (hq : q < n) : ∃ g t, a = some ⟨g, 0, none⟩ ∧ L[q]? = some t ∧ q < c ∧ W.cell? ⟨g, q, none⟩ = some (.int .i64 t) := by
  have hl : L.length = n := by have := h.1; rw [iv_length] at this; omega
  rcases h.2 with ⟨h1, h2⟩ | ⟨g, cap, cur, e1, _, _, e4, _⟩
  · omega
  · simp only [Value.slice.injEq] at e1
    obtain ⟨rfl, _, rfl⟩ := e1
    have hql : q < L.length := by omega
    have h2 := h.cellAt q (by omega)
    refine ⟨g, L[q], rfl, List.getElem?_eq_getElem hql, by omega, ?_⟩
    rw [h2, iv, List.getElem?_map, List.getElem?_eq_getElem hql]; rfl
def tosTo (r : RulesD) (p : PlaceD) (src : Int) (j : Nat) : List Int := ((pieceOf r (kindOfI (cellI p src))).ways.take j).flatMap (reachOf r p src)
theorem tosTo_succ {r : RulesD} {p : PlaceD} {src : Int} {j : Nat} {y : WayD} (h : (pieceOf r (kindOfI (cellI p src))).ways[j]? = some y) : tosTo r p src (j + 1) = tosTo r p src j ++ reachOf r p src y := by
  unfold tosTo
  rw [List.take_add_one, h, List.flatMap_append]
  simp
theorem tosTo_all {r : RulesD} {p : PlaceD} {src : Int} {j : Nat} (h : (pieceOf r (kindOfI (cellI p src))).ways.length ≤ j) : tosTo r p src j = tosD r p src := by
  unfold tosTo tosD; rw [List.take_of_length_le h]
theorem reachOf_length {r : RulesD} {p : PlaceD} {src : Int} {y : WayD} (h : wayB y = true) : (reachOf r p src y).length ≤ 7 := by
  have h1 := reach_length r p y.dx (upI p y.dy) y.take y.most.toNat (src % r.width) (src / r.width)
  obtain ⟨_, _, _, h4, _⟩ := way_facts h
  unfold reachOf; omega
theorem tosTo_length {r : RulesD} {p : PlaceD} {src : Int} (h : ∀ y ∈ (pieceOf r (kindOfI (cellI p src))).ways, wayB y = true) (hl : (pieceOf r (kindOfI (cellI p src))).ways.length ≤ 16) (j : Nat) : (tosTo r p src j).length ≤ 112 := by
  have h1 := flat_length (reachOf r p src) 7 ((pieceOf r (kindOfI (cellI p src))).ways.take j) fun y hy => reachOf_length (h y (List.mem_of_mem_take hy))
  rw [List.length_take] at h1
  unfold tosTo; omega
theorem reachOf_in {r : RulesD} {p : PlaceD} (h : POkay r p) {src : Int} {y : WayD} {t : Int} (ht : t ∈ reachOf r p src y) : 0 ≤ t ∧ t < p.cells.length := reach_in h _ _ _ _ _ _ _ ht
set_option maxHeartbeats 8000000 in
theorem allFrom_hand (r : RulesD) (p : PlaceD) (vp vs ve vc v0 v1 : Value) (w : World) (hp : PlaceIn w p vc v0 v1) (hk : POkay r p) :
    Calls Try.prog 33 #[RulesV r vp vs ve, PlaceV p vc v0 v1, .int .i64 (-1)] w (SlPost MoveAt 3 (putsD r p) w) := by
  obtain ⟨hB, hY, hX⟩ := rp_boxes w r p vp vs ve vc v0 v1
  have HPU := Lib.hid (puts_any r p vp vs ve vc v0 v1 _ (hp.below hB (Nat.le_refl _)) hk)
  have HB := Lib.hid hB
  unfold RulesCells PlaceCells at HB hY hX HPU
  unfold RulesV PlaceV PlaceCells at HPU ⊢
  obtain ⟨x0, x1, x2, x3, x4⟩ := hX
  obtain ⟨y0, y1, y2, y3, y4, y5, y6, y7, y8, y9, y10⟩ := hY
  clear hp hk hB
  go_enter Try.func33, Try.ntmps33
  go_wp2_with fail
  go_at_call 57; refine HPU.out.mono ?_; rintro e w1 ⟨a, n, c, rfl, hI, hnil, hb⟩
  have HB1 := Lib.hid (HB.out.trans (hb.mono HB.out.size))
  have HI := Lib.hid hI
  have HNI := Lib.hid hnil
  clear hI hnil hb HB x0 x1 x2 x3 x4 y0 y1 y2 y3 y4 y5 y6 y7 y8 y9 y10
  go_wp2_with fail
  go_ret
  exact ⟨a, n, c, rfl, HI.out, HNI.out, HB1.out⟩
set_option maxHeartbeats 8000000 in
theorem allFrom_not (r : RulesD) (p : PlaceD) (vp vs ve vc v0 v1 : Value) (s : Nat) (w : World) (hp : PlaceIn w p vc v0 v1) (hk : POkay r p) (hs : s < p.cells.length) (hio : isOfB (cellI p (s : Int)) p.turn = false) :
    Calls Try.prog 33 #[RulesV r vp vs ve, PlaceV p vc v0 v1, .int .i64 (s : Int)] w (SlPost MoveAt 3 (fromD r p (s : Int)) w) := by
  have hcl := cells_len hk
  obtain ⟨g, off, cc, rfl, hcc, hcell⟩ := ints_open hp.c hcl.1
  obtain ⟨m, hm⟩ : ∃ m, m = p.cells.length := ⟨_, rfl⟩
  rw [← hm] at hp hcc hcell hcl hs ⊢
  obtain ⟨hB, hY, hX⟩ := rp_boxes w r p vp vs ve (.slice (some ⟨g, off, none⟩) m cc) v0 v1
  have HB := Lib.hid hB
  have KE : Hid (fromD r p (s : Int) = []) := Lib.hid (by unfold fromD; rw [hio]; rfl)
  obtain ⟨c, hc⟩ : ∃ c, c = cellI p (s : Int) := ⟨_, rfl⟩
  have hcr := cell_in hk (s : Int)
  rw [← hc] at hcr hio
  have hnl := (pieces_len hk.e).2
  have hc1 : c ≤ 1000 := by omega
  have hc0 := hcr.1
  have hC0 := cell_keeps hB (Nat.le_refl _) (hcell s hs)
  rw [show p.cells[s]?.getD 0 = c by rw [hc, cellI, Int.toNat_natCast]] at hC0
  have HIS : Hid (∀ W, Calls Try.prog 58 #[.int .i64 c, .int .i64 p.turn] W fun e w' => e = .returned (.bool false) ∧ W = w') := Lib.hid (fun W => by rw [← hio]; exact turned (mIsOf_any c p.turn W hc0 hc1))
  have hsc : s < cc := by omega
  have hneg : ((s : Int) == -1) = false := by simp
  unfold RulesCells PlaceCells at HB hX hC0
  unfold RulesV PlaceV PlaceCells
  obtain ⟨x0, x1, x2, x3, x4⟩ := hX
  clear hp hk hcell hB hY hio hc hm
  go_enter Try.func33, Try.ntmps33
  go_wp2_with fail
  go_at_call 58; refine (HIS.out _).mono ?_; rintro e w1 ⟨rfl, rfl⟩
  go_wp2_with fail
  go_ret
  exact ⟨_, _, _, rfl, by rw [KE.out]; exact .inl ⟨rfl, _, _, rfl⟩, (fun _ => ⟨rfl, rfl⟩), HB.out⟩
set_option maxHeartbeats 8000000 in
theorem allFrom_yes (r : RulesD) (p : PlaceD) (vp vs ve vc v0 v1 : Value) (s : Nat) (w : World) (hr : IsRules w r vp vs ve) (hp : PlaceIn w p vc v0 v1) (hk : POkay r p) (hs : s < p.cells.length) (hio : isOfB (cellI p (s : Int)) p.turn = true) :
    Calls Try.prog 33 #[RulesV r vp vs ve, PlaceV p vc v0 v1, .int .i64 (s : Int)] w (SlPost MoveAt 3 (fromD r p (s : Int)) w) := by
  obtain ⟨i0, hi, hz0, hz1, hz2⟩ := info_parts infoMove
  have hcl := cells_len hk
  obtain ⟨g, off, cc, rfl, hcc, hcell⟩ := ints_open hp.c hcl.1
  obtain ⟨m, hm⟩ : ∃ m, m = p.cells.length := ⟨_, rfl⟩
  rw [← hm] at hp hcc hcell hcl hs ⊢
  have hcn : cellI p (s : Int) ≠ 0 := by
    intro e; unfold isOfB at hio; rw [e] at hio; simp at hio
  have hkd := kind_in hk hcn
  obtain ⟨jk, hjk⟩ : ∃ jk : Nat, kindOfI (cellI p (s : Int)) = (jk : Int) := ⟨(kindOfI (cellI p (s : Int))).toNat, by omega⟩
  rw [hjk] at hkd
  obtain ⟨_, _, hwl, hwg⟩ := ways_good hk.e hkd.1 hkd.2
  obtain ⟨n, hn⟩ : ∃ n, n = r.pieces.length := ⟨_, rfl⟩
  obtain ⟨ap, cp, rfl, hcp, hpc⟩ := hr.1.shape hn
  have hjn : jk < n := by omega
  have hn6 : n ≤ 6 := by have := (pieces_len hk.e).2; omega
  obtain ⟨gp, op, x, rfl, hx, hq⟩ := hpc jk hjn
  have hxp : pieceOf r (jk : Int) = x := by
    have h := pieceOf_in (r := r) hkd.2 hkd.1
    rw [Int.toNat_natCast, hx] at h
    exact (Option.some.inj h).symm
  rw [hxp] at hwl hwg
  obtain ⟨hB, hY, hX⟩ := rp_boxes w r p (.slice (some ⟨gp, op, none⟩) n cp) vs ve (.slice (some ⟨g, off, none⟩) m cc) v0 v1
  obtain ⟨V, hV⟩ : ∃ V, V = ((w.alloc (.cells (RulesCells r (.slice (some ⟨gp, op, none⟩) n cp) vs ve) 26)).alloc (.cells (PlaceCells p (.slice (some ⟨g, off, none⟩) m cc) v0 v1) 29)) := ⟨_, rfl⟩
  rw [← hV] at hB hY hX
  obtain ⟨u, _, _, _, d3, hu⟩ := piece_keeps _ _ _ _ _ _ hB (Nat.le_refl _) hq
  obtain ⟨nw, hnw⟩ : ∃ nw, nw = x.ways.length := ⟨_, rfl⟩
  obtain ⟨au, cu, rfl, hcu, huc⟩ := hu.shape hnw
  rw [← hnw] at hwl
  have HB := Lib.hid hB
  have HRI : Hid (∀ W, Below V.heap.size V W → IsRules W r (.slice (some ⟨gp, op, none⟩) n cp) vs ve) := Lib.hid (fun W hb => (hr.below hB (Nat.le_refl _)).below hb (Nat.le_refl _))
  have HPI : Hid (∀ W, Below V.heap.size V W → PlaceIn W p (.slice (some ⟨g, off, none⟩) m cc) v0 v1) := Lib.hid (fun W hb => (hp.below hB (Nat.le_refl _)).below hb (Nat.le_refl _))
  have HX : Hid (∀ W, Below V.heap.size V W → BoxP W (w.heap.size + 1) p (.slice (some ⟨g, off, none⟩) m cc) v0 v1) := Lib.hid (fun W hb => hX.below hb (Nat.le_refl _))
  have HY : Hid (∀ W, Below V.heap.size V W → BoxR W w.heap.size r (.slice (some ⟨gp, op, none⟩) n cp) vs ve) := Lib.hid (fun W hb => hY.below hb (Nat.le_refl _))
  have HU : Hid (∀ W, Below V.heap.size V W → ∀ j, j < nw → ∃ g' o' y, au = some ⟨g', o', none⟩ ∧ x.ways[j]? = some y ∧ WayAt W g' (o' + j * 4) y) := Lib.hid (fun W hb j hj => by
    obtain ⟨g', o', y, e1, e2, e3⟩ := huc j hj
    exact ⟨g', o', y, e1, e2, way_keeps _ _ _ _ _ _ hb (Nat.le_refl _) e3⟩)
  have t0 := hk.t0
  have t1 := hk.t1
  obtain ⟨kf, hkf⟩ : ∃ kf : Int → Int, kf = fun t => kindAtI r p.turn (jk : Int) t := ⟨_, rfl⟩
  have HFD : Hid (fromD r p (s : Int) = ((squares p).filter fun t => decide (t ∈ tosD r p (s : Int))).map (mvF (s : Int) kf)) := Lib.hid (by
    unfold fromD; rw [if_pos hio, hkf]
    apply List.map_congr_left
    intro t _
    rw [mkFrom, hjk]; rfl)
  have HKA : Hid (∀ t : Int, 0 ≤ t → t < m → ∀ W, Below V.heap.size V W → Calls Try.prog 61 #[RulesV r (.slice (some ⟨gp, op, none⟩) n cp) vs ve, .int .i64 p.turn, .int .i64 (jk : Int), .int .i64 t] W (BelPost (.int .i64 (kf t)) W)) := Lib.hid (fun t h0 h1 W hb => by
    rw [hkf]
    exact kindAt_any r _ vs ve p.turn (jk : Int) t W ((hr.below hB (Nat.le_refl _)).below hb (Nat.le_refl _)) hk.e t0 t1 hkd.1 hkd.2 h0 (by omega))
  have HRE : Hid (∀ j y, x.ways[j]? = some y → ∀ W, Below V.heap.size V W → Calls Try.prog 60 #[RulesV r (.slice (some ⟨gp, op, none⟩) n cp) vs ve, PlaceV p (.slice (some ⟨g, off, none⟩) m cc) v0 v1, .int .i64 (s : Int), .agg #[.int .i64 y.dx, .int .i64 y.dy, .int .i64 y.most, .int .i64 y.take]] W (OwnPost 3 1 (reachOf r p (s : Int) y).length (iv (reachOf r p (s : Int) y)) W)) := Lib.hid (fun j y hy W hb =>
    reached_any r p _ vs ve _ v0 v1 (s : Int) y W ((hp.below hB (Nat.le_refl _)).below hb (Nat.le_refl _)) hk (by omega) (by rw [← hm]; omega) (hwg y (List.mem_of_getElem? hy)))
  have HTI : Hid (∀ y t, t ∈ reachOf r p (s : Int) y → 0 ≤ t ∧ t < m) := Lib.hid (fun y t h => by rw [hm]; exact reachOf_in hk h)
  have HTD : Hid (∀ t, t ∈ tosD r p (s : Int) → t ∈ squares p) := Lib.hid (fun t h => squares_mem.2 (tos_in hk h))
  have HTS : Hid (∀ j y, x.ways[j]? = some y → tosTo r p (s : Int) (j + 1) = tosTo r p (s : Int) j ++ reachOf r p (s : Int) y) := Lib.hid (fun j y h => tosTo_succ (by rw [hjk, hxp]; exact h))
  have HTA : Hid (tosTo r p (s : Int) nw = tosD r p (s : Int)) := Lib.hid (tosTo_all (by rw [hjk, hxp, hnw]; exact Nat.le_refl _))
  have HTL : Hid (∀ j, (tosTo r p (s : Int) j).length ≤ 112) := Lib.hid (fun j => tosTo_length (by rw [hjk, hxp]; exact hwg) (by rw [hjk, hxp, ← hnw]; exact hwl) j)
  have HT0 : Hid (tosTo r p (s : Int) 0 = []) := Lib.hid rfl
  obtain ⟨c, hc⟩ : ∃ c, c = cellI p (s : Int) := ⟨_, rfl⟩
  have hcr := cell_in hk (s : Int)
  rw [← hc, ← hn] at hcr
  rw [← hc] at hio hcn hjk
  have hc1 : c ≤ 1000 := by omega
  have hc0 : 1 ≤ c := by omega
  have hC0 := cell_keeps hB (Nat.le_refl _) (hcell s hs)
  rw [show p.cells[s]?.getD 0 = c by rw [hc, cellI, Int.toNat_natCast]] at hC0
  have HIS : Hid (∀ W, Calls Try.prog 58 #[.int .i64 c, .int .i64 p.turn] W fun e w' => e = .returned (.bool true) ∧ W = w') := Lib.hid (fun W => by rw [← hio]; exact turned (mIsOf_any c p.turn W (by omega) hc1))
  have HKO : Hid (∀ W, Calls Try.prog 59 #[.int .i64 c] W fun e w' => e = .returned (.int .i64 (jk : Int)) ∧ W = w') := Lib.hid (fun W => by rw [← hjk]; exact turned (mKindOf_any c W hc0 hc1))
  have hsc : s < cc := by omega
  have hjc : jk < cp := by omega
  have hneg : ((s : Int) == -1) = false := by simp
  unfold RulesCells PlaceCells at hV
  unfold RulesV at HKA HRE ⊢
  unfold PlaceV PlaceCells at HRE
  unfold PlaceV PlaceCells
  obtain ⟨x0, x1, x2, x3, x4⟩ := hX
  obtain ⟨y0, y1, y2, y3, y4, y5, y6, y7, y8, y9, y10⟩ := hY
  rw [hV] at x0 x3 y3 d3 hC0
  have hm64 := hcl.2
  clear hr hp hk hcell hB hio hc hcn hjk hxp hx hq hu huc hwg hn hkf hkd hpc x1 x2 x4 y0 y1 y2 y4 y5 y6 y7 y8 y9 y10 hnw hm
  go_enter Try.func33, Try.ntmps33
  go_wp2_with fail
  go_at_call 58; refine (HIS.out _).mono ?_; rintro e w1 ⟨rfl, rfl⟩
  go_wp2_with fail
  go_at_call 59; refine (HKO.out _).mono ?_; rintro e w1 ⟨rfl, rfl⟩
  go_wp2
  rw [← hV]
  clear hV x0 x3 y3 d3 hC0
  go_loopw [8, 11, 13, 38] (fun l _ _ i wr => ∃ j : Nat, j ≤ nw ∧ i = .int .i64 (j : Int) ∧ wr.ownsRow V.heap.size 31 3 l (tosTo r p (s : Int) j).length (mcs ((tosTo r p (s : Int) j).map (mvF (s : Int) kf))) ∧ Hid (Below V.heap.size V wr)) (fun _ _ _ i _ => nw - (intOf i).toNat)
  case atStart => exact ⟨0, by omega, rfl, by rw [HT0.out]; exact World.ownsRow_nil _ _ _ _, Lib.hid (Below.refl _ _)⟩
  case round =>
    obtain ⟨j, hjw, rfl, hown, hbel⟩ := hrel
    obtain ⟨la, lc, rfl⟩ := owns_form hown
    by_cases hlt : j < nw
    · obtain ⟨x0, x1, x2, x3, x4⟩ := HX.out wr hbel.out
      obtain ⟨y0, y1, y2, y3, y4, y5, y6, y7, y8, y9, y10⟩ := HY.out wr hbel.out
      obtain ⟨g', o', y, rfl, hyj, z0, z1, z2, z3⟩ := HU.out wr hbel.out j hlt
      have hjcu : j < cu := by omega
      have HYJ := Lib.hid hyj
      have hbW : Below V.heap.size V (wr.alloc (.cells #[.int .i64 y.dx, .int .i64 y.dy, .int .i64 y.most, .int .i64 y.take] 76)) := hbel.out.alloc hbel.out.size _
      have HBW := Lib.hid hbW
      obtain ⟨u0, u1, u2, u3, u4⟩ := HX.out _ hbW
      obtain ⟨v0', v1', v2', v3', v4', v5', v6', v7', v8', v9', v10'⟩ := HY.out _ hbW
      have HO := Lib.hid (owns_below hown ((Below.refl wr.heap.size wr).alloc (Nat.le_refl _) (.cells #[.int .i64 y.dx, .int .i64 y.dy, .int .i64 y.most, .int .i64 y.take] 76)))
      clear hyj hbW hown hbel x0 x1 x2 x3 x4 y0 y1 y2 y3 y4 y5 y6 y7 y8 y9 y10
      go_wp2_with fail
      go_at_call 60; refine (HRE.out j y HYJ.out _ HBW.out).mono ?_; rintro e w1 ⟨ra, rc, rfl, hri, hb1⟩
      have HB1 : Hid (Below V.heap.size V w1) := Lib.hid (HBW.out.trans (hb1.mono HBW.out.size))
      have HO1 := Lib.hid (owns_below HO.out hb1)
      have HTS1 := Lib.hid (HTS.out j y HYJ.out)
      have HTI1 := Lib.hid (HTI.out y)
      clear hb1 HO HBW u0 u1 u2 u3 u4 v0' v1' v2' v3' v4' v5' v6' v7' v8' v9' v10' z0 z1 z2 z3
      obtain ⟨L, hL⟩ : ∃ L, L = reachOf r p (s : Int) y := ⟨_, rfl⟩
      rw [← hL] at hri HTS1 HTI1 ⊢
      obtain ⟨rn, hnr⟩ : ∃ rn, rn = L.length := ⟨_, rfl⟩
      rw [← hnr] at hri ⊢
      have HNR := Lib.hid hnr
      have HRI1 := Lib.hid hri
      clear hri hL hnr
      obtain ⟨T0, hT0⟩ : ∃ T0, T0 = tosTo r p (s : Int) j := ⟨_, rfl⟩
      have hT0l := HTL.out j
      have HLL : Hid (T0.length + L.length ≤ 112) := Lib.hid (by have h := HTL.out (j + 1); rw [HTS1.out, List.length_append, ← hT0] at h; exact h)
      rw [← hT0] at HO1 HTS1 hT0l ⊢
      clear hT0
      have hrn : rn ≤ 112 := by have := HLL.out; have := HNR.out; omega
      go_wp2_with fail
      go_loopw [8, 13, 48] (fun l _ i wx => ∃ q : Nat, q ≤ rn ∧ i = .int .i64 (q : Int) ∧ wx.ownsRow V.heap.size 31 3 l (T0 ++ L.take q).length (mcs ((T0 ++ L.take q).map (mvF (s : Int) kf))) ∧ Hid (Below V.heap.size V wx) ∧ Hid (wx.ownsRow 0 3 1 (.slice ra rn rc) rn (iv L))) (fun _ _ i _ => rn - (intOf i).toNat)
      case atStart => exact ⟨0, by omega, rfl, by simpa using HO1.out, HB1, Lib.hid (owns_weak HRI1.out (Nat.zero_le _))⟩
      case round =>
        obtain ⟨q, hqr, rfl, hown, hbel, hbel1⟩ := hrel
        obtain ⟨l2, c2, rfl⟩ := owns_form hown
        by_cases hlt2 : q < rn
        · obtain ⟨g3, t, rfl, hLq, hqc, C3⟩ := owns_at hbel1.out hlt2
          have C3' : wr.cell? ⟨g3, 0 + q, none⟩ = some (.int .i64 t) := by rw [Nat.zero_add]; exact C3
          have htr := HTI1.out t (List.mem_of_getElem? hLq)
          obtain ⟨x0, x1, x2, x3, x4⟩ := HX.out wr hbel.out
          obtain ⟨y0, y1, y2, y3, y4, y5, y6, y7, y8, y9, y10⟩ := HY.out wr hbel.out
          have HKT := Lib.hid (HKA.out t htr.1 htr.2 wr hbel.out)
          have HP1 : Hid (T0 ++ L.take (q + 1) = (T0 ++ L.take q) ++ [t]) := Lib.hid (by rw [List.take_add_one, hLq, List.append_assoc]; rfl)
          have hpl : (T0 ++ L.take q).length ≤ 112 := by
            have := HLL.out
            rw [List.length_append, List.length_take]; omega
          generalize T0 ++ L.take q = pre at hown HP1 hpl ⊢
          have KL : Hid ((pre ++ [t]).length = pre.length + 1) := Lib.hid (by simp)
          obtain ⟨kt, hkt⟩ : ∃ kt, kt = kf t := ⟨_, rfl⟩
          have KM : Hid (mcs ((pre ++ [t]).map (mvF (s : Int) kf)) = mcs (pre.map (mvF (s : Int) kf)) ++ mc ((s : Int), t, kt)) := Lib.hid (by rw [List.map_append, mcs_append, hkt]; exact congrArg _ (mcs_one _))
          rw [← hkt] at HKT
          have HO := Lib.hid hown
          clear hLq htr hkt hown
          go_wp2_with fail
          go_at_call 61; refine HKT.out.mono ?_; rintro e w2 ⟨rfl, hb2⟩
          have HB2 : Hid (Below V.heap.size V w2) := Lib.hid (hbel.out.trans (hb2.mono hbel.out.size))
          have HR2 := Lib.hid (owns_below hbel1.out hb2)
          have hown2 := owns_below HO.out hb2
          clear hb2 HO hbel hbel1 HKT x0 x1 x2 x3 x4 y0 y1 y2 y3 y4 y5 y6 y7 y8 y9 y10 C3 C3'
          go_wp2_with (at_builtin; refine wpList_append_own _ rfl _ _ 37 rfl V.heap.size 31 i0 (.agg #[.int .i64 0, .int .i64 0, .int .i64 0]) 3 24 Try.underlying37 hi hz0 hz1 hz2 rfl (by decide) _ _ _ rfl (hown2.alloc _) ⟨w2.heap.size, 0, none⟩ 1 1 (mc ((s : Int), t, kt)) rfl rfl (cell_new3 _ _ _ _ _) (fun u hu => mcs_one_cell [((s : Int), t, kt)] u (by rw [mcs_one]; exact hu)) (by unfold maxLen; omega) (by omega) (by have := HB2.out.size; simp; omega) ?_)
          intro v' w3 hown' hgrow _
          have hg' : (w2.alloc (.cells #[.int .i64 (s : Int), .int .i64 t, .int .i64 kt] 31)).grownBy w3 (Value.slice l2 pre.length c2).ownBlock := hgrow
          have HB3 : Hid (Below V.heap.size V w3) := Lib.hid ((HB2.out.alloc HB2.out.size _).grown hg' (by have := HB2.out.size; simp; omega) (fun k e => (hown2.lt k e).1))
          have HR3 := Lib.hid (owns_other (HR2.out.alloc (.cells #[.int .i64 (s : Int), .int .i64 t, .int .i64 kt] 31)) (hown2.alloc (.cells #[.int .i64 (s : Int), .int .i64 t, .int .i64 kt] 31)) (by decide) hg')
          rw [← KM.out, ← KL.out] at hown'
          have HO2 := Lib.hid hown'
          clear hgrow hg' hown2 hown' HB2 HR2
          go_wp2
          go_roundw
          case rel => exact ⟨q + 1, by omega, by go_num, by rw [HP1.out]; exact HO2.out, HB3, HR3⟩
          case measure => simp [intOf]; omega
        · have hq : q = rn := by omega
          have KT : Hid (T0 ++ L.take q = tosTo r p (s : Int) (j + 1)) := Lib.hid (by rw [HTS1.out, List.take_of_length_le (by rw [hq]; rw [HNR.out]; exact Nat.le_refl _)])
          have HO2 := Lib.hid hown
          clear hown hq
          go_wp2
          go_roundw
          case rel => exact ⟨j + 1, by omega, by go_num, by rw [← KT.out]; simpa using HO2.out, hbel⟩
          case measure => simp [intOf]; omega
    · obtain rfl : j = nw := by omega
      have HBE : Hid (Below w.heap.size w wr) := Lib.hid (HB.out.trans (hbel.out.mono HB.out.size))
      have HOW := Lib.hid hown
      have hll := HTL.out j
      obtain ⟨T, hT⟩ : ∃ T, T = tosTo r p (s : Int) j := ⟨_, rfl⟩
      have HTT : Hid (T = tosD r p (s : Int)) := Lib.hid (by rw [hT]; exact HTA.out)
      have HSQ : Hid (∀ t ∈ T, t ∈ squares p) := Lib.hid (fun t ht => HTD.out t (by rw [← HTT.out]; exact ht))
      rw [← hT] at HOW hll hown
      obtain ⟨nT, hnT⟩ : ∃ nT, nT = T.length := ⟨_, rfl⟩
      rw [← hnT] at HOW hll hown
      rw [← hT, ← hnT]
      have HNT := Lib.hid hnT
      have HBV := hbel
      clear hown hT hnT hbel
      by_cases h0 : nT = 0
      · subst h0
        have KE : Hid (fromD r p (s : Int) = []) := Lib.hid (by
          rw [HFD.out, ← HTT.out, List.eq_nil_of_length_eq_zero HNT.out.symm]; simp)
        clear HX HY HU HKA HRE
        go_wp2_with fail
        go_at_call 62; refine (turned (sort_none _)).mono ?_; rintro e w1 ⟨rfl, rfl⟩
        go_wp2_with fail
        go_at_call 65; refine (turned (compact_none _ _ _)).mono ?_; rintro e w1 ⟨rfl, rfl⟩
        go_wp2_with fail
        go_ret
        exact ⟨_, _, _, rfl, by rw [KE.out]; exact .inl ⟨rfl, _, _, rfl⟩, owns_nil HOW.out, HBE.out⟩
      · have hn1 : 1 ≤ nT := by omega
        have KC : Hid (Go.Lib.compactUpTo ((sortTo T).map (mvF (s : Int) kf)).toArray nT = fromD r p (s : Int)) := Lib.hid (by
          rw [HNT.out, comp_sorted T (s : Int) kf HSQ.out, HFD.out, HTT.out])
        clear HX HY HU HKA HRE h0
        go_wp2_with fail
        go_at_call 62; refine (sort_own HOW.out hn1 HNT.out.symm (by omega)).mono ?_; rintro e w1 ⟨rfl, hown1, hb1⟩
        have HO1 := Lib.hid hown1
        have HB1 := Lib.hid (hb1 V HBV.out HBV.out.size)
        clear hown1 hb1 HOW HBV HBE
        go_wp2_with fail
        go_at_call 65; refine (compact_own HO1.out hn1 (by omega)).mono ?_; rintro e w2 ⟨a2, m2, c2, rfl, hI2, hnil, hb2⟩
        have HNI := Lib.hid hnil
        have HI2 := Lib.hid hI2
        have HB2 := Lib.hid (HB.out.trans ((hb2 V HB1.out HB1.out.size).mono HB.out.size))
        clear hI2 hnil hb2 HO1 HB1
        go_wp2_with fail
        go_ret
        exact ⟨a2, m2, c2, rfl, by rw [← KC.out]; exact HI2.out, HNI.out, HB2.out⟩
/-- All moves from a square or from the hand. -/
theorem allFrom_any (r : RulesD) (p : PlaceD) (vp vs ve vc v0 v1 : Value) (src : Int) (w : World) (hr : IsRules w r vp vs ve) (hp : PlaceIn w p vc v0 v1) (hk : POkay r p) (h0 : -1 ≤ src) (h1 : src < p.cells.length) :
    Calls Try.prog 33 #[RulesV r vp vs ve, PlaceV p vc v0 v1, .int .i64 src] w (SlPost MoveAt 3 (movesOf r p src) w) := by
  unfold movesOf
  by_cases hm : src = -1
  · subst hm
    rw [if_pos rfl]
    exact allFrom_hand r p vp vs ve vc v0 v1 w hp hk
  · rw [if_neg hm]
    obtain ⟨s, rfl⟩ : ∃ s : Nat, src = (s : Int) := ⟨src.toNat, by omega⟩
    cases hio : isOfB (cellI p (s : Int)) p.turn
    · exact allFrom_not r p vp vs ve vc v0 v1 s w hp hk (by omega) hio
    · exact allFrom_yes r p vp vs ve vc v0 v1 s w hr hp hk (by omega) hio
end Go.Proofs.Ythbilpgecombiaa
