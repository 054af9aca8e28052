/- moves.reached: the squares on which a piece can end by one way. -/
import Derived.Test.YthbilpgecombiaaMovR
import Derived.OwnWalk
set_option maxRecDepth 100000
namespace Go.Proofs.Ythbilpgecombiaa
open Go.ChangeShapes Go.WideShapes Go.ChangeAt Go.RowKit

theorem infoIntM : (Try.prog.info? 3).map (fun i => (i.zero, i.size, i.bytes)) = some (some (.int .i64 0), 1, 8) := by kernel_rfl
theorem cell_new1 (W : World) (x : Value) (t : TypeId) : ∀ j u, ([x] : List Value)[j]? = some u → (W.alloc (.cells #[x] t)).cell? (Addr.add ⟨W.heap.size, 0, none⟩ j) = some u := by
  intro j u hj
  match j, hj with
  | 0, hj =>
    obtain rfl : x = u := by simpa using hj
    rw [Addr.add_lit, World.cell?_alloc_at (hn := rfl)]; rfl
/-- A result that is a slice of the call's own. -/
def OwnPost (t : TypeId) (k n : Nat) (cs : List Value) (w : World) (e : Ending) (w' : World) : Prop := ∃ a c, e = .returned (.slice a n c) ∧ w'.ownsRow w.heap.size t k (.slice a n c) n cs ∧ Below w.heap.size w w'
theorem owns_weak {W : World} {B B' : Nat} {e : TypeId} {k : Nat} {v : Value} {n : Nat} {xs : List Value} (h : W.ownsRow B e k v n xs) (hb : B' ≤ B) : W.ownsRow B' e k v n xs := by
  refine ⟨h.1, ?_⟩
  rcases h.2 with h2 | ⟨g, cap, cur, e1, e2, e3⟩
  · exact .inl h2
  · exact .inr ⟨g, cap, cur, e1, Nat.le_trans hb e2, e3⟩
theorem owns_form {W : World} {B : Nat} {e : TypeId} {k : Nat} {v : Value} {n : Nat} {xs : List Value} (h : W.ownsRow B e k v n xs) : ∃ a c, v = .slice a n c := by
  rcases h.2 with ⟨rfl, rfl⟩ | ⟨g, cap, cur, rfl, _⟩
  · exact ⟨_, _, rfl⟩
  · exact ⟨_, _, rfl⟩
/-- The boxes of rules, of a position and of a way that a call begins with. -/
theorem rpw_boxes (w : World) (r : RulesD) (p : PlaceD) (vp vs ve vc v0 v1 : Value) (a b c d : Value) : ∃ V, V = ((w.alloc (.cells (RulesCells r vp vs ve) 26)).alloc (.cells (PlaceCells p vc v0 v1) 29)).alloc (.cells #[a, b, c, d] 76) ∧ Below w.heap.size w V ∧ BoxR V w.heap.size r vp vs ve ∧ BoxP V (w.heap.size + 1) p vc v0 v1 ∧
    (V.cell? ⟨w.heap.size + 2, 0, none⟩ = some a ∧ V.cell? ⟨w.heap.size + 2, 1, none⟩ = some b ∧ V.cell? ⟨w.heap.size + 2, 2, none⟩ = some c ∧ V.cell? ⟨w.heap.size + 2, 3, none⟩ = some d) := by
  obtain ⟨hB, hY, hX⟩ := rp_boxes w r p vp vs ve vc v0 v1
  have hs : ((w.alloc (.cells (RulesCells r vp vs ve) 26)).alloc (.cells (PlaceCells p vc v0 v1) 29)).heap.size = w.heap.size + 2 := by simp
  generalize (w.alloc (.cells (RulesCells r vp vs ve) 26)).alloc (.cells (PlaceCells p vc v0 v1) 29) = V0 at hB hY hX hs ⊢
  have h1 := (Below.refl V0.heap.size V0).alloc (Nat.le_refl _) (.cells #[a, b, c, d] 76)
  have h2 := cells4_new V0 a b c d 76 _ (Below.refl _ _)
  rw [hs] at h2
  exact ⟨_, rfl, hB.trans (h1.mono hB.size), hY.below h1 (Nat.le_refl _), hX.below h1 (Nat.le_refl _), h2⟩
theorem wrap_div {a b : Int} (h0 : 0 ≤ a) (h1 : a ≤ 1000) (hb : 1 ≤ b) : wrap64 (a.tdiv b) = a / b := by
  rw [Int.tdiv_eq_ediv_of_nonneg h0]
  have h2 := Int.ediv_nonneg h0 (b := b) (by omega)
  have h3 : a / b ≤ a := Int.ediv_le_self b h0
  generalize a / b = q at h2 h3 ⊢
  unfold wrap64
  omega
set_option maxHeartbeats 8000000 in
theorem reached_any (r : RulesD) (p : PlaceD) (vp vs ve vc v0 v1 : Value) (src : Int) (way : WayD) (w : World) (hp : PlaceIn w p vc v0 v1) (hk : POkay r p) (s0 : 0 ≤ src) (s1 : src < p.cells.length) (hy : wayB way = true) :
    Calls Try.prog 60 #[RulesV r vp vs ve, PlaceV p vc v0 v1, .int .i64 src, .agg #[.int .i64 way.dx, .int .i64 way.dy, .int .i64 way.most, .int .i64 way.take]] w (OwnPost 3 1 (reachOf r p src way).length (iv (reachOf r p src way)) w) := by
  obtain ⟨i0, hi, hz0, hz1, hz2⟩ := info_parts infoIntM
  obtain ⟨_, hw, hh, _⟩ := rulesE_ok hk.e
  rw [inB_iff] at hw hh
  obtain ⟨hw1, hw2⟩ := hw
  obtain ⟨hh1, hh2⟩ := hh
  have hcl := cells_len hk
  obtain ⟨⟨dx1, dx2⟩, ⟨dy1, dy2⟩, _, ⟨ms1, ms2⟩, _, _⟩ := way_facts hy
  obtain ⟨wdx, wdy, wmost, wtake⟩ := way
  dsimp only at dx1 dx2 dy1 dy2 ms1 ms2 ⊢
  obtain ⟨N, rfl⟩ : ∃ N : Nat, wmost = (N : Int) := ⟨wmost.toNat, by omega⟩
  obtain ⟨g, off, cc, rfl, hcc, hcell⟩ := ints_open hp.c hcl.1
  obtain ⟨m, hm⟩ : ∃ m, m = p.cells.length := ⟨_, rfl⟩
  have HQ : Hid (∀ x y, onB r x y = true → 0 ≤ y * r.width + x ∧ y * r.width + x < m) := Lib.hid (fun x y h => by rw [hm]; exact sq_in hk h)
  have HCI : Hid (∀ s, 0 ≤ cellI p s ∧ cellI p s ≤ 12) := Lib.hid (fun s => by have h1 := cell_in hk s; have h2 := (pieces_len hk.e).2; omega)
  have t0 := hk.t0
  have t1 := hk.t1
  have HST : Hid (onB r (src % r.width) (src / r.width) = true) := Lib.hid (by
    rw [onB_iff]
    have h1 := Int.emod_nonneg src (b := r.width) (by omega)
    have h2 := Int.emod_lt_of_pos src (b := r.width) (by omega)
    have h3 := Int.ediv_nonneg s0 (b := r.width) (by omega)
    have h4 := hk.cl
    have h5 : src / r.width < r.height := Int.ediv_lt_of_lt_mul (by omega) (by rw [Int.mul_comm]; omega)
    exact ⟨h1, h2, h3, h5⟩)
  rw [← hm] at s1 hcc hcell hcl ⊢
  obtain ⟨V, hV, hB, hY, hX, hW⟩ := rpw_boxes w r p vp vs ve (.slice (some ⟨g, off, none⟩) m cc) v0 v1 (.int .i64 wdx) (.int .i64 wdy) (.int .i64 (N : Int)) (.int .i64 wtake)
  have HB := Lib.hid hB
  have HVS := hB.size
  have HC : Hid (∀ W, Below V.heap.size V W → ∀ j, j < m → W.cell? ⟨g, off + j, none⟩ = some (.int .i64 (cellI p (j : Int)))) := Lib.hid (fun W hb j hj => by
    rw [cellI, Int.toNat_natCast]; exact cell_keeps hb (Nat.le_refl _) (cell_keeps hB (Nat.le_refl _) (hcell j hj)))
  have HX : Hid (∀ W, Below V.heap.size V W → BoxP W (w.heap.size + 1) p (.slice (some ⟨g, off, none⟩) m cc) v0 v1) := Lib.hid (fun W hb => hX.below hb (Nat.le_refl _))
  have HY : Hid (∀ W, Below V.heap.size V W → BoxR W w.heap.size r vp vs ve) := Lib.hid (fun W hb => hY.below hb (Nat.le_refl _))
  have HW : Hid (∀ W, Below V.heap.size V W → (W.cell? ⟨w.heap.size + 2, 0, none⟩ = some (.int .i64 wdx) ∧ W.cell? ⟨w.heap.size + 2, 1, none⟩ = some (.int .i64 wdy) ∧ W.cell? ⟨w.heap.size + 2, 2, none⟩ = some (.int .i64 (N : Int)) ∧ W.cell? ⟨w.heap.size + 2, 3, none⟩ = some (.int .i64 wtake))) := Lib.hid (fun W hb => ⟨cell_keeps hb (Nat.le_refl _) hW.1, cell_keeps hb (Nat.le_refl _) hW.2.1, cell_keeps hb (Nat.le_refl _) hW.2.2.1, cell_keeps hb (Nat.le_refl _) hW.2.2.2⟩)
  obtain ⟨D, hD⟩ : ∃ D, D = upI p wdy := ⟨_, rfl⟩
  have hcase : ((p.turn == 1) = true ∧ -wdy = D) ∨ ((p.turn == 1) = false ∧ D = wdy) := by
    by_cases h : p.turn = 1
    · exact .inl ⟨by simpa using h, by rw [hD, upI, if_pos h]⟩
    · exact .inr ⟨by simpa using h, by rw [hD, upI, if_neg h]⟩
  have hD1 : -7 ≤ D ∧ D ≤ 7 := by rcases hcase with ⟨_, h⟩ | ⟨_, h⟩ <;> omega
  obtain ⟨hD1, hD2⟩ := hD1
  obtain ⟨LL, hLL⟩ : ∃ l, l = reachOf r p src ⟨wdx, wdy, (N : Int), wtake⟩ := ⟨_, rfl⟩
  have HR : Hid (LL = reach r p wdx D wtake N (src % r.width) (src / r.width)) := Lib.hid (by rw [hLL, reachOf, ← hD, Int.toNat_natCast])
  rw [← hLL]
  have hN7 : N ≤ 7 := by omega
  unfold RulesCells PlaceCells at hV
  unfold RulesV PlaceV PlaceCells
  have hm64 : m ≤ 64 := hcl.2
  clear hp hm hcell hB hy hcl hD hLL
  rcases hcase with ⟨e1, e2⟩ | ⟨e1, rfl⟩
  all_goals
    have hW1 := hW
    obtain ⟨x0, x1, x2, x3, x4⟩ := hX
    obtain ⟨y0, y1, y2, y3, y4, y5, y6, y7, y8, y9, y10⟩ := hY
    obtain ⟨z0, z1, z2, z3⟩ := hW1
    rw [hV] at x0 x1 x2 x3 x4 y0 y1 y2 y3 y4 y5 y6 y7 y8 y9 y10 z0 z1 z2 z3
    go_enter Try.func60, Try.ntmps60
    go_wp2_with fail
    clear x0 x1 x2 x3 x4 y0 y1 y2 y3 y4 y5 y6 y7 y8 y9 y10 z0 z1 z2 z3
    rw [← hV]
    clear hV hW
    obtain ⟨y0, y1, y2, y3, y4, y5, y6, y7, y8, y9, y10⟩ := HY.out V (Below.refl _ _)
    obtain ⟨z0, z1, z2, z3⟩ := HW.out V (Below.refl _ _)
    go_quiet (fail)
    clear y0 y1 y2 y3 y4 y5 y6 y7 y8 y9 y10
    go_wp2
    clear z0 z1 z2 z3
    go_loopw [10, 11, 12, 13, 31] (fun l vx vy _ vi wr => ∃ (k : Nat) (x y : Int) (pre : List Int), k ≤ N ∧ vi = .int .i64 (k : Int) ∧ vx = .int .i64 x ∧ vy = .int .i64 y ∧ Hid (onB r x y = true) ∧ Hid (LL = pre ++ reach r p wdx D wtake (N - k) x y) ∧ pre.length ≤ k ∧ wr.ownsRow V.heap.size 3 1 l pre.length (iv pre) ∧ Hid (Below V.heap.size V wr)) (fun _ _ _ _ i _ => N - (intOf i).toNat)
    case atStart => exact ⟨0, src % r.width, src / r.width, [], by omega, rfl, rfl, rfl, HST, Lib.hid (by rw [HR.out]; rfl), Nat.le_refl _, World.ownsRow_nil _ _ _ _, Lib.hid (below_drewN (Below.refl _ _) _)⟩
    case round =>
      clear HST HR
      obtain ⟨k, x, y, pre, hkN, rfl, rfl, rfl, hon, hre, hpl, hown, hbel⟩ := hrel
      obtain ⟨la, lc, rfl⟩ := owns_form hown
      have hon1 := onB_iff.1 hon.out
      obtain ⟨o1, o2, o3, o4⟩ := hon1
      obtain ⟨z0, z1, z2, z3⟩ := HW.out wr hbel.out
      obtain ⟨y0, y1, y2, y3, y4, y5, y6, y7, y8, y9, y10⟩ := HY.out wr hbel.out
      obtain ⟨x0, x1, x2, x3, x4⟩ := HX.out wr hbel.out
      by_cases hlt : k < N
      · obtain ⟨X, hX⟩ : ∃ X, x + wdx = X := ⟨_, rfl⟩
        obtain ⟨Y, hY⟩ : ∃ Y, y + D = Y := ⟨_, rfl⟩
        have X1 : -7 ≤ X ∧ X ≤ 14 := by omega
        have Y1 : -7 ≤ Y ∧ Y ≤ 14 := by omega
        obtain ⟨X1, X2⟩ := X1
        obtain ⟨Y1, Y2⟩ := Y1
        by_cases hoff : onB r X Y = false
        · have KR : Hid (LL = pre) := Lib.hid (by rw [hre.out, reach_off (by rw [hX, hY]; exact hoff), List.append_nil])
          have hoffs : X < 0 ∨ r.width ≤ X ∨ Y < 0 ∨ r.height ≤ Y := by
            have h := hoff
            rw [Bool.eq_false_iff] at h
            rw [Ne, onB_iff] at h
            omega
          have HO := Lib.hid hown
          have HBE : Hid (Below w.heap.size w wr) := Lib.hid (HB.out.trans (hbel.out.mono HB.out.size))
          clear hoff hre hon hown hbel HC HX HY HW HQ HCI HB
          go_wp2
          all_goals
            go_ret
            rw [KR.out]
            exact ⟨_, _, rfl, owns_weak HO.out HVS, HBE.out⟩
        · have hon2 : onB r X Y = true := by simpa using hoff
          obtain ⟨q1, q2, q3, q4⟩ := onB_iff.1 hon2
          obtain ⟨A, hA⟩ : ∃ A, Y * r.width = A := ⟨_, rfl⟩
          have hT0 := HQ.out X Y hon2
          rw [hA] at hT0
          obtain ⟨tn, hT⟩ : ∃ tn : Nat, A + X = (tn : Int) := ⟨(A + X).toNat, by omega⟩
          have hA0 : 0 ≤ A := by rw [← hA]; exact Int.mul_nonneg q3 (by omega)
          have htm : tn < m := by omega
          have htc : tn < cc := by omega
          have hA1 : A ≤ 64 := by omega
          obtain ⟨c, hc⟩ : ∃ c, c = cellI p (tn : Int) := ⟨_, rfl⟩
          have hcr := HCI.out (tn : Int)
          rw [← hc] at hcr
          have C0 := HC.out wr hbel.out tn htm
          rw [← hc] at C0
          obtain ⟨b, hb⟩ : ∃ b, b = canEndB wtake c p.turn := ⟨_, rfl⟩
          have HCE : Hid (∀ W, Calls Try.prog 83 #[.int .i64 wtake, .int .i64 c, .int .i64 p.turn] W fun e w' => e = .returned (.bool b) ∧ w' = W) := Lib.hid (fun W => by rw [hb]; exact canEnd_any _ _ _ _ hcr.1 (by omega) t0 t1)
          have KR : Hid (LL = pre ++ ((if b = true then [(tn : Int)] else []) ++ (if c = 0 then reach r p wdx D wtake (N - (k + 1)) X Y else []))) := Lib.hid (by
            rw [hre.out, show N - k = (N - (k + 1)) + 1 by omega, reach_on (T := (tn : Int)) hX hY (by rw [hA]; exact hT) hon2, hb, hc])
          have HON := Lib.hid hon2
          have d1 : decide (X < 0) = false := by simp; omega
          have d2 : decide (X ≥ r.width) = false := by simp; omega
          have d3 : decide (Y < 0) = false := by simp; omega
          have d4 : decide (Y ≥ r.height) = false := by simp; omega
          have HCC := Lib.hid hc
          have HCC := Lib.hid hc
          clear hoff hre hon hon2 HQ HCI hb hc hT0
          go_wp2_with fail
          go_quiet ((go_at_call 83; exact Calls.quiet_of_same (HCE.out _)))
          have HBQ : Hid (Below V.heap.size V (wr.drewN nq)) := Lib.hid (below_drewN hbel.out _)
          have hownq : (wr.drewN nq).ownsRow V.heap.size 3 1 (.slice la pre.length lc) pre.length (iv pre) := hown
          generalize wr.drewN nq = wq at HBQ hownq ⊢
          have HBQw : Hid (Below w.heap.size w wq) := Lib.hid (HB.out.trans (HBQ.out.mono HB.out.size))
          obtain ⟨pre1, hpre1⟩ : ∃ l, l = pre ++ (if b = true then [(tn : Int)] else []) := ⟨_, rfl⟩
          have KR1 : Hid (LL = pre1 ++ (if c = 0 then reach r p wdx D wtake (N - (k + 1)) X Y else [])) := Lib.hid (by rw [KR.out, hpre1, List.append_assoc])
          have hpl1 : pre1.length ≤ k + 1 := by rw [hpre1, List.length_append]; split <;> simp <;> omega
          have HP1 := Lib.hid hpre1
          clear KR hpre1
          clear x0 x1 x2 x3 x4 C0 y0 y1 y2 y3 y4 y5 y6 y7 y8 y9 y10 z0 z1 z2 z3 hown hbel
          cases b
          · have hp1 : pre1 = pre := by rw [HP1.out]; simp
            subst hp1
            obtain ⟨x0, x1, x2, x3, x4⟩ := HX.out wq HBQ.out
            have C1 := HC.out wq HBQ.out tn htm
            rw [← HCC.out] at C1
            have HBW : Hid (Below w.heap.size w wq) := Lib.hid (HB.out.trans (HBQ.out.mono HB.out.size))
            have HOW := Lib.hid hownq
            by_cases hz : c = 0
            · have hzb : (c != 0) = false := by simpa using hz
              have KR2 : Hid (LL = pre1 ++ reach r p wdx D wtake (N - (k + 1)) X Y) := Lib.hid (by rw [KR1.out, if_pos hz])
              clear hz KR1 HC HX HY HW HB HCE HCC
              go_wp2
              go_roundw
              case rel => exact ⟨k + 1, X, Y, pre1, by omega, by go_num, rfl, rfl, HON, KR2, hpl1, HOW.out, HBQ⟩
              case measure => simp [intOf]; omega
            · have hzb : (c != 0) = true := by simpa using hz
              have KR2 : Hid (LL = pre1) := Lib.hid (by rw [KR1.out, if_neg hz, List.append_nil])
              clear hz KR1 HC HX HY HW HB HCE HCC
              go_wp2
              go_ret
              rw [KR2.out]
              exact ⟨_, _, rfl, owns_weak HOW.out HVS, HBW.out⟩
          · have hp1 : pre1 = pre ++ [(tn : Int)] := by rw [HP1.out]; simp
            have hlen : pre1.length = pre.length + 1 := by rw [hp1]; simp
            have HIV : Hid (iv pre1 = iv pre ++ [.int .i64 (tn : Int)]) := Lib.hid (by rw [hp1, iv_append])
            clear hp1 HP1
            go_wp2_with (at_builtin; refine wpList_append_own _ rfl _ _ 23 rfl V.heap.size 3 i0 (.int .i64 0) 1 8 Try.underlying23 hi hz0 hz1 hz2 rfl (by decide) _ _ _ rfl (hownq.alloc _) ⟨wq.heap.size, 0, none⟩ 1 1 [.int .i64 (tn : Int)] rfl rfl (cell_new1 _ _ _) (by simp [Value.oneCell']) (by unfold maxLen; omega) (by omega) (by have := HBQ.out.size; simp; omega) ?_)
            intro v' w1 hown' hgrow _
            have hg' : (wq.alloc (.cells #[.int .i64 (tn : Int)] 3)).grownBy w1 (Value.slice la pre.length lc).ownBlock := hgrow
            have HB1 : Hid (Below V.heap.size V w1) := Lib.hid ((HBQ.out.alloc HBQ.out.size _).grown hg' (by have := HBQ.out.size; simp; omega) (fun k e => (hownq.lt k e).1))
            rw [← hlen, ← HIV.out] at hown'
            obtain ⟨l1, c1, rfl⟩ := owns_form hown'
            clear hgrow hg' hownq HBQ HBQw
            obtain ⟨x0, x1, x2, x3, x4⟩ := HX.out w1 HB1.out
            have C1 := HC.out w1 HB1.out tn htm
            rw [← HCC.out] at C1
            have HBW : Hid (Below w.heap.size w w1) := Lib.hid (HB.out.trans (HB1.out.mono HB.out.size))
            have HOW := Lib.hid hown'
            by_cases hz : c = 0
            · have hzb : (c != 0) = false := by simpa using hz
              have KR2 : Hid (LL = pre1 ++ reach r p wdx D wtake (N - (k + 1)) X Y) := Lib.hid (by rw [KR1.out, if_pos hz])
              clear hz KR1 HC HX HY HW HB HCE HCC
              go_wp2
              go_roundw
              case rel => exact ⟨k + 1, X, Y, pre1, by omega, by go_num, rfl, rfl, HON, KR2, hpl1, HOW.out, HB1⟩
              case measure => simp [intOf]; omega
            · have hzb : (c != 0) = true := by simpa using hz
              have KR2 : Hid (LL = pre1) := Lib.hid (by rw [KR1.out, if_neg hz, List.append_nil])
              clear hz KR1 HC HX HY HW HB HCE HCC
              go_wp2
              go_ret
              rw [KR2.out]
              exact ⟨_, _, rfl, owns_weak HOW.out HVS, HBW.out⟩
      · have KR : Hid (LL = pre) := Lib.hid (by rw [hre.out, show N - k = 0 by omega]; exact List.append_nil _)
        have HO := Lib.hid hown
        have HBE : Hid (Below w.heap.size w wr) := Lib.hid (HB.out.trans (hbel.out.mono HB.out.size))
        have hd : decide ((k : Int) < (N : Int)) = false := by simp; omega
        clear hre hon hown hbel HC HX HY HW HQ HCI HB
        go_wp2
        go_ret
        rw [KR.out]
        exact ⟨_, _, rfl, owns_weak HO.out HVS, HBE.out⟩
end Go.Proofs.Ythbilpgecombiaa
