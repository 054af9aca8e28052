/- slices.Contains at moves; moves.isLegal and moves.Legal. -/
import Derived.Test.YthbilpgecombiaaMovA
import Derived.Deep.RegionHeld3
set_option maxRecDepth 100000
namespace Go.Proofs.Ythbilpgecombiaa
open Go.ChangeShapes Go.WideShapes Go.ChangeAt Go.RowKit

theorem eqlMove : EqlAt Try.prog 31 (fun x : MoveD => .agg (mc x).toArray) sameM :=
  ⟨fun x y w => eqMove x.1 x.2.1 x.2.2 y.1 y.2.1 y.2.2 w, GuardAt.agg _ (by kernel_rfl)⟩
set_option maxHeartbeats 1000000 in
theorem index_none (a : Option Addr) (c : Nat) (x : MoveD) (w : World) : Calls Try.prog 36 #[.slice a 0 c, .agg #[.int .i64 x.1, .int .i64 x.2.1, .int .i64 x.2.2]] w fun e w' => e = .returned (.int .i64 (-1)) ∧ Below w.heap.size w w' := by
  go_enter Try.func36, Try.ntmps36
  go_wp2
  refine wp_loop_rounds 1 ?_
  rw [rounds_succ]
  go_wp2
  go_ret
  exact ⟨rfl, (Below.refl _ _).alloc (Nat.le_refl _) _⟩
set_option maxHeartbeats 1000000 in
theorem contains_none (a : Option Addr) (c : Nat) (x : MoveD) (w : World) : Calls Try.prog 15 #[.slice a 0 c, .agg #[.int .i64 x.1, .int .i64 x.2.1, .int .i64 x.2.2]] w (BelPost (.bool false) w) := by
  have HI := Lib.hid (index_none a c x)
  have hB := (Below.refl w.heap.size w).alloc (Nat.le_refl _) (.cells #[.int .i64 x.1, .int .i64 x.2.1, .int .i64 x.2.2] 31)
  have HB := Lib.hid hB
  go_enter Try.func15, Try.ntmps15
  go_wp2_with fail
  go_at_call 36; refine (HI.out _).mono ?_; rintro e w1 ⟨rfl, hb⟩
  have HB1 := Lib.hid (HB.out.trans (hb.mono HB.out.size))
  clear hb hB HB
  go_wp2_with fail
  go_ret
  exact ⟨rfl, HB1.out⟩
theorem any_same (x : MoveD) (ms : List MoveD) : (ms.any fun y => sameM x y) = decide (x ∈ ms) := by
  by_cases h : x ∈ ms
  · rw [decide_eq_true h, List.any_eq_true]
    exact ⟨x, h, sameM_eq rfl⟩
  · rw [decide_eq_false h, List.any_eq_false]
    intro y hy e
    unfold sameM at e
    exact h (by rw [of_decide_eq_true e]; exact hy)
theorem contains_any (ms : List MoveD) (a : Option Addr) (n c : Nat) (x : MoveD) (w : World) (h : IsSl MoveAt 3 w (.slice a n c) ms) (hl : ms.length ≤ 100000) :
    Calls Try.prog 15 #[.slice a n c, .agg #[.int .i64 x.1, .int .i64 x.2.1, .int .i64 x.2.2]] w (BelPost (.bool (decide (x ∈ ms))) w) := by
  have hn := h.len
  rcases h with ⟨rfl, a', c', e⟩ | ⟨g, off, cap, e1, e2, e3, e4, hc⟩
  · simp only [Value.slice.injEq] at e
    obtain ⟨rfl, rfl, rfl⟩ := e
    have h1 := contains_none a c x w
    simpa using h1
  · simp only [Value.slice.injEq] at e1
    obtain ⟨rfl, rfl, rfl⟩ := e1
    have hcon := AnyQ.slices_Contains Try.containsMove 3 Try.isAgg31 Try.sizeOf31 mc (fun _ => rfl) sameM eqlMove g off ms.length c ms x w (Nat.le_refl _) (by omega) (fun j hj i v hi => by
      have h1 := hc j _ (List.getElem?_eq_getElem hj)
      have h2 : ms[j]! = ms[j] := by simp [hj]
      rw [h2] at hi
      have hi3 : i < 3 := by have := (List.getElem?_eq_some_iff.1 hi).1; rwa [mc_length] at this
      match i, hi3, hi with
      | 0, _, hi => rw [Nat.add_zero]; exact h1.1.trans hi
      | 1, _, hi => exact h1.2.1.trans hi
      | 2, _, hi => exact h1.2.2.trans hi)
    rw [List.take_length, any_same] at hcon
    exact hcon
/-- The boxes of rules, of a position and of a move. -/
theorem rpm_boxes (w : World) (r : RulesD) (p : PlaceD) (vp vs ve vc v0 v1 : Value) (m : MoveD) : ∃ V, V = ((w.alloc (.cells (RulesCells r vp vs ve) 26)).alloc (.cells (PlaceCells p vc v0 v1) 29)).alloc (.cells #[.int .i64 m.1, .int .i64 m.2.1, .int .i64 m.2.2] 31) ∧ Below w.heap.size w V ∧ BoxR V w.heap.size r vp vs ve ∧ BoxP V (w.heap.size + 1) p vc v0 v1 ∧
    MoveAt V (w.heap.size + 2) 0 m ∧ V.heap.size = w.heap.size + 3 := by
  obtain ⟨hB, hY, hX⟩ := rp_boxes w r p vp vs ve vc v0 v1
  have hs : ((w.alloc (.cells (RulesCells r vp vs ve) 26)).alloc (.cells (PlaceCells p vc v0 v1) 29)).heap.size = w.heap.size + 2 := by simp
  generalize (w.alloc (.cells (RulesCells r vp vs ve) 26)).alloc (.cells (PlaceCells p vc v0 v1) 29) = V0 at hB hY hX hs ⊢
  have h1 := (Below.refl V0.heap.size V0).alloc (Nat.le_refl _) (.cells #[.int .i64 m.1, .int .i64 m.2.1, .int .i64 m.2.2] 31)
  refine ⟨_, rfl, hB.trans (h1.mono hB.size), hY.below h1 (Nat.le_refl _), hX.below h1 (Nat.le_refl _), ?_, by simp [hs]⟩
  rw [← hs]
  refine ⟨?_, ?_, ?_⟩ <;> (rw [World.cell?_alloc_at (hn := rfl)]; rfl)
theorem MoveAt.below {W W' : World} {b n : Nat} {m : MoveD} (h : MoveAt W b 0 m) (hb : Below n W W') (hn : W.heap.size ≤ n) : MoveAt W' b 0 m := move_keeps _ _ _ _ _ _ hb hn h
def moveV (m : MoveD) : Value := .agg #[.int .i64 m.1, .int .i64 m.2.1, .int .i64 m.2.2]
set_option maxHeartbeats 8000000 in
theorem isLegal_any (r : RulesD) (p : PlaceD) (vp vs ve vc v0 v1 : Value) (m : MoveD) (w : World) (hr : IsRules w r vp vs ve) (hp : PlaceIn w p vc v0 v1) (hk : POkay r p) :
    Calls Try.prog 34 #[RulesV r vp vs ve, PlaceV p vc v0 v1, moveV m] w (BelPost (.bool (legalB r p m)) w) := by
  obtain ⟨n, hn⟩ : ∃ n, n = p.cells.length := ⟨_, rfl⟩
  have hn64 := (cells_len hk).2
  obtain ⟨ca, cc, rfl, hcc, _⟩ := hp.c.shape hn
  obtain ⟨V, hV, hB, hY, hX, hM, _⟩ := rpm_boxes w r p vp vs ve (.slice ca n cc) v0 v1 m
  obtain ⟨m1, m2, m3⟩ := m
  have HB := Lib.hid hB
  have HYV := Lib.hid hY
  have HXV := Lib.hid hX
  have HMV := Lib.hid hM
  obtain ⟨x0, x1, x2, x3, x4⟩ := hX
  obtain ⟨y0, y1, y2, y3, y4, y5, y6, y7, y8, y9, y10⟩ := hY
  obtain ⟨z0, z1, z2⟩ := hM
  rw [← hn] at hn64
  have HK := Lib.hid hk
  have HN := Lib.hid hn
  have HRI : Hid (∀ W, Below V.heap.size V W → IsRules W r vp vs ve) := Lib.hid (fun W hb => (hr.below hB (Nat.le_refl _)).below hb (Nat.le_refl _))
  have HPI : Hid (∀ W, Below V.heap.size V W → PlaceIn W p (.slice ca n cc) v0 v1) := Lib.hid (fun W hb => (hp.below hB (Nat.le_refl _)).below hb (Nat.le_refl _))
  unfold moveV RulesV PlaceV PlaceCells
  unfold RulesCells PlaceCells at hV
  dsimp only at z0 z1 z2 hV ⊢
  by_cases hlo : -1 ≤ m1
  · have d1 : decide (-1 ≤ m1) = true := by simpa using hlo
    by_cases hhi : m1 < n
    · have d2 : decide (m1 < (n : Int)) = true := by simpa using hhi
      have KE : Hid (decide ((m1, m2, m3) ∈ movesOf r p m1) = legalB r p (m1, m2, m3)) := Lib.hid (by
        unfold legalB; dsimp only
        rw [d1, ← HN.out, d2, Bool.true_and, Bool.true_and])
      have hml : (movesOf r p m1).length ≤ 384 := by
        unfold movesOf; split
        · exact putsD_length hk
        · have := fromD_length hk m1; omega
      have HAF : Hid (∀ W, Below V.heap.size V W → Calls Try.prog 33 #[RulesV r vp vs ve, PlaceV p (.slice ca n cc) v0 v1, .int .i64 m1] W (SlPost MoveAt 3 (movesOf r p m1) W)) := Lib.hid (fun W hb => allFrom_any r p vp vs ve _ v0 v1 m1 W (HRI.out W hb) (HPI.out W hb) HK.out hlo (by rw [← HN.out]; exact hhi))
      have HCO : Hid (∀ a n c W, IsSl MoveAt 3 W (.slice a n c) (movesOf r p m1) → Calls Try.prog 15 #[.slice a n c, .agg #[.int .i64 m1, .int .i64 m2, .int .i64 m3]] W (BelPost (.bool (legalB r p (m1, m2, m3))) W)) := Lib.hid (fun a n c W h => by rw [← KE.out]; exact contains_any _ a n c (m1, m2, m3) W h (by omega))
      unfold RulesV PlaceV PlaceCells at HAF
      have hBc : Below V.heap.size V V.drew := (Below.refl _ _).drew
      have w0 := x0
      have w1 := z0
      rw [hV] at w0 w1
      clear hk hr hp hn HK HN HRI HPI hlo hhi hB KE hml
      go_enter Try.func34, Try.ntmps34
      go_wp2_with fail
      rw [← hV]
      clear hV w0 w1 x0 x1 x2 x3 x4 y0 y1 y2 y3 y4 y5 y6 y7 y8 y9 y10 z0 z1 z2
      go_region_held3 (fun w' => (w'.cell? ⟨w.heap.size, 0, none⟩ = some (.string r.name) ∧ w'.cell? ⟨w.heap.size, 1, none⟩ = some (.int .i64 r.width) ∧ w'.cell? ⟨w.heap.size, 2, none⟩ = some (.int .i64 r.height) ∧ w'.cell? ⟨w.heap.size, 3, none⟩ = some vp ∧ w'.cell? ⟨w.heap.size, 4, none⟩ = some vs ∧ w'.cell? ⟨w.heap.size, 5, none⟩ = some (.bool r.falls) ∧ w'.cell? ⟨w.heap.size, 6, none⟩ = some (.bool r.keeps) ∧ w'.cell? ⟨w.heap.size, 7, none⟩ = some ve ∧ w'.cell? ⟨w.heap.size, 8, none⟩ = some (.int .i64 r.blocked) ∧ w'.cell? ⟨w.heap.size, 9, none⟩ = some (.int .i64 r.quiet) ∧ w'.cell? ⟨w.heap.size, 10, none⟩ = some (.int .i64 r.rep)) ∧
        (w'.cell? ⟨w.heap.size + 1, 0, none⟩ = some (.slice ca n cc) ∧ w'.cell? ⟨w.heap.size + 1, 1, none⟩ = some v0 ∧ w'.cell? ⟨w.heap.size + 1, 2, none⟩ = some v1 ∧ w'.cell? ⟨w.heap.size + 1, 3, none⟩ = some (.int .i64 p.turn) ∧ w'.cell? ⟨w.heap.size + 1, 4, none⟩ = some (.int .i64 p.quiet)) ∧
        (w'.cell? ⟨w.heap.size + 2, 0, none⟩ = some (.int .i64 m1) ∧ w'.cell? ⟨w.heap.size + 2, 0 + 1, none⟩ = some (.int .i64 m2) ∧ w'.cell? ⟨w.heap.size + 2, 0 + 2, none⟩ = some (.int .i64 m3))) (exact ⟨HYV.out.below hBc (Nat.le_refl _), HXV.out.below hBc (Nat.le_refl _), MoveAt.below HMV.out hBc (Nat.le_refl _)⟩) (first
        | (go_at_call 33; refine (HAF.out _ hBc).mono ?_; rintro e w1 ⟨a1, n1, c1, rfl, hI, _, hb⟩; have hBc := hBc.trans (hb.mono hBc.size); clear hb)
        | (go_at_call 15; refine (HCO.out _ _ _ _ hI).mono ?_; rintro e w2 ⟨rfl, hb⟩; have hBc := hBc.trans (hb.mono hBc.size); clear hb))
      have HBE := Lib.hid (HB.out.trans (hBc.mono HB.out.size))
      clear hBc hI
      go_wp2_with fail
      go_ret
      exact ⟨rfl, HBE.out⟩
    · have d2 : decide (m1 < (n : Int)) = false := by simpa using hhi
      have KE : Hid (false = legalB r p (m1, m2, m3)) := Lib.hid (by
        unfold legalB; dsimp only
        rw [d1, ← HN.out, d2]; rfl)
      rw [hV] at x0 z0 HB
      clear hk hr hp hn HK HN HRI HPI hlo hhi hB HXV HYV HMV hV x1 x2 x3 x4 y0 y1 y2 y3 y4 y5 y6 y7 y8 y9 y10 z1 z2
      go_enter Try.func34, Try.ntmps34
      go_wp2_with fail
      go_quiet (fail)
      go_wp2
      go_ret
      exact ⟨ret_bool KE.out, below_drewN HB.out _⟩
  · have d1 : decide (-1 ≤ m1) = false := by simpa using hlo
    have KE : Hid (false = legalB r p (m1, m2, m3)) := Lib.hid (by
      unfold legalB; dsimp only
      rw [d1]; rfl)
    rw [hV] at x0 z0 HB
    clear hk hr hp hn HK HN HRI HPI hlo hB HXV HYV HMV hV x1 x2 x3 x4 y0 y1 y2 y3 y4 y5 y6 y7 y8 y9 y10 z1 z2
    go_enter Try.func34, Try.ntmps34
    go_wp2_with fail
    go_quiet (fail)
    go_wp2
    go_ret
    exact ⟨ret_bool KE.out, below_drewN HB.out _⟩
end Go.Proofs.Ythbilpgecombiaa
