/- Merged by merge.py of the texts AllS AllR Allow AllowF RefM. -/
import Derived.Test.YtdhhdkbnlddnbaaGreatDoorMvB
import Derived.Test.YtdhhdkbnlddnbaaGreatDoorMvA
import Derived.Deep.RegionHeld3
import Derived.Deep.CutRange
import Derived.BigQuiet
set_option maxRecDepth 100000
namespace Go.Proofs.YtdhhdkbnlddnbaaGreatDoor
open Go.ChangeShapes Go.WideShapes Go.ChangeAt Go.RowKit

theorem mine_any (c pl : Int) (w : World) (h0 : 0 ≤ c) (h1 : c ≤ 1000) :
    Calls Tryz.prog 59 #[.int .i64 c, .int .i64 pl] w fun e w' => e = .returned (.bool (isOfB c pl)) ∧ w' = w := by
  by_cases hc : c = 0
  · subst hc
    go_enter Tryz.func59, Tryz.ntmps59
    go_wp2
    go_ret
    exact ⟨rfl, rfl⟩
  · have hd : decide (0 < c) = true := by simp; omega
    have K : Hid (((c - 1) % 2 == pl) = isOfB c pl) := Lib.hid (by
      unfold isOfB; rw [decide_eq_true hc, Bool.true_and]
      by_cases h : (c - 1) % 2 = pl <;> simp [h])
    have h2 : 0 ≤ c - 1 := by omega
    clear hc
    go_enter Tryz.func59, Tryz.ntmps59
    go_wp2
    go_ret
    exact ⟨ret_bool K.out, rfl⟩
theorem far_any (r : RulesD) (vp vs ve : Value) (pl y : Int) (w : World) (h1 : 1 ≤ r.height) (h2 : r.height ≤ 8) (p0 : 0 ≤ pl) (p1 : pl ≤ 1) :
    Calls Tryz.prog 43 #[RulesV r vp vs ve, .int .i64 pl, .int .i64 y] w (BelPost (.bool (decide (y = lastRowI r pl))) w) := by
  have hB := (Below.refl w.heap.size w).alloc (Nat.le_refl _) (.cells (RulesCells r vp vs ve) 26)
  have hY := boxR_new w r vp vs ve 26
  have HB := Lib.hid hB
  have hw : IntKind.i64.wrap (r.height - 1) = r.height - 1 := IntWalk.i64_in _ (by omega)
  unfold RulesCells at HB hY
  unfold RulesV
  obtain ⟨y0, y1, y2, y3, y4, y5, y6, y7, y8, y9, y10⟩ := hY
  clear hB
  obtain rfl | rfl : pl = 0 ∨ pl = 1 := by omega
  · by_cases he : y = r.height - 1
    · have e1 : (y == r.height - 1) = true := by simpa using he
      have K : Hid (true = decide (y = lastRowI r 0)) := Lib.hid (by rw [lastRowI, if_neg (by decide), decide_eq_true he])
      clear he
      go_enter Tryz.func43, Tryz.ntmps43
      go_wp2
      go_ret
      exact ⟨ret_bool K.out, HB.out⟩
    · have e1 : (y == r.height - 1) = false := by simpa using he
      have K : Hid (false = decide (y = lastRowI r 0)) := Lib.hid (by rw [lastRowI, if_neg (by decide), decide_eq_false he])
      clear he
      go_enter Tryz.func43, Tryz.ntmps43
      go_wp2
      go_ret
      exact ⟨ret_bool K.out, HB.out⟩
  · have K : Hid ((y == 0) = decide (y = lastRowI r 1)) := Lib.hid (by rw [lastRowI, if_pos rfl]; by_cases h : y = 0 <;> simp [h])
    go_enter Tryz.func43, Tryz.ntmps43
    go_wp2
    go_ret
    exact ⟨ret_bool K.out, HB.out⟩
def atI (r : RulesD) (p : PlaceD) (x y : Int) : Int := if onB r x y = true then cellI p (y * r.width + x) else -1
set_option maxHeartbeats 4000000 in
theorem at_any (r : RulesD) (p : PlaceD) (vp vs ve vc v0 v1 : Value) (x y : Int) (w : World) (hp : PlaceIn w p vc v0 v1) (hk : POkay r p) :
    Calls Tryz.prog 60 #[RulesV r vp vs ve, PlaceV p vc v0 v1, .int .i64 x, .int .i64 y] w (BelPost (.int .i64 (atI r p x y)) w) := by
  obtain ⟨_, hw, hh, _⟩ := rulesE_ok hk.e
  rw [inB_iff] at hw hh
  obtain ⟨hw1, hw2⟩ := hw
  obtain ⟨hh1, hh2⟩ := hh
  have hcl := cells_len hk
  have HSQ := Lib.hid (fun h => sq_in (x := x) (y := y) hk h)
  obtain ⟨g, off, cc, rfl, hcc, hcell⟩ := ints_open hp.c hcl.1
  obtain ⟨m, hm⟩ : ∃ m, m = p.cells.length := ⟨_, rfl⟩
  rw [← hm] at HSQ hcc hcell hcl ⊢
  obtain ⟨hB, hY, hX⟩ := rp_boxes w r p vp vs ve (.slice (some ⟨g, off, none⟩) m cc) v0 v1
  have HB := Lib.hid hB
  have HC : Hid (∀ j, j < m → ((w.alloc (.cells (RulesCells r vp vs ve) 26)).alloc (.cells (PlaceCells p (.slice (some ⟨g, off, none⟩) m cc) v0 v1) 29)).cell? ⟨g, off + j, none⟩ = some (.int .i64 (cellI p (j : Int)))) := Lib.hid (fun j hj => by
    rw [cellI, Int.toNat_natCast]; exact cell_keeps hB (Nat.le_refl _) (hcell j hj))
  have e1 : IntKind.i64.wrap (r.width - 1) = r.width - 1 := IntWalk.i64_in _ (by omega)
  have e2 : IntKind.i64.wrap (r.height - 1) = r.height - 1 := IntWalk.i64_in _ (by omega)
  unfold RulesCells PlaceCells at HB HC hX hY
  unfold RulesV PlaceV PlaceCells
  obtain ⟨x0, x1, x2, x3, x4⟩ := hX
  obtain ⟨y0, y1, y2, y3, y4, y5, y6, y7, y8, y9, y10⟩ := hY
  have hm64 := hcl.2
  clear hp hk hm hcell hB hcl
  by_cases hx : inB x 0 (r.width - 1) = true
  · have HI1 : Hid (∀ W, Calls Tryz.prog 40 #[.int .i64 x, .int .i64 0, .int .i64 (r.width - 1)] W fun e w' => e = .returned (.bool true) ∧ W = w') := Lib.hid (fun W => by have h := turned (in_any x 0 (r.width - 1) W); rwa [hx] at h)
    by_cases hy : inB y 0 (r.height - 1) = true
    · have HI2 : Hid (∀ W, Calls Tryz.prog 40 #[.int .i64 y, .int .i64 0, .int .i64 (r.height - 1)] W fun e w' => e = .returned (.bool true) ∧ W = w') := Lib.hid (fun W => by have h := turned (in_any y 0 (r.height - 1) W); rwa [hy] at h)
      have hon : onB r x y = true := by
        rw [inB_iff] at hx hy
        rw [onB_iff]; omega
      obtain ⟨s0, s1⟩ := HSQ.out hon
      obtain ⟨j, hj⟩ : ∃ j : Nat, y * r.width + x = (j : Int) := ⟨(y * r.width + x).toNat, by omega⟩
      have hjm : j < m := by omega
      have K : Hid (cellI p (j : Int) = atI r p x y) := Lib.hid (by rw [atI, if_pos hon, hj])
      have c0 := HC.out j hjm
      rw [inB_iff] at hx hy
      obtain ⟨M, hM⟩ : ∃ M, M = y * r.width := ⟨_, rfl⟩
      have hM1 : IntKind.i64.wrap (y * r.width) = M := by rw [hM]; exact IntWalk.i64_in _ (by omega)
      have hM2 : IntKind.i64.wrap (M + x) = (j : Int) := by rw [hM, hj]; exact IntWalk.i64_in _ (by omega)
      clear hM hj hon s0 s1 HSQ HC hx hy
      go_enter Tryz.func60, Tryz.ntmps60
      go_wp2_with fail
      go_at_call 40; refine (HI1.out _).mono ?_; rintro e w1 ⟨rfl, rfl⟩
      go_wp2_with fail
      go_at_call 40; refine (HI2.out _).mono ?_; rintro e w1 ⟨rfl, rfl⟩
      go_wp2_with fail
      go_ret
      exact ⟨ret_i64 K.out, HB.out⟩
    · have hyf : inB y 0 (r.height - 1) = false := by simpa using hy
      have HI2 : Hid (∀ W, Calls Tryz.prog 40 #[.int .i64 y, .int .i64 0, .int .i64 (r.height - 1)] W fun e w' => e = .returned (.bool false) ∧ W = w') := Lib.hid (fun W => by have h := turned (in_any y 0 (r.height - 1) W); rwa [hyf] at h)
      have K : Hid ((-1 : Int) = atI r p x y) := Lib.hid (by
        rw [atI, if_neg]
        intro h; rw [onB_iff] at h
        exact hy (inB_iff.2 (by omega)))
      clear hy hyf hx HSQ HC
      go_enter Tryz.func60, Tryz.ntmps60
      go_wp2_with fail
      go_at_call 40; refine (HI1.out _).mono ?_; rintro e w1 ⟨rfl, rfl⟩
      go_wp2_with fail
      go_at_call 40; refine (HI2.out _).mono ?_; rintro e w1 ⟨rfl, rfl⟩
      go_wp2_with fail
      go_ret
      exact ⟨ret_i64 K.out, HB.out⟩
  · have hxf : inB x 0 (r.width - 1) = false := by simpa using hx
    have HI1 : Hid (∀ W, Calls Tryz.prog 40 #[.int .i64 x, .int .i64 0, .int .i64 (r.width - 1)] W fun e w' => e = .returned (.bool false) ∧ W = w') := Lib.hid (fun W => by have h := turned (in_any x 0 (r.width - 1) W); rwa [hxf] at h)
    have K : Hid ((-1 : Int) = atI r p x y) := Lib.hid (by
      rw [atI, if_neg]
      intro h; rw [onB_iff] at h
      exact hx (inB_iff.2 (by omega)))
    clear hx hxf HSQ HC
    go_enter Tryz.func60, Tryz.ntmps60
    go_wp2_with fail
    go_at_call 40; refine (HI1.out _).mono ?_; rintro e w1 ⟨rfl, rfl⟩
    go_wp2_with fail
    go_ret
    exact ⟨ret_i64 K.out, HB.out⟩
end Go.Proofs.YtdhhdkbnlddnbaaGreatDoor

set_option maxRecDepth 100000
namespace Go.Proofs.YtdhhdkbnlddnbaaGreatDoor
open Go.ChangeShapes Go.WideShapes Go.ChangeAt Go.RowKit

theorem reach_at {r : RulesD} {p : PlaceD} {dx dy take : Int} : ∀ (m : Nat) (x y t : Int), t ∈ reach r p dx dy take m x y → ∃ j : Nat, 1 ≤ j ∧ onB r (x + j * dx) (y + j * dy) = true ∧ t = (y + j * dy) * r.width + (x + j * dx)
  | 0, _, _, _, h => by simp [reach] at h
  | m + 1, x, y, t, h => by
    unfold reach at h
    split at h
    · rename_i hb
      rcases List.mem_append.1 h with h | h
      · split at h
        · rw [List.mem_singleton] at h
          refine ⟨1, Nat.le_refl _, ?_, ?_⟩
          · simpa using hb
          · simpa using h
        · cases h
      · split at h
        · obtain ⟨j, h1, h2, h3⟩ := reach_at m _ _ t h
          have e1 : x + dx + (j : Int) * dx = x + ((j + 1 : Nat) : Int) * dx := by push_cast; rw [Int.add_mul, Int.one_mul]; omega
          have e2 : y + dy + (j : Int) * dy = y + ((j + 1 : Nat) : Int) * dy := by push_cast; rw [Int.add_mul, Int.one_mul]; omega
          rw [e1, e2] at h2 h3
          exact ⟨j + 1, by omega, h2, h3⟩
        · cases h
    · cases h
theorem sq_same {W x y a b : Int} (x0 : 0 ≤ x) (x1 : x < W) (a0 : 0 ≤ a) (a1 : a < W) (h : y * W + x = b * W + a) : x = a ∧ y = b := by
  have e1 : (y * W + x) % W = x := by rw [Int.add_comm, Int.add_mul_emod_self_right, Int.emod_eq_of_lt x0 x1]
  have e2 : (b * W + a) % W = a := by rw [Int.add_comm, Int.add_mul_emod_self_right, Int.emod_eq_of_lt a0 a1]
  have e3 : (y * W + x) / W = y := by rw [Int.add_comm, Int.add_mul_ediv_right _ _ (by omega), Int.ediv_eq_zero_of_lt x0 x1, Int.zero_add]
  have e4 : (b * W + a) / W = b := by rw [Int.add_comm, Int.add_mul_ediv_right _ _ (by omega), Int.ediv_eq_zero_of_lt a0 a1, Int.zero_add]
  rw [h] at e1 e3
  exact ⟨e1.symm.trans e2, e3.symm.trans e4⟩
theorem reach_else {r : RulesD} {p : PlaceD} {dx dy take : Int} (hd : ¬ (dx = 0 ∧ dy = 0)) {m : Nat} {x y t : Int} (hb : onB r x y = true) (h : t ∈ reach r p dx dy take m x y) : t ≠ y * r.width + x := by
  obtain ⟨j, h1, h2, h3⟩ := reach_at m x y t h
  rw [onB_iff] at hb h2
  intro e
  rw [e] at h3
  obtain ⟨e1, e2⟩ := sq_same hb.1 hb.2.1 h2.1 h2.2.1 h3
  have e3 : (j : Int) * dx = 0 := by omega
  have e4 : (j : Int) * dy = 0 := by omega
  rcases Int.mul_eq_zero.1 e3 with h | h
  · omega
  · rcases Int.mul_eq_zero.1 e4 with h' | h'
    · omega
    · exact hd ⟨h, h'⟩
theorem end_val {take c pl : Int} {b : Bool} (hb : b = isOfB c (1 - pl)) : canEndB take c pl = (if take = 0 then decide (c = 0) else if take = 1 then (decide (c = 0) || b) else b) := by
  rw [canEndB, hb]
/-- The next step of a way, of which is asked whether it leads to a square. -/
theorem step_off {r : RulesD} {p : PlaceD} {dx dy take x y t : Int} {n : Nat} (h : onB r (x + dx) (y + dy) = false) : decide (t ∈ reach r p dx dy take (n + 1) x y) = false := by
  rw [reach_off h]; simp
theorem step_hit {r : RulesD} {p : PlaceD} {dx dy take x y t : Int} {n : Nat} (hd : ¬ (dx = 0 ∧ dy = 0)) (h : onB r (x + dx) (y + dy) = true) (ht : (y + dy) * r.width + (x + dx) = t) : decide (t ∈ reach r p dx dy take (n + 1) x y) = canEndB take (cellI p t) p.turn := by
  have hno : ∀ k : Nat, ¬ t ∈ reach r p dx dy take k (x + dx) (y + dy) := fun k hk => reach_else hd h hk ht.symm
  unfold reach
  rw [if_pos h, ht]
  cases hc : canEndB take (cellI p t) p.turn
  · rw [if_neg (by simp)]
    rw [decide_eq_false]
    intro hm
    rw [List.nil_append] at hm
    split at hm
    · exact hno n hm
    · cases hm
  · rw [if_pos rfl, decide_eq_true]
    exact List.mem_append.2 (.inl (List.mem_singleton.2 rfl))
theorem step_stop {r : RulesD} {p : PlaceD} {dx dy take x y t : Int} {n : Nat} (h : onB r (x + dx) (y + dy) = true) (ht : (y + dy) * r.width + (x + dx) ≠ t) (hc : cellI p ((y + dy) * r.width + (x + dx)) ≠ 0) : decide (t ∈ reach r p dx dy take (n + 1) x y) = false := by
  unfold reach
  rw [if_pos h, if_neg hc, List.append_nil, decide_eq_false]
  intro hm
  split at hm
  · exact ht (List.mem_singleton.1 hm).symm
  · cases hm
theorem step_on {r : RulesD} {p : PlaceD} {dx dy take x y t : Int} {n : Nat} (h : onB r (x + dx) (y + dy) = true) (ht : (y + dy) * r.width + (x + dx) ≠ t) (hc : cellI p ((y + dy) * r.width + (x + dx)) = 0) : decide (t ∈ reach r p dx dy take (n + 1) x y) = decide (t ∈ reach r p dx dy take n (x + dx) (y + dy)) := by
  rw [decide_eq_decide]
  conv => lhs; unfold reach
  rw [if_pos h, if_pos hc, List.mem_append]
  constructor
  · rintro (hm | hm)
    · split at hm
      · exact absurd (List.mem_singleton.1 hm).symm ht
      · cases hm
    · exact hm
  · exact fun hm => .inr hm
set_option maxHeartbeats 16000000 in
theorem reaches_any (r : RulesD) (p : PlaceD) (vp vs ve vc v0 v1 : Value) (src t : Int) (way : WayD) (w : World) (hp : PlaceIn w p vc v0 v1) (hk : POkay r p) (s0 : 0 ≤ src) (s1 : src < p.cells.length) (hy : wayB way = true) :
    Calls Tryz.prog 61 #[RulesV r vp vs ve, PlaceV p vc v0 v1, .int .i64 src, .int .i64 t, .agg #[.int .i64 way.dx, .int .i64 way.dy, .int .i64 way.most, .int .i64 way.take]] w (BelPost (.bool (decide (t ∈ reachOf r p src way))) w) := by
  obtain ⟨_, hw, hh, _⟩ := rulesE_ok hk.e
  rw [inB_iff] at hw hh
  obtain ⟨hw1, hw2⟩ := hw
  obtain ⟨hh1, hh2⟩ := hh
  have hcl := cells_len hk
  obtain ⟨⟨dx1, dx2⟩, ⟨dy1, dy2⟩, hd0, ⟨ms1, ms2⟩, tk1, tk2⟩ := way_facts hy
  obtain ⟨wdx, wdy, wmost, wtake⟩ := way
  dsimp only at dx1 dx2 dy1 dy2 hd0 ms1 ms2 tk1 tk2 ⊢
  obtain ⟨N, rfl⟩ : ∃ N : Nat, wmost = (N : Int) := ⟨wmost.toNat, by omega⟩
  have hN7 : N ≤ 7 := by omega
  have s64 : src ≤ 64 := by have := hcl.2; omega
  have e1 : wrap64 (src.tdiv r.width) = src / r.width := wrap_div s0 (by omega) hw1
  have HAT : Hid (∀ x y W, Below w.heap.size w W → Calls Tryz.prog 60 #[RulesV r vp vs ve, PlaceV p vc v0 v1, .int .i64 x, .int .i64 y] W (BelPost (.int .i64 (atI r p x y)) W)) := Lib.hid (fun x y W h => at_any r p vp vs ve vc v0 v1 x y W (hp.below h (Nat.le_refl _)) hk)
  have HCI : Hid (∀ s, 0 ≤ cellI p s ∧ cellI p s ≤ 12) := Lib.hid (fun s => by have h1 := cell_in hk s; have h2 := (pieces_len hk.e).2; omega)
  have t0 := hk.t0
  have t1 := hk.t1
  have HST : Hid (onB r (src % r.width) (src / r.width) = true) := Lib.hid (by
    rw [onB_iff]
    have h1 := Int.emod_nonneg src (b := r.width) (by omega)
    have h2 := Int.emod_lt_of_pos src (b := r.width) (by omega)
    have h3 := Int.ediv_nonneg s0 (b := r.width) (by omega)
    have h4 := hk.cl
    have h5 : src / r.width < r.height := Int.ediv_lt_of_lt_mul (by omega) (by rw [Int.mul_comm]; omega)
    exact ⟨h1, h2, h3, h5⟩)
  obtain ⟨V, hV, hB, hY, hX, hW⟩ := rpw_boxes w r p vp vs ve vc v0 v1 (.int .i64 wdx) (.int .i64 wdy) (.int .i64 (N : Int)) (.int .i64 wtake)
  have HB := Lib.hid hB
  have HX : Hid (∀ W, Below V.heap.size V W → BoxP W (w.heap.size + 1) p vc v0 v1) := Lib.hid (fun W hb => hX.below hb (Nat.le_refl _))
  have HY : Hid (∀ W, Below V.heap.size V W → BoxR W w.heap.size r vp vs ve) := Lib.hid (fun W hb => hY.below hb (Nat.le_refl _))
  have HW : Hid (∀ W, Below V.heap.size V W → (W.cell? ⟨w.heap.size + 2, 0, none⟩ = some (.int .i64 wdx) ∧ W.cell? ⟨w.heap.size + 2, 1, none⟩ = some (.int .i64 wdy) ∧ W.cell? ⟨w.heap.size + 2, 2, none⟩ = some (.int .i64 (N : Int)) ∧ W.cell? ⟨w.heap.size + 2, 3, none⟩ = some (.int .i64 wtake))) := Lib.hid (fun W hb => ⟨cell_keeps hb (Nat.le_refl _) hW.1, cell_keeps hb (Nat.le_refl _) hW.2.1, cell_keeps hb (Nat.le_refl _) hW.2.2.1, cell_keeps hb (Nat.le_refl _) hW.2.2.2⟩)
  obtain ⟨D, hD⟩ : ∃ D, D = upI p wdy := ⟨_, rfl⟩
  obtain ⟨U, hU⟩ : ∃ U : Int, U = 1 - 2 * p.turn := ⟨_, rfl⟩
  have hUD : (U = 1 ∧ D = wdy) ∨ (U = -1 ∧ D = -wdy) := by
    by_cases h : p.turn = 1
    · exact .inr ⟨by omega, by rw [hD, upI, if_pos h]⟩
    · exact .inl ⟨by omega, by rw [hD, upI, if_neg h]⟩
  have hDD : ¬ (wdx = 0 ∧ D = 0) := by rcases hUD with ⟨_, h⟩ | ⟨_, h⟩ <;> omega
  have hD7 : -7 ≤ D ∧ D ≤ 7 := by rcases hUD with ⟨_, h⟩ | ⟨_, h⟩ <;> omega
  have u1 : IntKind.i64.wrap (2 * p.turn) = 2 * p.turn := IntWalk.i64_in _ (by omega)
  have u2 : IntKind.i64.wrap (1 - 2 * p.turn) = U := by rw [hU]; exact IntWalk.i64_in _ (by omega)
  obtain ⟨LL, hLL⟩ : ∃ l, l = reachOf r p src ⟨wdx, wdy, (N : Int), wtake⟩ := ⟨_, rfl⟩
  have HR : Hid (decide (t ∈ LL) = decide (t ∈ reach r p wdx D wtake N (src % r.width) (src / r.width))) := Lib.hid (by rw [hLL, reachOf, ← hD, Int.toNat_natCast])
  rw [← hLL]
  obtain ⟨B0, hB0⟩ : ∃ b, b = decide (t ∈ LL) := ⟨_, rfl⟩
  rw [← hB0] at HR ⊢
  have hrange := onB_iff.1 HST.out
  have HUD := Lib.hid hUD
  have HDD := Lib.hid hDD
  unfold RulesCells PlaceCells at hV
  unfold RulesV PlaceV PlaceCells at HAT
  unfold RulesV PlaceV PlaceCells
  clear hp hB hy hD hLL hB0 hU hUD hDD hd0 hcl
  have hW1 := hW
  obtain ⟨x0, x1, x2, x3, x4⟩ := hX
  obtain ⟨y0, y1, y2, y3, y4, y5, y6, y7, y8, y9, y10⟩ := hY
  obtain ⟨z0, z1, z2, z3⟩ := hW1
  rw [hV] at x0 x1 x2 x3 x4 y0 y1 y2 y3 y4 y5 y6 y7 y8 y9 y10 z0 z1 z2 z3
  go_enter Tryz.func61, Tryz.ntmps61
  go_wp2_with fail
  clear x0 x1 x2 x3 x4 y0 y1 y2 y3 y4 y5 y6 y7 y8 y9 y10 z0 z1 z2 z3
  rw [← hV]
  clear hV hW
  obtain ⟨y0, y1, y2, y3, y4, y5, y6, y7, y8, y9, y10⟩ := HY.out V (Below.refl _ _)
  go_quiet (fail)
  clear y0 y1 y2 y3 y4 y5 y6 y7 y8 y9 y10
  go_wp2
  generalize src % r.width = X0 at HST HR hrange ⊢
  generalize src / r.width = Y0 at HST HR hrange ⊢
  obtain ⟨r0, r1, r2, r3⟩ := hrange
  go_loopw [14, 15, 16] (fun vk _ _ wr => ∃ (k : Nat) (x y : Int), k ≤ N ∧ vk = .int .i64 ((k : Int) + 1) ∧ Hid (x = X0 + (k : Int) * wdx) ∧ Hid (y = Y0 + (k : Int) * D) ∧ Hid (onB r x y = true) ∧ Hid (B0 = decide (t ∈ reach r p wdx D wtake (N - k) x y)) ∧ Hid (Below V.heap.size V wr)) (fun vk _ _ _ => N + 1 - (intOf vk).toNat)
  case atStart => exact ⟨0, X0, Y0, by omega, rfl, Lib.hid (by simp), Lib.hid (by simp), HST, HR, Lib.hid (below_drewN (Below.refl _ _) _)⟩
  case round =>
    obtain ⟨k, x, y, hkN, rfl, hx, hy, hon, hre, hbel⟩ := hrel
    obtain ⟨z0, z1, z2, z3⟩ := HW.out wr hbel.out
    obtain ⟨y0, y1, y2, y3, y4, y5, y6, y7, y8, y9, y10⟩ := HY.out wr hbel.out
    obtain ⟨x0, x1, x2, x3, x4⟩ := HX.out wr hbel.out
    by_cases hlt : k < N
    · obtain ⟨n, hn⟩ : ∃ n, N - k = n + 1 := ⟨N - k - 1, by omega⟩
      have HN1 : Hid (N - (k + 1) = n) := Lib.hid (by omega)
      rw [hn] at hre
      clear hn
      have hon1 := onB_iff.1 hon.out
      obtain ⟨o1, o2, o3, o4⟩ := hon1
      have hA : ((k : Int) + 1) * wdx = x - X0 + wdx := by rw [Int.add_mul, Int.one_mul]; have := hx.out; omega
      obtain ⟨X, hXe⟩ : ∃ X, X = x + wdx := ⟨_, rfl⟩
      obtain ⟨Y, hYe⟩ : ∃ Y, Y = y + D := ⟨_, rfl⟩
      have HKX : Hid (X = X0 + ((k + 1 : Nat) : Int) * wdx) := Lib.hid (by push_cast; rw [hA]; omega)
      have HKY : Hid (Y = Y0 + ((k + 1 : Nat) : Int) * D) := Lib.hid (by push_cast; rw [Int.add_mul, Int.one_mul]; have := hy.out; omega)
      obtain ⟨A, hAe⟩ : ∃ A, A = x - X0 + wdx := ⟨_, rfl⟩
      have p1 : IntKind.i64.wrap (((k : Int) + 1) * wdx) = A := by rw [hA, ← hAe]; exact IntWalk.i64_in _ (by omega)
      have p2 : IntKind.i64.wrap (X0 + A) = X := by rw [show X0 + A = X by omega]; exact IntWalk.i64_in _ (by omega)
      obtain ⟨B, hBe⟩ : ∃ B, B = ((k : Int) + 1) * wdy := ⟨_, rfl⟩
      obtain ⟨C, hCe⟩ : ∃ C, C = y - Y0 + D := ⟨_, rfl⟩
      have hBU : B * U = C ∧ (B = C ∨ B = -C) := by
        have h1 := hy.out
        rcases HUD.out with ⟨e1, e2⟩ | ⟨e1, e2⟩
        · rw [e2] at h1
          have h2 : B = (k : Int) * wdy + wdy := by rw [hBe, Int.add_mul, Int.one_mul]
          rw [e1, Int.mul_one]
          exact ⟨by omega, .inl (by omega)⟩
        · rw [e2, Int.mul_neg] at h1
          have h2 : B = (k : Int) * wdy + wdy := by rw [hBe, Int.add_mul, Int.one_mul]
          rw [e1, Int.mul_neg, Int.mul_one]
          exact ⟨by omega, .inr (by omega)⟩
      obtain ⟨hBU, hBC⟩ := hBU
      have p3 : IntKind.i64.wrap (((k : Int) + 1) * wdy) = B := by rw [← hBe]; exact IntWalk.i64_in _ (by omega)
      have p4 : IntKind.i64.wrap (B * U) = C := by rw [hBU]; exact IntWalk.i64_in _ (by omega)
      have p5 : IntKind.i64.wrap (Y0 + C) = Y := by rw [show Y0 + C = Y by omega]; exact IntWalk.i64_in _ (by omega)
      have hle : decide ((k : Int) + 1 ≤ (N : Int)) = true := by simp; omega
      have hle2 : k + 1 ≤ N := hlt
      have HATk := Lib.hid (HAT.out X Y wr (HB.out.trans (hbel.out.mono HB.out.size)))
      cases hb : onB r X Y
      · have K : Hid (false = B0) := Lib.hid (by rw [hre.out]; exact (step_off (by rw [← hXe, ← hYe]; exact hb)).symm)
        have hat : atI r p X Y = -1 := by rw [atI, if_neg (by rw [hb]; decide)]
        rw [hat] at HATk
        clear hat hb hx hy hon hre hXe hYe hAe hBe hCe hBU hBC hA HKX HKY HN1
        go_wp2_with fail
        go_at_call 60; refine HATk.out.mono ?_; rintro e w2 ⟨rfl, hb2⟩
        have HBE := Lib.hid (HB.out.trans ((hbel.out.trans (hb2.mono hbel.out.size)).mono HB.out.size))
        clear hb2 hbel HATk x0 x1 x2 x3 x4 y0 y1 y2 y3 y4 y5 y6 y7 y8 y9 y10 z0 z1 z2 z3
        go_wp2_with fail
        go_ret
        exact ⟨ret_bool K.out, HBE.out⟩
      · have hat : atI r p X Y = cellI p (Y * r.width + X) := by rw [atI, if_pos hb]
        obtain ⟨cv, hcv⟩ : ∃ cv, cv = cellI p (Y * r.width + X) := ⟨_, rfl⟩
        have hcr := HCI.out (Y * r.width + X)
        rw [← hcv] at hat hcr
        obtain ⟨c0, c12⟩ := hcr
        rw [hat] at HATk
        obtain ⟨g1, g2, g3, g4⟩ := onB_iff.1 hb
        obtain ⟨M, hM⟩ : ∃ M, M = Y * r.width := ⟨_, rfl⟩
        have hMb : 0 ≤ M ∧ M ≤ 64 := by
          rw [hM]
          have a := Int.mul_nonneg g3 (show 0 ≤ r.width by omega)
          have b := Int.mul_le_mul (show Y ≤ 8 by omega) hw2 (by omega) (by omega)
          omega
        obtain ⟨m0, m1⟩ := hMb
        have p6 : IntKind.i64.wrap (Y * r.width) = M := by rw [← hM]; exact IntWalk.i64_in _ (by omega)
        obtain ⟨M2, hM2⟩ : ∃ M2, M2 = M + X0 := ⟨_, rfl⟩
        have p7 : IntKind.i64.wrap (M + X0) = M2 := by rw [hM2]; exact IntWalk.i64_in _ (by omega)
        obtain ⟨S, hS⟩ : ∃ S, S = M + X := ⟨_, rfl⟩
        have p8 : IntKind.i64.wrap (M2 + A) = S := by rw [show M2 + A = S by omega]; exact IntWalk.i64_in _ (by omega)
        have hneg : decide (cv < 0) = false := by simp; omega
        have p9 : IntKind.i64.wrap (1 - p.turn) = 1 - p.turn := IntWalk.i64_in _ (by omega)
        have hb' : onB r (x + wdx) (y + D) = true := by rw [← hXe, ← hYe]; exact hb
        have hSe : (y + D) * r.width + (x + wdx) = S := by rw [← hXe, ← hYe, ← hM, hS]
        have hcv' : cv = cellI p S := by rw [hcv, ← hM, hS]
        by_cases ht : S = t
        · have ht2 : (S == t) = true := by simpa using ht
          obtain ⟨b, hbb⟩ : ∃ b, b = isOfB cv (1 - p.turn) := ⟨_, rfl⟩
          have K : Hid (B0 = (if wtake = 0 then decide (cv = 0) else if wtake = 1 then (decide (cv = 0) || b) else b)) := Lib.hid (by
            rw [hre.out, step_hit HDD.out hb' (by rw [hSe]; exact ht), ← ht, ← hcv']
            exact end_val hbb)
          have HMI : Hid (∀ W, Calls Tryz.prog 59 #[.int .i64 cv, .int .i64 (1 - p.turn)] W fun e w' => e = .returned (.bool b) ∧ W = w') := Lib.hid (fun W => by rw [hbb]; exact turned (mine_any _ _ _ c0 (by omega)))
          clear hbb ht hb hb' hSe hcv hcv' hat hx hy hon hre hXe hYe hAe hBe hCe hBU hBC hA HKX HKY HN1 hM hM2 hS
          go_wp2_with fail
          go_at_call 60; refine HATk.out.mono ?_; rintro e w2 ⟨rfl, hb2⟩
          have HBE := Lib.hid (HB.out.trans ((hbel.out.trans (hb2.mono hbel.out.size)).mono HB.out.size))
          have hb3 := hbel.out.trans (hb2.mono hbel.out.size)
          clear hb2 hbel HATk x0 x1 x2 x3 x4 y0 y1 y2 y3 y4 y5 y6 y7 y8 y9 y10 z0 z1 z2 z3
          obtain ⟨z0, z1, z2, z3⟩ := HW.out w2 hb3
          obtain ⟨y0, y1, y2, y3, y4, y5, y6, y7, y8, y9, y10⟩ := HY.out w2 hb3
          obtain ⟨x0, x1, x2, x3, x4⟩ := HX.out w2 hb3
          clear hb3
          go_wp2_with fail
          go_at_call 59; refine (HMI.out _).mono ?_; rintro e w3 ⟨rfl, rfl⟩
          have htk : wtake = 0 ∨ wtake = 1 ∨ wtake = 2 := by omega
          by_cases hc : cv = 0
          · have hc2 : (cv == 0) = true := by simpa using hc
            have HCV := Lib.hid hc
            clear hc
            rcases htk with rfl | rfl | rfl <;> cases b <;>
              (go_wp2_with fail; go_ret; exact ⟨ret_bool (by rw [K.out]; simp [HCV.out]), HBE.out⟩)
          · have hc2 : (cv == 0) = false := by simpa using hc
            have HCV := Lib.hid hc
            clear hc
            rcases htk with rfl | rfl | rfl <;> cases b <;>
              (go_wp2_with fail; go_ret; exact ⟨ret_bool (by rw [K.out]; simp [HCV.out]), HBE.out⟩)
        · have ht2 : (S == t) = false := by simpa using ht
          by_cases hc : cv = 0
          · have hc2 : (cv != 0) = false := by simpa using hc
            have KR : Hid (B0 = decide (t ∈ reach r p wdx D wtake (N - (k + 1)) X Y)) := Lib.hid (by
              rw [hre.out, HN1.out, hXe, hYe]
              exact step_on hb' (by rw [hSe]; exact ht) (by rw [hSe, ← hcv']; exact hc))
            have HON : Hid (onB r X Y = true) := Lib.hid hb
            clear ht hc hb hb' hSe hcv hcv' hat hx hy hon hre hXe hYe hAe hBe hCe hBU hBC hA HN1 hM hM2 hS
            go_wp2_with fail
            go_at_call 60; refine HATk.out.mono ?_; rintro e w2 ⟨rfl, hb2⟩
            have HB3 := Lib.hid (hbel.out.trans (hb2.mono hbel.out.size))
            clear hb2 hbel HATk x0 x1 x2 x3 x4 y0 y1 y2 y3 y4 y5 y6 y7 y8 y9 y10 z0 z1 z2 z3
            obtain ⟨z0, z1, z2, z3⟩ := HW.out w2 HB3.out
            obtain ⟨y0, y1, y2, y3, y4, y5, y6, y7, y8, y9, y10⟩ := HY.out w2 HB3.out
            go_wp2_with fail
            go_roundw
            case rel => exact ⟨k + 1, X, Y, by omega, by go_num, HKX, HKY, HON, KR, HB3⟩
            case measure => simp [intOf]; omega
          · have hc2 : (cv != 0) = true := by simpa using hc
            have K : Hid (false = B0) := Lib.hid (by
              rw [hre.out]
              exact (step_stop hb' (by rw [hSe]; exact ht) (by rw [hSe, ← hcv']; exact hc)).symm)
            clear ht hc hb hb' hSe hcv hcv' hat hx hy hon hre hXe hYe hAe hBe hCe hBU hBC hA HKX HKY HN1 hM hM2 hS
            go_wp2_with fail
            go_at_call 60; refine HATk.out.mono ?_; rintro e w2 ⟨rfl, hb2⟩
            have HBE := Lib.hid (HB.out.trans ((hbel.out.trans (hb2.mono hbel.out.size)).mono HB.out.size))
            have hb3 := hbel.out.trans (hb2.mono hbel.out.size)
            clear hb2 hbel HATk x0 x1 x2 x3 x4 y0 y1 y2 y3 y4 y5 y6 y7 y8 y9 y10 z0 z1 z2 z3
            obtain ⟨z0, z1, z2, z3⟩ := HW.out w2 hb3
            obtain ⟨y0, y1, y2, y3, y4, y5, y6, y7, y8, y9, y10⟩ := HY.out w2 hb3
            clear hb3
            go_wp2_with fail
            go_ret
            exact ⟨ret_bool K.out, HBE.out⟩
    · obtain rfl : k = N := by omega
      have K : Hid (false = B0) := Lib.hid (by rw [hre.out, Nat.sub_self]; simp [reach])
      have HBE := Lib.hid (HB.out.trans (hbel.out.mono HB.out.size))
      have hle : decide ((k : Int) + 1 ≤ (k : Int)) = false := by simp; omega
      clear hre hbel hx hy hon
      go_wp2_with fail
      go_ret
      exact ⟨ret_bool K.out, HBE.out⟩
end Go.Proofs.YtdhhdkbnlddnbaaGreatDoor

set_option maxRecDepth 100000
namespace Go.Proofs.YtdhhdkbnlddnbaaGreatDoor
open Go.ChangeShapes Go.WideShapes Go.ChangeAt Go.RowKit

theorem MoveAt.parts {W : World} {b : Nat} {m : MoveD} (h : MoveAt W b 0 m) : W.cell? ⟨b, 0, none⟩ = some (.int .i64 m.1) ∧ W.cell? ⟨b, 1, none⟩ = some (.int .i64 m.2.1) ∧ W.cell? ⟨b, 2, none⟩ = some (.int .i64 m.2.2) := ⟨h.1, h.2.1, h.2.2⟩
theorem in_turned (x lo hi : Int) (b : Bool) (h : inB x lo hi = b) (W : World) : Calls Tryz.prog 40 #[.int .i64 x, .int .i64 lo, .int .i64 hi] W fun e w' => e = .returned (.bool b) ∧ W = w' := by
  have h2 := turned (in_any x lo hi W)
  rwa [h] at h2
set_option maxHeartbeats 4000000 in
theorem allowed_bad (r : RulesD) (p : PlaceD) (vp vs ve vc v0 v1 : Value) (f t k : Int) (w : World) (hr : IsRules w r vp vs ve) (hp : PlaceIn w p vc v0 v1) (hk : POkay r p)
    (hbad : inB f (-1) (p.cells.length - 1) = true → inB t 0 (p.cells.length - 1) = true → inB k 0 (r.pieces.length - 1) = false) :
    Calls Tryz.prog 44 #[RulesV r vp vs ve, PlaceV p vc v0 v1, moveV (f, t, k)] w (BelPost (.bool false) w) := by
  obtain ⟨n, hn⟩ : ∃ n, n = p.cells.length := ⟨_, rfl⟩
  have hn64 := cells_len hk
  obtain ⟨ca, cc, rfl, hcc, _⟩ := hp.c.shape hn
  obtain ⟨K, hK⟩ : ∃ K, K = r.pieces.length := ⟨_, rfl⟩
  have hK6 := pieces_len hk.e
  obtain ⟨ap, cp, rfl, hcp, _⟩ := hr.1.shape hK
  rw [← hn] at hn64 hbad
  rw [← hK] at hK6 hbad
  obtain ⟨V, hV, hB, hY, hX, hM, _⟩ := rpm_boxes w r p (.slice ap K cp) vs ve (.slice ca n cc) v0 v1 (f, t, k)
  obtain ⟨x0, _, _, _, _⟩ := hX
  obtain ⟨_, _, _, y3, _⟩ := hY
  obtain ⟨z0, z1, z2⟩ := hM.parts
  have HB := Lib.hid hB
  rw [hV] at x0 y3 z0 z1 z2 HB
  have e1 : IntKind.i64.wrap ((n : Int) - 1) = (n : Int) - 1 := IntWalk.i64_in _ (by omega)
  have e2 : IntKind.i64.wrap ((K : Int) - 1) = (K : Int) - 1 := IntWalk.i64_in _ (by omega)
  unfold RulesCells PlaceCells at x0 y3 z0 z1 z2 HB
  unfold moveV RulesV PlaceV PlaceCells
  dsimp only at x0 y3 z0 z1 z2 HB ⊢
  clear hM hB hV hr hp hk hn hK
  cases h1 : inB f (-1) ((n : Int) - 1)
  · have H1 := Lib.hid (in_turned f (-1) ((n : Int) - 1) _ h1)
    clear hbad h1
    go_enter Tryz.func44, Tryz.ntmps44
    go_wp2_with fail
    go_at_call 40; refine (H1.out _).mono ?_; rintro e w1 ⟨rfl, rfl⟩
    go_wp2_with fail
    go_ret
    exact ⟨rfl, HB.out⟩
  · have H1 := Lib.hid (in_turned f (-1) ((n : Int) - 1) _ h1)
    cases h2 : inB t 0 ((n : Int) - 1)
    · have H2 := Lib.hid (in_turned t 0 ((n : Int) - 1) _ h2)
      clear hbad h1 h2
      go_enter Tryz.func44, Tryz.ntmps44
      go_wp2_with fail
      go_at_call 40; refine (H1.out _).mono ?_; rintro e w1 ⟨rfl, rfl⟩
      go_wp2_with fail
      go_at_call 40; refine (H2.out _).mono ?_; rintro e w1 ⟨rfl, rfl⟩
      go_wp2_with fail
      go_ret
      exact ⟨rfl, HB.out⟩
    · have H2 := Lib.hid (in_turned t 0 ((n : Int) - 1) _ h2)
      have H3 := Lib.hid (in_turned k 0 ((K : Int) - 1) _ (hbad h1 h2))
      clear hbad h1 h2
      go_enter Tryz.func44, Tryz.ntmps44
      go_wp2_with fail
      go_at_call 40; refine (H1.out _).mono ?_; rintro e w1 ⟨rfl, rfl⟩
      go_wp2_with fail
      go_at_call 40; refine (H2.out _).mono ?_; rintro e w1 ⟨rfl, rfl⟩
      go_wp2_with fail
      go_at_call 40; refine (H3.out _).mono ?_; rintro e w1 ⟨rfl, rfl⟩
      go_wp2_with fail
      go_ret
      exact ⟨rfl, HB.out⟩
/-! ### Putting a piece of the hand -/
theorem legal_hand {r : RulesD} {p : PlaceD} (hk : POkay r p) {t k : Nat} (ht : t < p.cells.length) (hk6 : k < r.pieces.length) : legalB r p (-1, (t : Int), (k : Int)) = true ↔ freeB r p (t : Int) = true ∧ 1 ≤ nth (handI p) (k : Int) := by
  have hl := hand_len hk
  unfold legalB movesOf
  dsimp only
  rw [if_pos rfl, Bool.and_eq_true, Bool.and_eq_true, decide_eq_true_eq, decide_eq_true_eq, decide_eq_true_eq, puts_mem, squares_mem, kindsOf_mem]
  dsimp only
  constructor
  · rintro ⟨_, _, _, _, h1, _, _, h2⟩
    exact ⟨h1, by omega⟩
  · rintro ⟨h1, h2⟩
    exact ⟨by omega, by omega, rfl, ⟨by omega, by omega⟩, h1, by omega, by omega, by omega⟩
theorem supp_up {r : RulesD} {p : PlaceD} {t : Int} (hall : ∀ s : Int, 0 ≤ s → s < t → s % r.width = t % r.width → cellI p s ≠ 0) : suppB r p t = true :=
  supp_end r p t (-1) (by omega) (fun s h1 h2 h3 => hall s (by omega) h2 h3)
set_option maxHeartbeats 8000000 in
theorem allowed_hand (r : RulesD) (p : PlaceD) (vp vs ve vc v0 v1 : Value) (t k : Nat) (w : World) (hr : IsRules w r vp vs ve) (hp : PlaceIn w p vc v0 v1) (hk : POkay r p) (ht : t < p.cells.length) (hk6 : k < r.pieces.length) :
    Calls Tryz.prog 44 #[RulesV r vp vs ve, PlaceV p vc v0 v1, moveV (-1, (t : Int), (k : Int))] w (BelPost (.bool (legalB r p (-1, (t : Int), (k : Int)))) w) := by
  have hcl := cells_len hk
  obtain ⟨_, hw, _⟩ := rulesE_ok hk.e
  rw [inB_iff] at hw
  obtain ⟨hw1, hw2⟩ := hw
  have hHL := hand_len hk
  have hHI := hand_in hk
  obtain ⟨L, hL⟩ : ∃ b, b = legalB r p (-1, (t : Int), (k : Int)) := ⟨_, rfl⟩
  have hiff := legal_hand hk ht hk6
  rw [← hL] at hiff ⊢
  clear hL
  obtain ⟨vh, hhv⟩ : ∃ vh, vh = (if p.turn = 0 then v0 else v1) := ⟨_, rfl⟩
  have hIH : IsSl IntAt 1 w vh (handI p) := by
    rw [hhv, handI]; split
    · exact hp.a
    · exact hp.b
  obtain ⟨gh, oh, ch, rfl, hch, hhc⟩ := ints_open hIH (by omega)
  obtain ⟨g, off, cc, rfl, hcc, hcell⟩ := ints_open hp.c hcl.1
  obtain ⟨n, hn⟩ : ∃ n, n = p.cells.length := ⟨_, rfl⟩
  obtain ⟨K, hK⟩ : ∃ K, K = r.pieces.length := ⟨_, rfl⟩
  have hK6 := pieces_len hk.e
  obtain ⟨ap, cp, rfl, hcp, _⟩ := hr.1.shape hK
  rw [← hn] at hcl hcc hcell ht ⊢
  rw [← hK] at hK6 hHL hk6
  rw [hHL] at hch hhc hhv
  obtain ⟨V, hV, hB, hY, hX, hM, _⟩ := rpm_boxes w r p (.slice ap K cp) vs ve (.slice (some ⟨g, off, none⟩) n cc) v0 v1 (-1, (t : Int), (k : Int))
  obtain ⟨tn, htn⟩ : ∃ tn : Nat, p.turn = (tn : Int) := ⟨p.turn.toNat, by have := hk.t0; omega⟩
  have htn1 : tn ≤ 1 := by have := hk.t1; omega
  have hXH : V.cell? ⟨w.heap.size + 1, 1 + tn, none⟩ = some (.slice (some ⟨gh, oh, none⟩) K ch) := by
    obtain ⟨_, x1, x2, _, _⟩ := hX
    have h2 : tn = 0 ∨ tn = 1 := by omega
    rcases h2 with h2 | h2
    · rw [hhv, if_pos (by rw [htn, h2]; rfl), h2]; exact x1
    · rw [hhv, if_neg (by rw [htn, h2]; decide), h2]; exact x2
  obtain ⟨hv, hhvv⟩ : ∃ hv, hv = nth (handI p) (k : Int) := ⟨_, rfl⟩
  have C1 : V.cell? ⟨gh, oh + k, none⟩ = some (.int .i64 hv) := by
    rw [hhvv, nth, Int.toNat_natCast]; exact cell_keeps hB (Nat.le_refl _) (hhc k hk6)
  have HC : Hid (∀ W, Below V.heap.size V W → ∀ j, j < n → W.cell? ⟨g, off + j, none⟩ = some (.int .i64 (cellI p (j : Int)))) := Lib.hid (fun W hb j hj => by
    rw [cellI, Int.toNat_natCast]; exact cell_keeps hb (Nat.le_refl _) (cell_keeps hB (Nat.le_refl _) (hcell j hj)))
  have C0 := HC.out V (Below.refl _ _) t ht
  have hn0 := nth_in (l := handI p) (m := 1000) (by omega) hHI (k : Int)
  rw [← hhvv] at hn0 hiff
  obtain ⟨h0, _⟩ := hn0
  obtain ⟨fl, hf⟩ : ∃ fl, r.falls = fl := ⟨_, rfl⟩
  obtain ⟨c, hc⟩ : ∃ c, c = cellI p (t : Int) := ⟨_, rfl⟩
  rw [← hc] at C0
  rw [freeB, ← hc, hf] at hiff
  have HIF := Lib.hid hiff
  have HSN := Lib.hid (supp_no r p (t : Int))
  have HSU : Hid ((∀ s : Int, 0 ≤ s → s < (t : Int) → s % r.width = (t : Int) % r.width → cellI p s ≠ 0) → suppB r p (t : Int) = true) := Lib.hid supp_up
  obtain ⟨x0, _, _, x3, _⟩ := hX
  have hY1 := hY
  obtain ⟨_, y1, _, y3, _, y5, _⟩ := hY1
  obtain ⟨z0, z1, z2⟩ := hM.parts
  have hm1 := hM
  rw [htn] at x3
  rw [hf] at y5
  have HB := Lib.hid hB
  have HX : Hid (∀ W, Below V.heap.size V W → W.cell? ⟨w.heap.size + 1, 0, none⟩ = some (.slice (some ⟨g, off, none⟩) n cc)) := Lib.hid (fun W hb => cell_keeps hb (Nat.le_refl _) x0)
  have HY : Hid (∀ W, Below V.heap.size V W → W.cell? ⟨w.heap.size, 1, none⟩ = some (.int .i64 r.width) ∧ W.cell? ⟨w.heap.size, 5, none⟩ = some (.bool fl)) := Lib.hid (fun W hb => ⟨cell_keeps hb (Nat.le_refl _) y1, cell_keeps hb (Nat.le_refl _) y5⟩)
  have HM : Hid (∀ W, Below V.heap.size V W → W.cell? ⟨w.heap.size + 2, 1, none⟩ = some (.int .i64 (t : Int))) := Lib.hid (fun W hb => cell_keeps hb (Nat.le_refl _) z1)
  have e1 : IntKind.i64.wrap ((n : Int) - 1) = (n : Int) - 1 := IntWalk.i64_in _ (by omega)
  have e2 : IntKind.i64.wrap ((K : Int) - 1) = (K : Int) - 1 := IntWalk.i64_in _ (by omega)
  have H1 := Lib.hid (in_turned (-1) (-1) ((n : Int) - 1) true (inB_iff.2 (by omega)))
  have H2 := Lib.hid (in_turned (t : Int) 0 ((n : Int) - 1) true (inB_iff.2 (by omega)))
  have H3 := Lib.hid (in_turned (k : Int) 0 ((K : Int) - 1) true (inB_iff.2 (by omega)))
  have hn64 := hcl.2
  have htc : t < cc := by omega
  have hkc : k < ch := by omega
  unfold moveV RulesV PlaceV PlaceCells
  unfold RulesCells PlaceCells at hV
  dsimp only at z0 z1 z2 hV ⊢
  rw [htn, hf] at hV ⊢
  rw [hV] at x0 x3 y3 z0 z1 z2
  clear hM hm1 hB hr hp hk hn hK hY hcell hhc hIH hhv hiff hHI hc hhvv hf htn hcl y1 y5
  go_enter Tryz.func44, Tryz.ntmps44
  go_wp2_with fail
  go_at_call 40; refine (H1.out _).mono ?_; rintro e w1 ⟨rfl, rfl⟩
  go_wp2_with fail
  go_at_call 40; refine (H2.out _).mono ?_; rintro e w1 ⟨rfl, rfl⟩
  go_wp2_with fail
  go_at_call 40; refine (H3.out _).mono ?_; rintro e w1 ⟨rfl, rfl⟩
  go_wp2_with fail
  rw [hV] at hXH C0 C1
  clear H1 H2 H3
  by_cases hz : hv = 0
  · have K0 : Hid (false = L) := Lib.hid (by
      cases L
      · rfl
      · have := (HIF.out.1 rfl).2; omega)
    have hz2 : (hv == 0) = true := by simpa using hz
    clear hz HX HY HM HC HIF HSN HSU
    go_quiet (fail)
    go_wp2
    go_ret
    exact ⟨ret_bool K0.out, below_drewN (by rw [← hV]; exact HB.out) _⟩
  · have hz2 : (hv == 0) = false := by simpa using hz
    by_cases hcz : c = 0
    · subst hcz
      have hHV : 1 ≤ hv := by omega
      clear hz
      go_quiet (fail)
      rw [← hV]
      have HBW : Hid (Below V.heap.size V (V.drewN nq)) := Lib.hid (below_drewN (Below.refl _ _) _)
      clear x0 x3 y3 z0 z1 z2 hXH C0 C1 hV
      generalize V.drewN nq = W at HBW ⊢
      obtain ⟨y1, y5⟩ := HY.out W HBW.out
      have z1 := HM.out W HBW.out
      go_wp2
      clear y1 y5 z1
      go_loopw [8] (fun v wr => ∃ i : Nat, v = .int .i64 (i : Int) ∧ i ≤ t ∧ Hid ((i : Int) % r.width = (t : Int) % r.width) ∧ Hid (∀ s : Int, 0 ≤ s → s < (i : Int) → s % r.width = (t : Int) % r.width → cellI p s ≠ 0) ∧ wr = W) (fun v _ => t - (intOf v).toNat)
      case atStart =>
        have hm0 := Int.emod_nonneg (t : Int) (b := r.width) (by omega)
        have hm1 := Int.emod_lt_of_pos (t : Int) (b := r.width) (by omega)
        have hq := Int.ediv_nonneg (show (0 : Int) ≤ (t : Int) by omega) (b := r.width) (by omega)
        have he := Int.emod_add_mul_ediv (t : Int) r.width
        have hmu := Int.mul_nonneg (show 0 ≤ r.width by omega) hq
        refine ⟨((t : Int) % r.width).toNat, by rw [Int.toNat_of_nonneg hm0], ?_, Lib.hid ?_, Lib.hid (fun s h1 h2 h3 => ?_), rfl⟩
        · omega
        · rw [Int.toNat_of_nonneg hm0, Int.emod_emod_of_dvd _ (Int.dvd_refl _)]
        · rw [Int.toNat_of_nonneg hm0] at h2
          rw [Int.emod_eq_of_lt h1 (by omega)] at h3
          omega
      case round =>
        obtain ⟨i, rfl, hit, hmod, hall, rfl⟩ := hrel
        obtain ⟨y1, y5⟩ := HY.out wr HBW.out
        have z1 := HM.out wr HBW.out
        have x0 := HX.out wr HBW.out
        cases fl
        · have K0 : Hid (true = L) := Lib.hid (by
            have := HIF.out.2 ⟨rfl, hHV⟩
            exact this.symm)
          have HBE := Lib.hid (HB.out.trans (HBW.out.mono HB.out.size))
          clear HIF HSN HSU HC HX HY HM HB HBW hmod hall
          go_wp2
          go_ret
          exact ⟨ret_bool K0.out, HBE.out⟩
        · by_cases hlt : i < t
          · have hd : decide ((i : Int) < (t : Int)) = true := by simp; omega
            have C2 := HC.out wr HBW.out i (by omega)
            have hic : i < cc := by omega
            have hin : i < n := by omega
            obtain ⟨c2, hc2⟩ : ∃ c2, c2 = cellI p (i : Int) := ⟨_, rfl⟩
            rw [← hc2] at C2
            by_cases hz3 : c2 = 0
            · have hz4 : (c2 == 0) = true := by simpa using hz3
              have K0 : Hid (false = L) := Lib.hid (by
                have h := HSN.out (i : Int) (by omega) (by omega) hmod.out (by rw [← hc2]; exact hz3)
                cases L
                · rfl
                · have h2 := (HIF.out.1 rfl).1
                  rw [h] at h2; simp at h2)
              have HBE := Lib.hid (HB.out.trans (HBW.out.mono HB.out.size))
              clear HIF HSN HSU HC HX HY HM HB HBW hmod hall hc2 hz3
              go_wp2
              go_ret
              exact ⟨ret_bool K0.out, HBE.out⟩
            · have hz4 : (c2 == 0) = false := by simpa using hz3
              obtain ⟨i2, hi2⟩ : ∃ i2 : Nat, (i : Int) + r.width = (i2 : Int) := ⟨((i : Int) + r.width).toNat, by omega⟩
              have hle : i2 ≤ t := by
                by_cases h : i2 ≤ t
                · exact h
                · exact absurd hmod.out.symm (mod_gap (by omega) (by omega))
              have KM : Hid ((i2 : Int) % r.width = (t : Int) % r.width) := Lib.hid (by rw [← hi2, Int.add_emod_right]; exact hmod.out)
              have KA : Hid (∀ s : Int, 0 ≤ s → s < (i2 : Int) → s % r.width = (t : Int) % r.width → cellI p s ≠ 0) := Lib.hid (fun s h1 h2 h3 => by
                by_cases h4 : s < (i : Int)
                · exact hall.out s h1 h4 h3
                · by_cases h5 : s = (i : Int)
                  · rw [h5, ← hc2]; exact hz3
                  · exact absurd (by rw [h3, hmod.out]) (mod_gap (W := r.width) (i := (i : Int)) (s := s) (by omega) (by omega)))
              have ew : IntKind.i64.wrap ((i : Int) + r.width) = (i2 : Int) := by rw [hi2]; exact IntWalk.i64_in _ (by omega)
              have hii : i < i2 := by omega
              clear HIF HSN HSU HC HX HY HM hc2 hz3 hall hmod hi2
              go_wp2
              go_roundw
              case rel => exact ⟨i2, rfl, hle, KM, KA, by first | rfl | trivial⟩
              case measure => simp [intOf]; omega
          · obtain rfl : i = t := by omega
            have hd : decide ((i : Int) < (i : Int)) = false := by simp
            have K0 : Hid (true = L) := Lib.hid (by
              have h := HSU.out hall.out
              have := HIF.out.2 ⟨by rw [h]; rfl, hHV⟩
              exact this.symm)
            have HBE := Lib.hid (HB.out.trans (HBW.out.mono HB.out.size))
            clear HIF HSN HSU HC HX HY HM HB HBW hmod hall
            go_wp2
            go_ret
            exact ⟨ret_bool K0.out, HBE.out⟩
    · have hcz2 : (c != 0) = true := by simpa using hcz
      have K0 : Hid (false = L) := Lib.hid (by
        cases L
        · rfl
        · have := (HIF.out.1 rfl).1
          rw [decide_eq_false hcz] at this
          cases this)
      clear hz hcz HX HY HM HC HIF HSN HSU
      go_quiet (fail)
      go_wp2
      go_ret
      exact ⟨ret_bool K0.out, below_drewN (by rw [← hV]; exact HB.out) _⟩
end Go.Proofs.YtdhhdkbnlddnbaaGreatDoor

set_option maxRecDepth 100000
namespace Go.Proofs.YtdhhdkbnlddnbaaGreatDoor
open Go.ChangeShapes Go.WideShapes Go.ChangeAt Go.RowKit

theorem legal_from {r : RulesD} {p : PlaceD} {s t k : Nat} (hs : s < p.cells.length) (ht : t < p.cells.length) : legalB r p ((s : Int), (t : Int), (k : Int)) = true ↔ isOfB (cellI p (s : Int)) p.turn = true ∧ (t : Int) ∈ tosD r p (s : Int) ∧ (k : Int) = kindAtI r p.turn (kindOfI (cellI p (s : Int))) (t : Int) := by
  unfold legalB movesOf
  dsimp only
  rw [if_neg (by omega), Bool.and_eq_true, Bool.and_eq_true, decide_eq_true_eq, decide_eq_true_eq, decide_eq_true_eq, from_mem, squares_mem]
  dsimp only
  constructor
  · rintro ⟨_, _, h1, _, _, h2, h3⟩
    exact ⟨h1, h2, h3⟩
  · rintro ⟨h1, h2, h3⟩
    exact ⟨by omega, by omega, h1, rfl, ⟨by omega, by omega⟩, h2, h3⟩
theorem bool_neq {a b : Bool} (h : a = true → b = true → False) (hb : b = true) : false = a := by
  cases a
  · rfl
  · exact (h rfl hb).elim
set_option maxHeartbeats 16000000 in
theorem allowed_from (r : RulesD) (p : PlaceD) (vp vs ve vc v0 v1 : Value) (s t k : Nat) (w : World) (hr : IsRules w r vp vs ve) (hp : PlaceIn w p vc v0 v1) (hk : POkay r p) (hs : s < p.cells.length) (ht : t < p.cells.length) (hk6 : k < r.pieces.length) :
    Calls Tryz.prog 44 #[RulesV r vp vs ve, PlaceV p vc v0 v1, moveV ((s : Int), (t : Int), (k : Int))] w (BelPost (.bool (legalB r p ((s : Int), (t : Int), (k : Int)))) w) := by
  have hcl := cells_len hk
  obtain ⟨_, hw, hh, _⟩ := rulesE_ok hk.e
  rw [inB_iff] at hw hh
  obtain ⟨hw1, hw2⟩ := hw
  obtain ⟨hh1, hh2⟩ := hh
  have t0 := hk.t0
  have t1 := hk.t1
  obtain ⟨L, hL⟩ : ∃ b, b = legalB r p ((s : Int), (t : Int), (k : Int)) := ⟨_, rfl⟩
  have hiff := legal_from (r := r) (k := k) hs ht
  rw [← hL] at hiff ⊢
  clear hL
  obtain ⟨g, off, cc, rfl, hcc, hcell⟩ := ints_open hp.c hcl.1
  obtain ⟨n, hn⟩ : ∃ n, n = p.cells.length := ⟨_, rfl⟩
  obtain ⟨K, hK⟩ : ∃ K, K = r.pieces.length := ⟨_, rfl⟩
  have hK6 := pieces_len hk.e
  rw [← hn] at hcl hcc hcell hp hs ht ⊢
  rw [← hK] at hK6 hk6
  obtain ⟨ap, cp, rfl, hcp, hpc⟩ := hr.1.shape hK
  obtain ⟨V, hV, hB, hY, hX, hM, _⟩ := rpm_boxes w r p (.slice ap K cp) vs ve (.slice (some ⟨g, off, none⟩) n cc) v0 v1 ((s : Int), (t : Int), (k : Int))
  have HB := Lib.hid hB
  have HX : Hid (∀ W, Below V.heap.size V W → BoxP W (w.heap.size + 1) p (.slice (some ⟨g, off, none⟩) n cc) v0 v1) := Lib.hid (fun W hb => hX.below hb (Nat.le_refl _))
  have HY : Hid (∀ W, Below V.heap.size V W → BoxR W w.heap.size r (.slice ap K cp) vs ve) := Lib.hid (fun W hb => hY.below hb (Nat.le_refl _))
  have HM : Hid (∀ W, Below V.heap.size V W → W.cell? ⟨w.heap.size + 2, 0, none⟩ = some (.int .i64 (s : Int)) ∧ W.cell? ⟨w.heap.size + 2, 1, none⟩ = some (.int .i64 (t : Int)) ∧ W.cell? ⟨w.heap.size + 2, 2, none⟩ = some (.int .i64 (k : Int))) := Lib.hid (fun W hb => (hM.below hb (Nat.le_refl _)).parts)
  have C0 : V.cell? ⟨g, off + s, none⟩ = some (.int .i64 (cellI p (s : Int))) := by
    rw [cellI, Int.toNat_natCast]; exact cell_keeps hB (Nat.le_refl _) (hcell s hs)
  obtain ⟨c, hc⟩ : ∃ c, c = cellI p (s : Int) := ⟨_, rfl⟩
  have hcr := cell_in hk (s : Int)
  rw [← hc, ← hK] at hcr
  rw [← hc] at hiff C0
  have hc1 : c ≤ 1000 := by omega
  obtain ⟨hc0, _⟩ := hcr
  have e1 : IntKind.i64.wrap ((n : Int) - 1) = (n : Int) - 1 := IntWalk.i64_in _ (by omega)
  have e2 : IntKind.i64.wrap ((K : Int) - 1) = (K : Int) - 1 := IntWalk.i64_in _ (by omega)
  have H1 := Lib.hid (in_turned (s : Int) (-1) ((n : Int) - 1) true (inB_iff.2 (by omega)))
  have H2 := Lib.hid (in_turned (t : Int) 0 ((n : Int) - 1) true (inB_iff.2 (by omega)))
  have H3 := Lib.hid (in_turned (k : Int) 0 ((K : Int) - 1) true (inB_iff.2 (by omega)))
  have hn64 := hcl.2
  have hsc : s < cc := by omega
  have hneg : ((s : Int) == -1) = false := by simp
  obtain ⟨bm, hbm⟩ : ∃ bm, bm = isOfB c p.turn := ⟨_, rfl⟩
  have HMI : Hid (∀ W, Calls Tryz.prog 59 #[.int .i64 c, .int .i64 p.turn] W fun e w' => e = .returned (.bool bm) ∧ W = w') := Lib.hid (fun W => by rw [hbm]; exact turned (mine_any _ _ _ hc0 hc1))
  rw [← hbm] at hiff
  obtain ⟨x0, _, _, x3, _⟩ := hX
  obtain ⟨_, _, _, y3, _⟩ := hY
  obtain ⟨z0, z1, z2⟩ := hM.parts
  cases bm
  · have K0 : Hid (false = L) := Lib.hid (by
      cases L
      · rfl
      · exact absurd (hiff.1 rfl).1 (by decide))
    unfold moveV RulesV PlaceV PlaceCells
    unfold RulesCells PlaceCells at hV
    dsimp only at z0 z1 z2 hV ⊢
    rw [hV] at x0 x3 y3 z0 z1 z2 C0 HB
    clear hM hB hr hp hk hn hK hcell hpc hiff hc hbm hcl HX HY HM hV
    go_enter Tryz.func44, Tryz.ntmps44
    go_wp2_with fail
    go_at_call 40; refine (H1.out _).mono ?_; rintro e w1 ⟨rfl, rfl⟩
    go_wp2_with fail
    go_at_call 40; refine (H2.out _).mono ?_; rintro e w1 ⟨rfl, rfl⟩
    go_wp2_with fail
    go_at_call 40; refine (H3.out _).mono ?_; rintro e w1 ⟨rfl, rfl⟩
    go_wp2_with fail
    go_at_call 59; refine (HMI.out _).mono ?_; rintro e w1 ⟨rfl, rfl⟩
    go_wp2_with fail
    go_ret
    exact ⟨ret_bool K0.out, HB.out⟩
  · have hcn : c ≠ 0 := isOf_ne hbm.symm
    have hkd := kind_in hk (s := (s : Int)) (by rw [← hc]; exact hcn)
    rw [← hc, ← hK] at hkd
    obtain ⟨jk, hjk⟩ : ∃ jk : Nat, kindOfI c = (jk : Int) := ⟨(kindOfI c).toNat, by omega⟩
    rw [hjk] at hkd hiff
    have hjn : jk < K := by omega
    obtain ⟨_, _, hwl, hwg⟩ := ways_good hk.e hkd.1 (by rw [← hK]; exact hkd.2)
    obtain ⟨gp, op, x, rfl, hx, hq⟩ := hpc jk hjn
    have hxp : pieceOf r (jk : Int) = x := by
      have h := pieceOf_in (r := r) (k := (jk : Int)) (by rw [← hK]; exact hkd.2) hkd.1
      rw [Int.toNat_natCast, hx] at h
      exact (Option.some.inj h).symm
    rw [hxp] at hwl hwg
    obtain ⟨u, _, _, d2, d3, hu⟩ := piece_keeps _ _ _ _ _ _ hB (Nat.le_refl _) hq
    obtain ⟨nw, hnw⟩ : ∃ nw, nw = x.ways.length := ⟨_, rfl⟩
    obtain ⟨au, cu, rfl, hcu, huc⟩ := hu.shape hnw
    rw [← hnw] at hwl
    have HD3 : Hid (∀ W, Below V.heap.size V W → W.cell? ⟨gp, op + jk * 4 + 3, none⟩ = some (.slice au nw cu)) := Lib.hid (fun W hb => cell_keeps hb (Nat.le_refl _) d3)
    have HU : Hid (∀ W, Below V.heap.size V W → ∀ j, j < nw → ∃ g' o' y, au = some ⟨g', o', none⟩ ∧ x.ways[j]? = some y ∧ WayAt W g' (o' + j * 4) y) := Lib.hid (fun W hb j hj => by
      obtain ⟨g', o', y, e1, e2, e3⟩ := huc j hj
      exact ⟨g', o', y, e1, e2, way_keeps _ _ _ _ _ _ hb (Nat.le_refl _) e3⟩)
    obtain ⟨pr, hpr⟩ : ∃ pr, pr = x.promote := ⟨_, rfl⟩
    rw [← hpr] at d2
    obtain ⟨g1, g2, _, _⟩ := ways_good hk.e hkd.1 (by rw [← hK]; exact hkd.2)
    rw [hxp, ← hpr] at g1 g2
    rw [← hK] at g2
    obtain ⟨Q, hQ⟩ : ∃ Q, Q = (t : Int) / r.width := ⟨_, rfl⟩
    have q1 : wrap64 ((t : Int).tdiv r.width) = Q := by rw [hQ]; exact wrap_div (by omega) (by omega) hw1
    have Q0 : 0 ≤ Q := by rw [hQ]; exact Int.ediv_nonneg (by omega) (by omega)
    have Q1 : Q ≤ 64 := by
      rw [hQ]; have := Int.ediv_le_self (a := (t : Int)) r.width (by omega); omega
    have q2 : IntKind.i64.wrap ((t : Int).tdiv r.width) = Q := by rw [Int.tdiv_eq_ediv_of_nonneg (by omega), ← hQ]; exact IntWalk.i64_in _ (by omega)
    have q3 : IntKind.i64.wrap ((t : Int) / r.width) = Q := by rw [← hQ]; exact IntWalk.i64_in _ (by omega)
    obtain ⟨bF, hbF⟩ : ∃ bF, bF = decide (Q = lastRowI r p.turn) := ⟨_, rfl⟩
    have HFA : Hid (∀ W, Calls Tryz.prog 43 #[RulesV r (.slice (some ⟨gp, op, none⟩) K cp) vs ve, .int .i64 p.turn, .int .i64 Q] W (BelPost (.bool bF) W)) := Lib.hid (fun W => by rw [hbF]; exact far_any r _ vs ve p.turn Q W hh1 hh2 t0 t1)
    obtain ⟨B, hBe⟩ : ∃ B, B = kindAtI r p.turn (jk : Int) (t : Int) := ⟨_, rfl⟩
    have HBK : Hid (B = if pr = 0 then (jk : Int) else if bF = true then pr - 1 else (jk : Int)) := Lib.hid (by
      rw [hBe, kindAtI, hxp, ← hpr, hbF, hQ]
      by_cases h1 : pr = 0
      · rw [if_pos h1, if_pos h1]
      · rw [if_neg h1, if_neg h1]
        by_cases h2 : (t : Int) / r.width = lastRowI r p.turn
        · rw [if_pos h2, if_pos (decide_eq_true h2)]
        · rw [if_neg h2, if_neg (by simpa using h2)])
    rw [← hBe] at hiff
    have htos : ∀ j y, x.ways[j]? = some y → (t : Int) ∈ reachOf r p (s : Int) y → (t : Int) ∈ tosD r p (s : Int) := fun j y h1 h2 => by
      unfold tosD
      rw [List.mem_flatMap]
      exact ⟨y, by rw [← hc, hjk, hxp]; exact List.mem_of_getElem? h1, h2⟩
    have hnot : (∀ j y, x.ways[j]? = some y → ¬ (t : Int) ∈ reachOf r p (s : Int) y) → ¬ (t : Int) ∈ tosD r p (s : Int) := fun h h1 => by
      unfold tosD at h1
      rw [List.mem_flatMap] at h1
      obtain ⟨y, h2, h3⟩ := h1
      rw [← hc, hjk, hxp] at h2
      obtain ⟨j, hj⟩ := List.mem_iff_getElem?.1 h2
      exact h j y hj h3
    have HNE : Hid (B ≠ (k : Int) → false = L) := Lib.hid (fun h => by
      cases L
      · rfl
      · exact absurd (hiff.1 rfl).2.2.symm h)
    have HYES : Hid (B = (k : Int) → ∀ j y, x.ways[j]? = some y → true = decide ((t : Int) ∈ reachOf r p (s : Int) y) → true = L) := Lib.hid (fun h j y h1 h2 => (hiff.2 ⟨rfl, htos j y h1 (of_decide_eq_true h2.symm), h.symm⟩).symm)
    have HNO : Hid ((∀ j y, x.ways[j]? = some y → ¬ (t : Int) ∈ reachOf r p (s : Int) y) → false = L) := Lib.hid (fun h => by
      cases L
      · rfl
      · exact absurd (hiff.1 rfl).2.1 (hnot h))
    have HRE : Hid (∀ j y, x.ways[j]? = some y → ∀ W, Below V.heap.size V W → Calls Tryz.prog 61 #[RulesV r (.slice (some ⟨gp, op, none⟩) K cp) vs ve, PlaceV p (.slice (some ⟨g, off, none⟩) n cc) v0 v1, .int .i64 (s : Int), .int .i64 (t : Int), .agg #[.int .i64 y.dx, .int .i64 y.dy, .int .i64 y.most, .int .i64 y.take]] W (BelPost (.bool (decide ((t : Int) ∈ reachOf r p (s : Int) y))) W)) := Lib.hid (fun j y hy W hb =>
      reaches_any r p _ vs ve _ v0 v1 (s : Int) (t : Int) y W ((hp.below hB (Nat.le_refl _)).below hb (Nat.le_refl _)) hk (by omega) (by rw [← hn]; omega) (hwg y (List.mem_of_getElem? hy)))
    have HLEN : Hid (∀ j y, x.ways[j]? = some y → j < nw) := Lib.hid (fun j y h => by rw [hnw]; exact (List.getElem?_eq_some_iff.1 h).1)
    have hjc : jk < cp := by omega
    have hc01 : 0 ≤ c - 1 := by omega
    have ek : (c - 1) / 2 = (jk : Int) := hjk
    unfold moveV RulesV PlaceV PlaceCells
    unfold RulesV at HFA HRE
    unfold PlaceV PlaceCells at HRE
    unfold RulesCells PlaceCells at hV
    dsimp only at z0 z1 z2 hV ⊢
    rw [hV] at x0 x3 y3 z0 z1 z2 C0 d2
    clear hM hB hr hp hk hn hK hcell hpc hiff hc hbm hcl hcn hkd hjk hx hq hxp hu huc hwg hnw hpr hQ hbF hBe htos hnot d3
    go_enter Tryz.func44, Tryz.ntmps44
    go_wp2_with fail
    go_at_call 40; refine (H1.out _).mono ?_; rintro e w1 ⟨rfl, rfl⟩
    go_wp2_with fail
    go_at_call 40; refine (H2.out _).mono ?_; rintro e w1 ⟨rfl, rfl⟩
    go_wp2_with fail
    go_at_call 40; refine (H3.out _).mono ?_; rintro e w1 ⟨rfl, rfl⟩
    go_wp2_with fail
    go_at_call 59; refine (HMI.out _).mono ?_; rintro e w1 ⟨rfl, rfl⟩
    go_wp2_with fail
    rw [← hV]
    clear H1 H2 H3 HMI x0 x3 y3 z0 z1 z2 C0 d2 hV
    rw [ek]
    clear ek hc01
    obtain ⟨bb, hbb⟩ : ∃ bb : Bool, bb = ((pr != 0) && bF) := ⟨_, rfl⟩
    have HBB := Lib.hid hbb
    clear hbb
    go_cut [120] from 108 to 119 (fun s120 wx => s120 = .bool bb ∧ Hid (Below V.heap.size V wx))
    case first =>
      clear HNE HYES HNO HRE HU HLEN HD3
      by_cases hp0 : pr = 0
      · subst hp0
        have K1 : Hid (false = bb) := Lib.hid HBB.out.symm
        clear HBK HFA HX HY HM HB
        go_quiet (fail)
        go_wp2_with fail
        go_meet
        exact ⟨congrArg _ K1.out, Lib.hid (below_drewN (Below.refl _ _) _)⟩
      · have hpb : (pr != 0) = true := by simpa using hp0
        have K1 : Hid (bF = bb) := Lib.hid (by rw [HBB.out, hpb]; rfl)
        have hBc : Below V.heap.size V V.drew := (Below.refl _ _).drew
        have hw0 : ¬ r.width = 0 := by omega
        have hw00 : (r.width == 0) = false := by simpa using hw0
        clear HBK hp0 HB
        go_region_held3 (fun w' => (w'.cell? ⟨w.heap.size, 0, none⟩ = some (.string r.name) ∧ w'.cell? ⟨w.heap.size, 1, none⟩ = some (.int .i64 r.width) ∧ w'.cell? ⟨w.heap.size, 2, none⟩ = some (.int .i64 r.height) ∧ w'.cell? ⟨w.heap.size, 3, none⟩ = some (.slice (some ⟨gp, op, none⟩) K cp) ∧ w'.cell? ⟨w.heap.size, 4, none⟩ = some vs ∧ w'.cell? ⟨w.heap.size, 5, none⟩ = some (.bool r.falls) ∧ w'.cell? ⟨w.heap.size, 6, none⟩ = some (.bool r.keeps) ∧ w'.cell? ⟨w.heap.size, 7, none⟩ = some ve ∧ w'.cell? ⟨w.heap.size, 8, none⟩ = some (.int .i64 r.blocked) ∧ w'.cell? ⟨w.heap.size, 9, none⟩ = some (.int .i64 r.quiet) ∧ w'.cell? ⟨w.heap.size, 10, none⟩ = some (.int .i64 r.rep)) ∧
          (w'.cell? ⟨w.heap.size + 1, 0, none⟩ = some (.slice (some ⟨g, off, none⟩) n cc) ∧ w'.cell? ⟨w.heap.size + 1, 1, none⟩ = some v0 ∧ w'.cell? ⟨w.heap.size + 1, 2, none⟩ = some v1 ∧ w'.cell? ⟨w.heap.size + 1, 3, none⟩ = some (.int .i64 p.turn) ∧ w'.cell? ⟨w.heap.size + 1, 4, none⟩ = some (.int .i64 p.quiet)) ∧
          (w'.cell? ⟨w.heap.size + 2, 0, none⟩ = some (.int .i64 (s : Int)) ∧ w'.cell? ⟨w.heap.size + 2, 1, none⟩ = some (.int .i64 (t : Int)) ∧ w'.cell? ⟨w.heap.size + 2, 2, none⟩ = some (.int .i64 (k : Int)))) (exact ⟨HY.out _ hBc, HX.out _ hBc, HM.out _ hBc⟩) (first
          | (go_at_call 43; refine (HFA.out _).mono ?_; rintro e w1 ⟨rfl, hb⟩; have hBc := hBc.trans (hb.mono hBc.size); clear hb))
        have HBC := Lib.hid hBc
        clear hBc HX HY HM HFA
        go_wp2_with fail
        go_meet
        exact ⟨congrArg _ K1.out, HBC⟩
    case rest =>
      obtain ⟨rfl, hbc⟩ := hcut
      have hpm : IntKind.i64.wrap (pr - 1) = pr - 1 := IntWalk.i64_in _ (by omega)
      go_upto_if 120 with fail
      have HB2 : Hid ((if bb = true then pr - 1 else (jk : Int)) = B) := Lib.hid (by
        rw [HBB.out, HBK.out]
        by_cases h : pr = 0
        · subst h; simp
        · rw [if_neg h, show (pr != 0) = true by simpa using h, Bool.true_and])
      clear HFA HBK HBB
      go_cut [11] from 121 to 122 (fun s11 wx => s11 = .int .i64 B ∧ wx = wc)
      case first =>
        clear HNE HYES HNO HRE HU HLEN HD3 HX HY HM
        cases bb
        · go_wp2_with fail
          go_meet
          exact ⟨congrArg _ HB2.out, rfl⟩
        · go_wp2_with fail
          go_meet
          exact ⟨congrArg _ HB2.out, rfl⟩
      rename_i wcc
      obtain ⟨rfl, rfl⟩ := hcut
      clear HB2
      obtain ⟨_, z1, z2⟩ := HM.out wc hbc.out
      by_cases hBk : B = (k : Int)
      · have hb2 : (B != (k : Int)) = false := by simpa using hBk
        have HYES2 : Hid (∀ j y, x.ways[j]? = some y → true = decide ((t : Int) ∈ reachOf r p (s : Int) y) → true = L) := Lib.hid (HYES.out hBk)
        obtain ⟨_, _, _, y3, _⟩ := HY.out wc hbc.out
        have d3 := HD3.out wc hbc.out
        clear HNE HYES hBk HD3
        go_wp2
        clear z1 z2 y3 d3
        go_loopw [14, 134] (fun _ i wr => ∃ j : Nat, j ≤ nw ∧ i = .int .i64 (j : Int) ∧ Hid (∀ j' y, j' < j → x.ways[j']? = some y → ¬ (t : Int) ∈ reachOf r p (s : Int) y) ∧ Hid (Below V.heap.size V wr)) (fun _ i _ => nw - (intOf i).toNat)
        case atStart => exact ⟨0, by omega, rfl, Lib.hid (fun j' y h => by omega), hbc⟩
        case round =>
          obtain ⟨j, hjw, rfl, hnone, hbel⟩ := hrel
          by_cases hlt : j < nw
          · obtain ⟨g', o', y, rfl, hyj, c0, c1, c2, c3⟩ := HU.out wr hbel.out j hlt
            have hjcu : j < cu := by omega
            have HYJ := Lib.hid hyj
            have hbW : Below V.heap.size V (wr.alloc (.cells #[.int .i64 y.dx, .int .i64 y.dy, .int .i64 y.most, .int .i64 y.take] 94)) := hbel.out.alloc hbel.out.size _
            have HBW := Lib.hid hbW
            obtain ⟨u0, u1, u2, u3, u4⟩ := HX.out _ hbW
            obtain ⟨v0', v1', v2', v3', v4', v5', v6', v7', v8', v9', v10'⟩ := HY.out _ hbW
            obtain ⟨m0, m1, m2⟩ := HM.out _ hbW
            have HCA := Lib.hid (HRE.out j y HYJ.out _ hbW)
            obtain ⟨b, hb⟩ : ∃ b, b = decide ((t : Int) ∈ reachOf r p (s : Int) y) := ⟨_, rfl⟩
            rw [← hb] at HCA
            clear hyj hbW hbel
            cases b
            · have KN : Hid (∀ j' y', j' < j + 1 → x.ways[j']? = some y' → ¬ (t : Int) ∈ reachOf r p (s : Int) y') := Lib.hid (fun j' y' h1 h2 => by
                by_cases h3 : j' < j
                · exact hnone.out j' y' h3 h2
                · obtain rfl : j' = j := by omega
                  have h4 := h2.symm.trans HYJ.out
                  obtain rfl : y' = y := Option.some.inj h4
                  exact of_decide_eq_false hb.symm)
              clear hb hnone HYES2 HNO HRE HU HX HY HM
              go_wp2_with fail
              go_at_call 61; refine HCA.out.mono ?_; rintro e w1 ⟨rfl, hb1⟩
              have HB1 : Hid (Below V.heap.size V w1) := Lib.hid (HBW.out.trans (hb1.mono HBW.out.size))
              clear hb1 HBW HCA u0 u1 u2 u3 u4 v0' v1' v2' v3' v4' v5' v6' v7' v8' v9' v10' m0 m1 m2 c0 c1 c2 c3
              go_wp2
              go_roundw
              case rel => exact ⟨j + 1, by omega, by go_num, KN, HB1⟩
              case measure => simp [intOf]; omega
            · have K1 : Hid (true = L) := Lib.hid (HYES2.out j y HYJ.out hb)
              clear hb hnone HYES2 HNO HRE HU HX HY HM
              go_wp2_with fail
              go_at_call 61; refine HCA.out.mono ?_; rintro e w1 ⟨rfl, hb1⟩
              have HB1 : Hid (Below w.heap.size w w1) := Lib.hid (HB.out.trans ((HBW.out.trans (hb1.mono HBW.out.size)).mono HB.out.size))
              clear hb1 HBW HCA u0 u1 u2 u3 u4 v0' v1' v2' v3' v4' v5' v6' v7' v8' v9' v10' m0 m1 m2 c0 c1 c2 c3
              go_wp2
              go_ret
              exact ⟨ret_bool K1.out, HB1.out⟩
          · obtain rfl : j = nw := by omega
            have K1 : Hid (false = L) := Lib.hid (HNO.out fun j' y h => hnone.out j' y (HLEN.out j' y h) h)
            have HBE : Hid (Below w.heap.size w wr) := Lib.hid (HB.out.trans (hbel.out.mono HB.out.size))
            clear hbel hnone HYES2 HNO HRE HU HX HY HM
            go_wp2
            go_ret
            exact ⟨ret_bool K1.out, HBE.out⟩
      · have hb2 : (B != (k : Int)) = true := by simpa using hBk
        have K1 : Hid (false = L) := Lib.hid (HNE.out hBk)
        have HBE : Hid (Below w.heap.size w wc) := Lib.hid (HB.out.trans (hbc.out.mono HB.out.size))
        clear HNE HYES hBk HD3 HNO HRE HU HX HY HM hbc
        go_wp2
        go_ret
        exact ⟨ret_bool K1.out, HBE.out⟩
theorem allowed_any (r : RulesD) (p : PlaceD) (vp vs ve vc v0 v1 : Value) (m : MoveD) (w : World) (hr : IsRules w r vp vs ve) (hp : PlaceIn w p vc v0 v1) (hk : POkay r p) :
    Calls Tryz.prog 44 #[RulesV r vp vs ve, PlaceV p vc v0 v1, moveV m] w (BelPost (.bool (legalB r p m)) w) := by
  obtain ⟨f, t, k⟩ := m
  by_cases hin : (inB f (-1) (p.cells.length - 1) = true ∧ inB t 0 (p.cells.length - 1) = true) ∧ inB k 0 (r.pieces.length - 1) = true
  · obtain ⟨⟨h1, h2⟩, h3⟩ := hin
    rw [inB_iff] at h1 h2 h3
    obtain ⟨t, rfl⟩ : ∃ j : Nat, t = (j : Int) := ⟨t.toNat, by omega⟩
    obtain ⟨k, rfl⟩ : ∃ j : Nat, k = (j : Int) := ⟨k.toNat, by omega⟩
    by_cases hf : f = -1
    · subst hf
      exact allowed_hand r p vp vs ve vc v0 v1 t k w hr hp hk (by omega) (by omega)
    · obtain ⟨f, rfl⟩ : ∃ j : Nat, f = (j : Int) := ⟨f.toNat, by omega⟩
      exact allowed_from r p vp vs ve vc v0 v1 f t k w hr hp hk (by omega) (by omega) (by omega)
  · have hL : legalB r p (f, t, k) = false := by
      cases h : legalB r p (f, t, k)
      · rfl
      · exfalso
        have ho := legal_ok hk h
        refine hin ⟨⟨inB_iff.2 ?_, inB_iff.2 ?_⟩, inB_iff.2 ?_⟩
        · rcases ho.src with ⟨h1, _⟩ | ⟨h1, h2⟩
          · dsimp only at h1; have := (cells_len hk).1; omega
          · dsimp only at h1 h2; omega
        · have h1 := ho.t0; have h2 := ho.t1; dsimp only at h1 h2; omega
        · have h1 := ho.k0; have h2 := ho.k1; dsimp only at h1 h2; omega
    rw [hL]
    refine allowed_bad r p vp vs ve vc v0 v1 f t k w hr hp hk (fun h1 h2 => ?_)
    cases h3 : inB k 0 ((r.pieces.length : Int) - 1)
    · rfl
    · exact absurd ⟨⟨h1, h2⟩, h3⟩ hin
end Go.Proofs.YtdhhdkbnlddnbaaGreatDoor

set_option maxRecDepth 100000
namespace Go.Proofs.YtdhhdkbnlddnbaaGreatDoor
open Go.ChangeShapes Go.WideShapes Go.ChangeAt Go.RowKit

/-! ### The triples in their order -/
def kindsT (r : RulesD) (p : PlaceD) (f t : Int) (j : Nat) : List MoveD := ((List.range j).map fun k : Nat => ((f, t, (k : Int)) : MoveD)).filter (legalB r p)
def tosT (r : RulesD) (p : PlaceD) (f : Int) (i : Nat) : List MoveD := (List.range i).flatMap fun t : Nat => kindsT r p f (t : Int) r.pieces.length
def fromsT (r : RulesD) (p : PlaceD) (m : Nat) : List MoveD := (List.range m).flatMap fun s : Nat => tosT r p ((s : Int) - 1) p.cells.length
theorem kindsT_succ (r : RulesD) (p : PlaceD) (f t : Int) (j : Nat) : kindsT r p f t (j + 1) = kindsT r p f t j ++ (if legalB r p (f, t, (j : Int)) = true then [(f, t, (j : Int))] else []) := by
  unfold kindsT
  rw [List.range_succ, List.map_append, List.filter_append, List.map_singleton, List.filter_cons]
  rfl
theorem tosT_succ (r : RulesD) (p : PlaceD) (f : Int) (i : Nat) : tosT r p f (i + 1) = tosT r p f i ++ kindsT r p f (i : Int) r.pieces.length := by
  unfold tosT
  rw [List.range_succ, List.flatMap_append]; simp
theorem fromsT_succ (r : RulesD) (p : PlaceD) (m : Nat) : fromsT r p (m + 1) = fromsT r p m ++ tosT r p ((m : Int) - 1) p.cells.length := by
  unfold fromsT
  rw [List.range_succ, List.flatMap_append]; simp
theorem kindsT_length (r : RulesD) (p : PlaceD) (f t : Int) (j : Nat) : (kindsT r p f t j).length ≤ j := by
  unfold kindsT
  refine Nat.le_trans (List.length_filter_le _ _) ?_
  simp
theorem tosT_length (r : RulesD) (p : PlaceD) (f : Int) (hl : r.pieces.length ≤ 6) : ∀ i, (tosT r p f i).length ≤ 6 * i
  | 0 => by simp [tosT]
  | i + 1 => by
    rw [tosT_succ, List.length_append]
    have h1 := tosT_length r p f hl i
    have h2 := kindsT_length r p f (i : Int) r.pieces.length
    omega
theorem fromsT_length (r : RulesD) (p : PlaceD) (hl : r.pieces.length ≤ 6) (hc : p.cells.length ≤ 64) : ∀ m, (fromsT r p m).length ≤ 384 * m
  | 0 => by simp [fromsT]
  | m + 1 => by
    rw [fromsT_succ, List.length_append]
    have h1 := fromsT_length r p hl hc m
    have h2 := tosT_length r p ((m : Int) - 1) hl p.cells.length
    omega
theorem kindsT_mem {r : RulesD} {p : PlaceD} {f t : Int} {j : Nat} {m : MoveD} : m ∈ kindsT r p f t j ↔ legalB r p m = true ∧ m.1 = f ∧ m.2.1 = t ∧ 0 ≤ m.2.2 ∧ m.2.2 < j := by
  unfold kindsT
  rw [List.mem_filter, List.mem_map]
  constructor
  · rintro ⟨⟨k, hk, rfl⟩, h⟩
    rw [List.mem_range] at hk
    exact ⟨h, rfl, rfl, by dsimp only; omega, by dsimp only; omega⟩
  · rintro ⟨h, h1, h2, h3, h4⟩
    refine ⟨⟨m.2.2.toNat, List.mem_range.2 (by omega), ?_⟩, h⟩
    obtain ⟨a, b, c⟩ := m
    dsimp only at h1 h2 h3 h4 ⊢
    rw [Int.toNat_of_nonneg h3, h1, h2]
theorem tosT_mem {r : RulesD} {p : PlaceD} {f : Int} {i : Nat} {m : MoveD} : m ∈ tosT r p f i ↔ legalB r p m = true ∧ m.1 = f ∧ (0 ≤ m.2.1 ∧ m.2.1 < i) ∧ 0 ≤ m.2.2 ∧ m.2.2 < r.pieces.length := by
  unfold tosT
  rw [List.mem_flatMap]
  constructor
  · rintro ⟨t, ht, h⟩
    rw [List.mem_range] at ht
    obtain ⟨h1, h2, h3, h4⟩ := kindsT_mem.1 h
    exact ⟨h1, h2, by omega, h4⟩
  · rintro ⟨h, h1, h2, h3⟩
    exact ⟨m.2.1.toNat, List.mem_range.2 (by omega), kindsT_mem.2 ⟨h, h1, by omega, h3⟩⟩
theorem fromsT_mem {r : RulesD} {p : PlaceD} {n : Nat} {m : MoveD} : m ∈ fromsT r p n ↔ legalB r p m = true ∧ (-1 ≤ m.1 ∧ m.1 < (n : Int) - 1) ∧ (0 ≤ m.2.1 ∧ m.2.1 < p.cells.length) ∧ 0 ≤ m.2.2 ∧ m.2.2 < r.pieces.length := by
  unfold fromsT
  rw [List.mem_flatMap]
  constructor
  · rintro ⟨s, hs, h⟩
    rw [List.mem_range] at hs
    obtain ⟨h1, h2, h3⟩ := tosT_mem.1 h
    exact ⟨h1, by omega, h3⟩
  · rintro ⟨h, h1, h2⟩
    exact ⟨(m.1 + 1).toNat, List.mem_range.2 (by omega), tosT_mem.2 ⟨h, by omega, h2⟩⟩
theorem kindsT_asc (r : RulesD) (p : PlaceD) (f t : Int) (j : Nat) : (kindsT r p f t j).Pairwise ltM := by
  unfold kindsT
  refine List.Pairwise.sublist List.filter_sublist ?_
  rw [List.pairwise_map]
  exact List.pairwise_lt_range.imp fun h => .inr ⟨rfl, .inr ⟨rfl, by dsimp only; omega⟩⟩
theorem tosT_asc (r : RulesD) (p : PlaceD) (f : Int) (i : Nat) : (tosT r p f i).Pairwise ltM := by
  unfold tosT
  rw [List.pairwise_flatMap]
  refine ⟨fun t _ => kindsT_asc r p f t _, List.pairwise_lt_range.imp fun {a b} hab => ?_⟩
  intro x hx y hy
  obtain ⟨_, h1, h2, _⟩ := kindsT_mem.1 hx
  obtain ⟨_, h3, h4, _⟩ := kindsT_mem.1 hy
  exact .inr ⟨by omega, .inl (by omega)⟩
theorem fromsT_asc (r : RulesD) (p : PlaceD) (m : Nat) : (fromsT r p m).Pairwise ltM := by
  unfold fromsT
  rw [List.pairwise_flatMap]
  refine ⟨fun s _ => tosT_asc r p _ _, List.pairwise_lt_range.imp fun {a b} hab => ?_⟩
  intro x hx y hy
  obtain ⟨_, h1, _⟩ := tosT_mem.1 hx
  obtain ⟨_, h3, _⟩ := tosT_mem.1 hy
  exact .inl (by omega)
theorem ltM_no {x y : MoveD} (h : ltM x y) (h2 : ltM y x) : False := by
  unfold ltM at h h2; omega
theorem asc_extM : ∀ {l k : List MoveD}, l.Pairwise ltM → k.Pairwise ltM → (∀ x, x ∈ l ↔ x ∈ k) → l = k
  | [], [], _, _, _ => rfl
  | [], y :: k, _, _, h => by have := (h y).2 (List.mem_cons_self ..); cases this
  | x :: l, [], _, _, h => by have := (h x).1 (List.mem_cons_self ..); cases this
  | x :: l, y :: k, h1, h2, h => by
    rw [List.pairwise_cons] at h1 h2
    have hxy : x = y := by
      rcases List.mem_cons.1 ((h x).1 (List.mem_cons_self ..)) with e | e
      · exact e
      · rcases List.mem_cons.1 ((h y).2 (List.mem_cons_self ..)) with e2 | e2
        · exact e2.symm
        · exact (ltM_no (h2.1 x e) (h1.1 y e2)).elim
    subst hxy
    rw [asc_extM h1.2 h2.2 fun z => ?_]
    constructor
    · intro hz
      rcases List.mem_cons.1 ((h z).1 (List.mem_cons_of_mem _ hz)) with e | e
      · subst e; exact (ltM_no (h1.1 z hz) (h1.1 z hz)).elim
      · exact e
    · intro hz
      rcases List.mem_cons.1 ((h z).2 (List.mem_cons_of_mem _ hz)) with e | e
      · subst e; exact (ltM_no (h2.1 z hz) (h2.1 z hz)).elim
      · exact e
/-- All triples that are legal are all moves, in their order. -/
theorem fromsT_all {r : RulesD} {p : PlaceD} (hk : POkay r p) : fromsT r p (p.cells.length + 1) = allD r p := by
  refine asc_extM (fromsT_asc r p _) (all_asc r p) fun m => ?_
  rw [fromsT_mem, ← legalB_all]
  constructor
  · exact fun h => h.1
  · intro h
    have ho := legal_ok hk h
    refine ⟨h, ?_, ⟨ho.t0, ho.t1⟩, ho.k0, ho.k1⟩
    rcases ho.src with ⟨h1, _⟩ | ⟨h1, h2⟩
    · have := (cells_len hk).1; omega
    · omega

/-! ### Moves -/
def MovesPost (ms : List MoveD) (w : World) (e : Ending) (w' : World) : Prop := ∃ a n c, e = .returned (.slice a n c) ∧ IsSl MoveAt 3 w' (.slice a n c) ms ∧ Below w.heap.size w w'
set_option maxHeartbeats 8000000 in
theorem refMoves_any (r : RulesD) (p : PlaceD) (vp vs ve vc v0 v1 : Value) (w : World) (hr : IsRules w r vp vs ve) (hp : PlaceIn w p vc v0 v1) (hk : POkay r p) :
    Calls Tryz.prog 27 #[RulesV r vp vs ve, PlaceV p vc v0 v1] w (MovesPost (allD r p) w) := by
  obtain ⟨i0, hi, hz0, hz1, hz2⟩ := info_parts infoMove
  obtain ⟨n, hn⟩ : ∃ n, n = p.cells.length := ⟨_, rfl⟩
  have hn64 := (cells_len hk).2
  obtain ⟨ca, cc, rfl, hcc, _⟩ := hp.c.shape hn
  obtain ⟨K, hK⟩ : ∃ K, K = r.pieces.length := ⟨_, rfl⟩
  have hK6 := (pieces_len hk.e).2
  obtain ⟨ap, cp, rfl, hcp, _⟩ := hr.1.shape hK
  obtain ⟨hB, hY, hX⟩ := rp_boxes w r p (.slice ap K cp) vs ve (.slice ca n cc) v0 v1
  obtain ⟨V, hV⟩ : ∃ V, V = (w.alloc (.cells (RulesCells r (.slice ap K cp) vs ve) 26)).alloc (.cells (PlaceCells p (.slice ca n cc) v0 v1) 29) := ⟨_, rfl⟩
  rw [← hV] at hB hY hX
  have HB := Lib.hid hB
  have HX : Hid (∀ W, Below V.heap.size V W → BoxP W (w.heap.size + 1) p (.slice ca n cc) v0 v1) := Lib.hid (fun W hb => hX.below hb (Nat.le_refl _))
  have HY : Hid (∀ W, Below V.heap.size V W → BoxR W w.heap.size r (.slice ap K cp) vs ve) := Lib.hid (fun W hb => hY.below hb (Nat.le_refl _))
  have HAL : Hid (∀ m W, Below V.heap.size V W → Calls Tryz.prog 44 #[RulesV r (.slice ap K cp) vs ve, PlaceV p (.slice ca n cc) v0 v1, moveV m] W (BelPost (.bool (legalB r p m)) W)) := Lib.hid (fun m W hb =>
    allowed_any r p _ vs ve _ v0 v1 m W ((hr.below hB (Nat.le_refl _)).below hb (Nat.le_refl _)) ((hp.below hB (Nat.le_refl _)).below hb (Nat.le_refl _)) hk)
  have HFS : Hid (∀ m, fromsT r p (m + 1) = fromsT r p m ++ tosT r p ((m : Int) - 1) n) := Lib.hid (fun m => by rw [hn]; exact fromsT_succ r p m)
  have HTS : Hid (∀ f i, tosT r p f (i + 1) = tosT r p f i ++ kindsT r p f (i : Int) K) := Lib.hid (fun f i => by rw [hK]; exact tosT_succ r p f i)
  have HKS := Lib.hid (kindsT_succ r p)
  have HFL : Hid (∀ m, (fromsT r p m).length ≤ 384 * m) := Lib.hid (fun m => fromsT_length r p hK6 hn64 m)
  have HTL : Hid (∀ f i, (tosT r p f i).length ≤ 6 * i) := Lib.hid (fun f i => tosT_length r p f hK6 i)
  have HKL := Lib.hid (kindsT_length r p)
  have HALL : Hid (fromsT r p (n + 1) = allD r p) := Lib.hid (by rw [hn]; exact fromsT_all hk)
  rw [← hn] at hn64
  rw [← hK] at hK6
  unfold RulesCells PlaceCells at hV
  unfold RulesV PlaceV PlaceCells at HAL
  unfold RulesV PlaceV PlaceCells
  unfold moveV at HAL
  clear hr hp hk hB hn hK hX hY
  go_enter Tryz.func27, Tryz.ntmps27
  go_wp2
  rw [← hV]
  clear hV
  go_loopw [5, 6, 7, 8, 9] (fun l v _ _ _ wr => ∃ m : Nat, m ≤ n + 1 ∧ v = .int .i64 ((m : Int) - 1) ∧ wr.ownsRow V.heap.size 37 3 l (fromsT r p m).length (mcs (fromsT r p m)) ∧ Hid (Below V.heap.size V wr)) (fun _ v _ _ _ _ => n + 1 - (intOf v + 1).toNat)
  case atStart => exact ⟨0, by omega, rfl, World.ownsRow_nil _ _ _ _, Lib.hid (Below.refl _ _)⟩
  case round =>
    obtain ⟨m, hmn, rfl, hown, hbel⟩ := hrel
    obtain ⟨la, lc, rfl⟩ := owns_form hown
    obtain ⟨x0, x1, x2, x3, x4⟩ := HX.out wr hbel.out
    by_cases hlt : m < n + 1
    · have hd : decide ((m : Int) - 1 < (n : Int)) = true := by simp; omega
      have HO := Lib.hid hown
      have hml := HFL.out m
      obtain ⟨f, hf⟩ : ∃ f, f = (m : Int) - 1 := ⟨_, rfl⟩
      have HF := Lib.hid hf
      have hf0 : -1 ≤ f := by omega
      have hf1 : f ≤ 63 := by omega
      have HFM : Hid (fromsT r p (m + 1) = fromsT r p m ++ tosT r p f n) := Lib.hid (by rw [HFS.out, hf])
      obtain ⟨L0, hL0⟩ : ∃ L0, L0 = fromsT r p m := ⟨_, rfl⟩
      rw [← hL0] at HO hml HFM ⊢
      rw [← hf] at hd ⊢
      clear hown hf hL0
      go_wp2
      clear x0 x1 x2 x3 x4
      go_loopw [5, 7, 8, 9, 20] (fun l _ _ _ i wx => ∃ t : Nat, t ≤ n ∧ i = .int .i64 (t : Int) ∧ wx.ownsRow V.heap.size 37 3 l (L0 ++ tosT r p f t).length (mcs (L0 ++ tosT r p f t)) ∧ Hid (Below V.heap.size V wx)) (fun _ _ _ _ i _ => n - (intOf i).toNat)
      case atStart => exact ⟨0, by omega, rfl, by simpa [tosT] using HO.out, hbel⟩
      case round =>
        clear hbel HO
        obtain ⟨t, htn, rfl, hown, hbel⟩ := hrel
        obtain ⟨lb, lbc, rfl⟩ := owns_form hown
        by_cases hlt2 : t < n
        · obtain ⟨_, _, _, y3, _⟩ := HY.out wr hbel.out
          have HO := Lib.hid hown
          have htl := HTL.out f t
          have HFM2 : Hid (tosT r p f (t + 1) = tosT r p f t ++ kindsT r p f (t : Int) K) := Lib.hid (HTS.out f t)
          obtain ⟨L1, hL1⟩ : ∃ L1, L1 = tosT r p f t := ⟨_, rfl⟩
          rw [← hL1] at HO htl HFM2 ⊢
          clear hown hL1
          go_wp2
          clear y3
          go_loopw [5, 8, 9, 26] (fun l _ _ i wx => ∃ k : Nat, k ≤ K ∧ i = .int .i64 (k : Int) ∧ wx.ownsRow V.heap.size 37 3 l (L0 ++ L1 ++ kindsT r p f (t : Int) k).length (mcs (L0 ++ L1 ++ kindsT r p f (t : Int) k)) ∧ Hid (Below V.heap.size V wx)) (fun _ _ _ i _ => K - (intOf i).toNat)
          case atStart => exact ⟨0, by omega, rfl, by simpa [kindsT] using HO.out, hbel⟩
          case round =>
            clear hbel HO
            obtain ⟨k, hkK, rfl, hown, hbel⟩ := hrel
            obtain ⟨lk, lkc, rfl⟩ := owns_form hown
            by_cases hlt3 : k < K
            · have hbW : Below V.heap.size V (wr.alloc (.cells #[.int .i64 f, .int .i64 (t : Int), .int .i64 (k : Int)] 37)) := hbel.out.alloc hbel.out.size _
              have hlk := HKL.out f (t : Int) k
              have HKS1 := Lib.hid (HKS.out f (t : Int) k)
              have HCA := Lib.hid (HAL.out (f, (t : Int), (k : Int)) _ hbW)
              have HO := Lib.hid (owns_below hown ((Below.refl wr.heap.size wr).alloc (Nat.le_refl _) (.cells #[.int .i64 f, .int .i64 (t : Int), .int .i64 (k : Int)] 37)))
              have HNB := Lib.hid (cell_new3 wr f (t : Int) (k : Int) 37)
              have hbx : MoveAt (wr.alloc (.cells #[.int .i64 f, .int .i64 (t : Int), .int .i64 (k : Int)] 37)) wr.heap.size 0 (f, (t : Int), (k : Int)) := by
                refine ⟨?_, ?_, ?_⟩ <;> (rw [World.cell?_alloc_at (hn := rfl)]; rfl)
              have HBX := Lib.hid hbx
              have HBW := Lib.hid hbW
              have hlen : (L0 ++ L1 ++ kindsT r p f (t : Int) k).length ≤ 384 * m + 6 * t + k := by rw [List.length_append, List.length_append]; omega
              obtain ⟨b, hb⟩ : ∃ b, b = legalB r p (f, (t : Int), (k : Int)) := ⟨_, rfl⟩
              rw [← hb] at HCA HKS1
              have HKP : Hid (L0 ++ L1 ++ kindsT r p f (t : Int) (k + 1) = (L0 ++ L1 ++ kindsT r p f (t : Int) k) ++ (if b = true then [(f, (t : Int), (k : Int))] else [])) := Lib.hid (by rw [HKS1.out, ← List.append_assoc])
              generalize L0 ++ L1 ++ kindsT r p f (t : Int) k = pre at HO hlen HKP
              obtain ⟨u0, u1, u2, u3, u4⟩ := HX.out _ hbW
              obtain ⟨v0', v1', v2', v3', v4', v5', v6', v7', v8', v9', v10'⟩ := HY.out _ hbW
              obtain ⟨b0, b1, b2⟩ := hbx.parts
              clear hb hown hbel hbW hbx
              dsimp only at b0 b1 b2
              go_wp2_with fail
              go_at_call 44; refine HCA.out.mono ?_; rintro e w2 ⟨rfl, hb2⟩
              have HB2 : Hid (Below V.heap.size V w2) := Lib.hid (HBW.out.trans (hb2.mono HBW.out.size))
              have hown2 := owns_below HO.out hb2
              have HO2 := Lib.hid hown2
              obtain ⟨d0, d1, d2⟩ := (show MoveAt w2 wr.heap.size 0 (f, (t : Int), (k : Int)) from move_keeps _ _ _ _ _ _ hb2 (Nat.le_refl _) HBX.out).parts
              dsimp only at d0 d1 d2
              clear hb2 HO HBW HBX HCA HNB HAL HX HY b0 b1 b2 u0 u1 u2 u3 u4 v0' v1' v2' v3' v4' v5' v6' v7' v8' v9' v10'
              cases b
              · have KP : Hid (L0 ++ L1 ++ kindsT r p f (t : Int) (k + 1) = pre) := Lib.hid (by rw [HKP.out]; simp)
                clear hown2
                go_wp2
                go_roundw
                case rel => exact ⟨k + 1, by omega, by go_num, by rw [KP.out]; exact HO2.out, HB2⟩
                case measure => simp [intOf]; omega
              · have KP : Hid (L0 ++ L1 ++ kindsT r p f (t : Int) (k + 1) = pre ++ [(f, (t : Int), (k : Int))]) := Lib.hid (by rw [HKP.out]; simp)
                have KL : Hid ((pre ++ [(f, (t : Int), (k : Int))]).length = pre.length + 1) := Lib.hid (by simp)
                have KM : Hid (mcs (pre ++ [(f, (t : Int), (k : Int))]) = mcs pre ++ mc (f, (t : Int), (k : Int))) := Lib.hid (by rw [mcs_append, mcs_one])
                go_wp2_with (at_builtin; refine wpList_append_own _ rfl _ _ 53 rfl V.heap.size 37 i0 (.agg #[.int .i64 0, .int .i64 0, .int .i64 0]) 3 24 Tryz.underlying53 hi hz0 hz1 hz2 rfl (by decide) _ _ _ rfl (hown2.alloc _) ⟨w2.heap.size, 0, none⟩ 1 1 (mc (f, (t : Int), (k : Int))) rfl rfl (cell_new3 _ _ _ _ _) (fun u hu => mcs_one_cell [(f, (t : Int), (k : Int))] u (by rw [mcs_one]; exact hu)) (by unfold maxLen; omega) (by omega) (by have := HB2.out.size; simp; omega) ?_)
                intro v' w3 hown' hgrow _
                have hg' : (w2.alloc (.cells #[.int .i64 f, .int .i64 (t : Int), .int .i64 (k : Int)] 37)).grownBy w3 (Value.slice lk pre.length lkc).ownBlock := hgrow
                have HB3 : Hid (Below V.heap.size V w3) := Lib.hid ((HB2.out.alloc HB2.out.size _).grown hg' (by have := HB2.out.size; simp; omega) (fun k e => (hown2.lt k e).1))
                rw [← KM.out, ← KL.out] at hown'
                have HO3 := Lib.hid hown'
                clear hgrow hg' hown2 hown' HB2 HO2 d0 d1 d2
                go_wp2
                go_roundw
                case rel => exact ⟨k + 1, by omega, by go_num, by rw [KP.out]; exact HO3.out, HB3⟩
                case measure => simp [intOf]; omega
            · obtain rfl : k = K := by omega
              have HO := Lib.hid hown
              clear hown HAL HX HY
              go_wp2
              go_roundw
              case rel => exact ⟨t + 1, by omega, by go_num, by rw [HFM2.out, ← List.append_assoc]; exact HO.out, hbel⟩
              case measure => simp [intOf]; omega
        · obtain rfl : t = n := by omega
          have HO := Lib.hid hown
          clear hown HAL HX HY
          go_wp2
          go_roundw
          case rel => exact ⟨m + 1, by omega, by rw [show (((m + 1 : Nat) : Int) - 1) = f + 1 by have := HF.out; omega], by rw [HFM.out]; exact HO.out, hbel⟩
          case measure => have h9 := HF.out; simp [intOf]; omega
    · obtain rfl : m = n + 1 := by omega
      have HBE : Hid (Below w.heap.size w wr) := Lib.hid (HB.out.trans (hbel.out.mono HB.out.size))
      have HO := Lib.hid hown
      have hd : decide (((n + 1 : Nat) : Int) - 1 < (n : Int)) = false := by simp
      clear hown hbel HAL HX HY
      go_wp2
      go_ret
      exact ⟨_, _, _, rfl, by rw [← HALL.out]; exact moves_of_owns HO.out, HBE.out⟩
end Go.Proofs.YtdhhdkbnlddnbaaGreatDoor
