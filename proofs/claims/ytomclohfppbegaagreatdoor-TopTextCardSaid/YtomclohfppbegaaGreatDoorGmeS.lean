/- A game, as the statements see it; Run. -/
import Derived.Test.YtomclohfppbegaaGreatDoorGmeM
set_option maxRecDepth 100000
namespace Go.Proofs.YtomclohfppbegaaGreatDoor
open Go.ChangeShapes Go.WideShapes Go.ChangeAt Go.RowKit

/-- A game at bb that these moves have made, all of whose own blocks are younger than the world w. -/
def GAt (w : World) (W1 : Nat → Prop) (W : World) (bb : Nat) (r : RulesD) (q : PlaceD) (es : List PlaceD) (ms : List MoveD) : Prop := (∃ D, Gme W1 D W bb r q es ms ∧ ∀ k, D k → w.heap.size ≤ k) ∧ Below w.heap.size w W ∧ Chain r q es ms
theorem GAt.keep {w W W' : World} {W1 : Nat → Prop} {bb : Nat} {r : RulesD} {q : PlaceD} {es : List PlaceD} {ms : List MoveD} (h : GAt w W1 W bb r q es ms) (hb : Below W.heap.size W W') : GAt w W1 W' bb r q es ms := by
  obtain ⟨⟨D, h1, h2⟩, h3, h4⟩ := h
  exact ⟨⟨D, h1.keep hb, h2⟩, h3.trans (hb.mono h3.size), h4⟩
theorem GAt.bel {w W : World} {W1 : Nat → Prop} {bb : Nat} {r : RulesD} {q : PlaceD} {es : List PlaceD} {ms : List MoveD} (h : GAt w W1 W bb r q es ms) : Below w.heap.size w W := h.2.1
theorem GAt.chain {w W : World} {W1 : Nat → Prop} {bb : Nat} {r : RulesD} {q : PlaceD} {es : List PlaceD} {ms : List MoveD} (h : GAt w W1 W bb r q es ms) : Chain r q es ms := h.2.2
theorem GAt.len {w W : World} {W1 : Nat → Prop} {bb : Nat} {r : RulesD} {q : PlaceD} {es : List PlaceD} {ms : List MoveD} (h : GAt w W1 W bb r q es ms) : es.length = ms.length := h.2.2.len
theorem GAt.ok {w W : World} {W1 : Nat → Prop} {bb : Nat} {r : RulesD} {q : PlaceD} {es : List PlaceD} {ms : List MoveD} (h : GAt w W1 W bb r q es ms) : POkay r q := by
  obtain ⟨⟨D, h1, _⟩, _⟩ := h
  exact h1.ok.1
def NewG (r : RulesD) (w : World) (e : Ending) (w' : World) : Prop := ∃ bb W1, e = .returned (.tuple #[.pointer (some ⟨bb, 0, none⟩), .int .i64 0]) ∧ GAt w W1 w' bb r (beginD r) [] []
theorem newG (r : RulesD) (vp vs ve : Value) (w : World) (hr : RulesIn w r vp vs ve) (hz : rulesE r = 0) (hT : Dir w) :
    Calls Tryz.prog 9 #[RulesV r vp vs ve] w (NewG r w) :=
  (gnew_ok (fun _ => True) r vp vs ve w hr hz hT (fun _ _ => trivial) (hr.1.1.mono fun _ _ _ hx => pieceIn_of hx (fun _ _ => trivial)) trivial).mono fun _ _ ⟨bb, h1, h2, h3⟩ => ⟨bb, _, h1, ⟨_, h2, fun _ hk => hk.1⟩, h3, Chain.zero r⟩
def StepG (v : Int) (w : World) (W1 : Nat → Prop) (bb : Nat) (r : RulesD) (q : PlaceD) (es : List PlaceD) (ms : List MoveD) (e : Ending) (w' : World) : Prop := e = .returned (.int .i64 v) ∧ GAt w W1 w' bb r q es ms
theorem GAt.position {w W : World} {W1 : Nat → Prop} {bb : Nat} {r : RulesD} {q : PlaceD} {es : List PlaceD} {ms : List MoveD} (h : GAt w W1 W bb r q es ms) : Calls Tryz.prog 11 #[.pointer (some ⟨bb, 0, none⟩)] W (PosPost q W) := by
  obtain ⟨⟨D, h1, _⟩, _⟩ := h
  exact gposition_any h1
theorem GAt.count {w W : World} {W1 : Nat → Prop} {bb : Nat} {r : RulesD} {q : PlaceD} {es : List PlaceD} {ms : List MoveD} (h : GAt w W1 W bb r q es ms) (hl : ms.length ≤ 100) : Calls Tryz.prog 39 #[.pointer (some ⟨bb, 0, none⟩)] W (BelPost (.int .i64 (countG q es : Int)) W) := by
  have hle := h.len
  obtain ⟨⟨D, h1, _⟩, _⟩ := h
  exact gcount_any h1 (by omega)
theorem GAt.result {w W : World} {W1 : Nat → Prop} {bb : Nat} {r : RulesD} {q : PlaceD} {es : List PlaceD} {ms : List MoveD} (h : GAt w W1 W bb r q es ms) (hl : ms.length ≤ 100) : Calls Tryz.prog 13 #[.pointer (some ⟨bb, 0, none⟩)] W (BelPost (.int .i64 (resG r q es)) W) := by
  have hle := h.len
  obtain ⟨⟨D, h1, _⟩, _⟩ := h
  exact gresult h1 (by omega)
theorem GAt.over {w W : World} {W1 : Nat → Prop} {bb : Nat} {r : RulesD} {q : PlaceD} {es : List PlaceD} {ms : List MoveD} (h : GAt w W1 W bb r q es ms) (hl : ms.length ≤ 100) (hx : resG r q es ≠ 0) (m : MoveD) : Calls Tryz.prog 15 #[.pointer (some ⟨bb, 0, none⟩), moveV m] W (BelPost (.int .i64 14) W) := by
  have hle := h.len
  obtain ⟨⟨D, h1, _⟩, _⟩ := h
  exact gplay_over h1 (by omega) hx m
theorem GAt.bad {w W : World} {W1 : Nat → Prop} {bb : Nat} {r : RulesD} {q : PlaceD} {es : List PlaceD} {ms : List MoveD} (h : GAt w W1 W bb r q es ms) (hl : ms.length ≤ 100) (hx : resG r q es = 0) (m : MoveD) (hm : legalB r q m = false) : Calls Tryz.prog 15 #[.pointer (some ⟨bb, 0, none⟩), moveV m] W (BelPost (.int .i64 13) W) := by
  have hle := h.len
  obtain ⟨⟨D, h1, _⟩, _⟩ := h
  exact gplay_bad h1 (by omega) hx m hm
theorem GAt.play {w W : World} {W1 : Nat → Prop} {bb : Nat} {r : RulesD} {q : PlaceD} {es : List PlaceD} {ms : List MoveD} (h : GAt w W1 W bb r q es ms) (hl : ms.length ≤ 100) (hx : resG r q es = 0) (m : MoveD) (hm : legalB r q m = true) : Calls Tryz.prog 15 #[.pointer (some ⟨bb, 0, none⟩), moveV m] W (StepG 0 w W1 bb r (afterD r q m) (es ++ [q]) (ms ++ [m])) := by
  have hle := h.len
  obtain ⟨⟨D, h1, h5⟩, h2, h3⟩ := h
  refine (gplay_ok h1 (by omega) hx m hm hle).mono ?_
  rintro e w' ⟨rfl, h4, h6⟩
  refine ⟨rfl, ⟨_, h4, fun k hk => ?_⟩, h2.trans (h6.below h2.size h5), h3.snoc hx hm⟩
  rcases hk with hk | hk
  · exact h5 k hk
  · have := h2.size; omega
theorem errG_drop {ms : List MoveD} {k : Nat} {m : MoveD} (hm : ms[k]? = some m) : ms.drop k = m :: ms.drop (k + 1) := by
  have hk := (List.getElem?_eq_some_iff.1 hm).1
  rw [List.drop_eq_getElem_cons hk]
  congr 1
  exact (List.getElem?_eq_some_iff.1 hm).2

/-! ### Run -/
def RunOk (q : PlaceD) (x : Int) (w : World) (e : Ending) (w' : World) : Prop :=
  ∃ ca cn cc a0 n0 c0 a1 n1 c1, e = .returned (.tuple #[.agg #[.slice ca cn cc, .slice a0 n0 c0, .slice a1 n1 c1, .int .i64 q.turn, .int .i64 q.quiet], .int .i64 x, .int .i64 0]) ∧ PlaceF (fun k => w.heap.size ≤ k) w' q (.slice ca cn cc) (.slice a0 n0 c0) (.slice a1 n1 c1) ∧ Below w.heap.size w w'
def RunBad (c : Int) (w : World) (e : Ending) (w' : World) : Prop := e = .returned (.tuple #[.agg #[.slice none 0 0, .slice none 0 0, .slice none 0 0, .int .i64 0, .int .i64 0], .int .i64 0, .int .i64 c]) ∧ Below w.heap.size w w'
/-- Run, of rules that are right. -/
def RunPost (r : RulesD) (ms : List MoveD) (w : World) (e : Ending) (w' : World) : Prop := (errG r (beginD r, []) ms = 0 ∧ ∃ q es, Chain r q es ms ∧ RunOk q (resG r q es) w e w') ∨ (errG r (beginD r, []) ms ≠ 0 ∧ RunBad (errG r (beginD r, []) ms) w e w')
theorem results_row_tmp2 {P : Program} {fn : Func} {p u v : Tmp} {ty : TypeId} (h : fn.results = #[.cell p ty, .tmp u, .tmp v]) (tmps : Array Value) (w : World) (g : Nat) (t : TypeId) (cs : Array Value) (fr : Nat × Nat) (d : TypeDesc)
    (hp : tmps.getD p undef = .pointer (some ⟨g, 0, none⟩)) (hg : w.heap[g]? = some (.cells cs t fr))
    (hu : P.underlying ty = some d) (hd : (match d with | .struct _ | .array _ _ => true | _ => false) = true) (hi : (P.info? ty).map (·.size) = some cs.size) :
    (results fn tmps).run P w = .ok (.tuple #[.agg cs, tmps.getD u undef, tmps.getD v undef]) w := by
  have e : (results fn tmps).run P w = ((asAddr (tmps.getD p undef)).run P w).andThen fun a w₁ => ((loadVar ty a).run P w₁).andThen fun v' w₂ => .ok (.tuple #[v', tmps.getD u undef, tmps.getD v undef]) w₂ := by
    simp only [results, h]
    simp [Sem.run_bind, Result.andThen]
  rw [e, hp]
  simp [asAddr, run_loadVar_row w g t ty cs fr d hg hu hd hi, Result.andThen]
set_option maxHeartbeats 4000000 in
theorem run_bad (r : RulesD) (vp vs ve lv : Value) (w : World) (hr : RulesIn w r vp vs ve) (hz : rulesE r ≠ 0) :
    Calls Tryz.prog 29 #[RulesV r vp vs ve, lv] w (RunBad (rulesE r) w) := by
  have hB : Below w.heap.size w ((w.alloc (.cells (RulesCells r vp vs ve) 26)).alloc (.cells (PlaceCells zeroP (.slice none 0 0) (.slice none 0 0) (.slice none 0 0)) 43)) := ((Below.refl _ _).alloc (Nat.le_refl _) _).alloc (by simp) _
  have HB := Lib.hid hB
  have hZ := PBox.new (w.alloc (.cells (RulesCells r vp vs ve) 26)) 43 zeroP (.slice none 0 0) (.slice none 0 0) (.slice none 0 0)
  have e2 : (w.alloc (.cells (RulesCells r vp vs ve) 26)).heap.size = w.heap.size + 1 := by simp
  rw [e2] at hZ
  have HZ := Lib.hid hZ
  have HN := Lib.hid (gnew_bad r vp vs ve _ (hr.below hB (Nat.le_refl _)) hz)
  obtain ⟨c, hc⟩ : ∃ c, c = rulesE r := ⟨_, rfl⟩
  rw [← hc] at hz HN ⊢
  have hne : (c != 0) = true := by simpa using hz
  obtain ⟨U, hU⟩ : ∃ U, U = (w.alloc (.cells (RulesCells r vp vs ve) 26)).alloc (.cells (PlaceCells zeroP (.slice none 0 0) (.slice none 0 0) (.slice none 0 0)) 43) := ⟨_, rfl⟩
  rw [← hU] at HB HZ HN
  have hY0 := RBox.alloc (RBox.new w 26 r vp vs ve) (.cells (PlaceCells zeroP (.slice none 0 0) (.slice none 0 0) (.slice none 0 0)) 43)
  rw [← hU] at hY0
  obtain ⟨⟨y0, y1, y2, y3, y4, y5, y6, y7, y8, y9, y10⟩, -⟩ := hY0.facts
  unfold RulesCells PlaceCells zeroP at hU
  unfold RulesV at HN ⊢
  rw [hU] at y0 y1 y2 y3 y4 y5 y6 y7 y8 y9 y10
  clear hr hz hc hB hZ e2 hY0
  go_enter Tryz.func29, Tryz.ntmps29
  go_wp2_with fail
  rw [← hU]
  clear hU y0 y1 y2 y3 y4 y5 y6 y7 y8 y9 y10
  go_at_call 9; refine HN.out.mono ?_; rintro e w1 ⟨rfl, hb⟩
  have HB1 := Lib.hid (HB.out.trans (hb.mono HB.out.size))
  have hz1 := HZ.out.below hb HZ.out.lt
  have HZ1 := Lib.hid hz1
  obtain ⟨⟨x0, x1, x2, x3, x4⟩, f0, f1, f2, f3, f4⟩ := hz1.facts
  clear hb HB HZ hz1 HN
  go_wp2_with fail
  have HR2 := pbox_fill (p := zeroP) (vc := .slice none 0 0) (v0 := .slice none 0 0) (v1 := .slice none 0 0) HZ1.out
  refine bodyPost_ret (results_row_tmp2 rfl _ _ (w.heap.size + 1) 43 _ (0, 0) _ rfl HR2 Tryz.underlying43 rfl (by kernel_rfl)) rfl ?_
  exact ⟨rfl, fillP_below HB1.out (by omega) zeroP _ _ _⟩
set_option maxHeartbeats 8000000 in
theorem run_any (r : RulesD) (ms : List MoveD) (vp vs ve lv : Value) (w : World) (hr : RulesIn w r vp vs ve) (hz : rulesE r = 0) (hT : Dir w) (hI : IsSl MoveAt 3 w lv ms) (hl : ms.length ≤ 90) :
    Calls Tryz.prog 29 #[RulesV r vp vs ve, lv] w (RunPost r ms w) := by
  have hB : Below w.heap.size w ((w.alloc (.cells (RulesCells r vp vs ve) 26)).alloc (.cells (PlaceCells zeroP (.slice none 0 0) (.slice none 0 0) (.slice none 0 0)) 43)) := ((Below.refl _ _).alloc (Nat.le_refl _) _).alloc (by simp) _
  have HB := Lib.hid hB
  have hZ := PBox.new (w.alloc (.cells (RulesCells r vp vs ve) 26)) 43 zeroP (.slice none 0 0) (.slice none 0 0) (.slice none 0 0)
  have e2 : (w.alloc (.cells (RulesCells r vp vs ve) 26)).heap.size = w.heap.size + 1 := by simp
  rw [e2] at hZ
  have HZ := Lib.hid hZ
  have HN := Lib.hid (newG r vp vs ve _ (hr.below hB (Nat.le_refl _)) hz (hT.below hB (Nat.le_refl _)))
  obtain ⟨n, hn⟩ : ∃ n, n = ms.length := ⟨_, rfl⟩
  obtain ⟨la, lc, rfl, hlc, hls⟩ := hI.shape hn
  have HLS : Hid (∀ W, Below w.heap.size w W → ∀ k, k < n → ∃ g o m1 m2 m3, la = some ⟨g, o, none⟩ ∧ ms[k]? = some (m1, m2, m3) ∧ W.cell? ⟨g, o + k * 3, none⟩ = some (.int .i64 m1) ∧ W.cell? ⟨g, o + k * 3 + 1, none⟩ = some (.int .i64 m2) ∧ W.cell? ⟨g, o + k * 3 + 2, none⟩ = some (.int .i64 m3)) := Lib.hid (fun W h k hk => by
    obtain ⟨g, o, ⟨m1, m2, m3⟩, i1, i2, i3⟩ := hls k hk
    obtain ⟨c0, c1, c2⟩ := move_keeps _ _ _ _ _ _ h (Nat.le_refl _) i3
    exact ⟨g, o, m1, m2, m3, i1, i2, c0, c1, c2⟩)
  obtain ⟨E, hE⟩ : ∃ E, E = errG r (beginD r, []) ms := ⟨_, rfl⟩
  have HE := Lib.hid hE
  have HLN := Lib.hid hn
  have hn90 : n ≤ 90 := by omega
  obtain ⟨U, hU⟩ : ∃ U, U = (w.alloc (.cells (RulesCells r vp vs ve) 26)).alloc (.cells (PlaceCells zeroP (.slice none 0 0) (.slice none 0 0) (.slice none 0 0)) 43) := ⟨_, rfl⟩
  rw [← hU] at HB HZ HN
  have hY0 := RBox.alloc (RBox.new w 26 r vp vs ve) (.cells (PlaceCells zeroP (.slice none 0 0) (.slice none 0 0) (.slice none 0 0)) 43)
  rw [← hU] at hY0
  obtain ⟨⟨y0, y1, y2, y3, y4, y5, y6, y7, y8, y9, y10⟩, -⟩ := hY0.facts
  unfold RulesCells PlaceCells zeroP at hU
  unfold RulesV at HN ⊢
  rw [hU] at y0 y1 y2 y3 y4 y5 y6 y7 y8 y9 y10
  clear hr hz hT hI hB hZ e2 hY0 hls hn hl hE
  go_enter Tryz.func29, Tryz.ntmps29
  go_wp2_with fail
  rw [← hU]
  clear hU y0 y1 y2 y3 y4 y5 y6 y7 y8 y9 y10
  go_at_call 9; refine HN.out.mono ?_; rintro e w1 ⟨bb, W1, rfl, hga⟩
  have HA1 := Lib.hid hga
  clear hga HN
  go_wp2_with fail
  go_loopw [10, 11, 23] (fun _ _ i wr => ∃ (k : Nat) (q : PlaceD) (es : List PlaceD), k ≤ n ∧ i = .int .i64 (k : Int) ∧ Hid (GAt U W1 wr bb r q es (ms.take k)) ∧ Hid (E = errG r (q, es) (ms.drop k))) (fun _ _ i _ => n - (intOf i).toNat)
  case atStart => exact ⟨0, beginD r, [], by omega, rfl, HA1, HE⟩
  case round =>
    clear HA1
    obtain ⟨k, q, es, hk, rfl, hA, hEE⟩ := hrel
    have HBR := Lib.hid (HB.out.trans (hA.out.bel.mono HB.out.size))
    have HLK : Hid ((ms.take k).length ≤ 100) := Lib.hid (by rw [List.length_take]; omega)
    have HZR := Lib.hid (HZ.out.below hA.out.bel HZ.out.lt)
    by_cases hlt : k < n
    · obtain ⟨g, o, m1, m2, m3, rfl, hm, c0, c1, c2⟩ := HLS.out wr HBR.out k hlt
      have hdr := errG_drop hm
      have hal := (Below.refl wr.heap.size wr).alloc (Nat.le_refl _) (.cells #[.int .i64 m1, .int .i64 m2, .int .i64 m3] 47)
      have HA2 := Lib.hid (hA.out.keep hal)
      have HZ2 := Lib.hid (HZR.out.below hal HZR.out.lt)
      have HB2 := Lib.hid (HBR.out.trans (hal.mono HBR.out.size))
      have hmb := heap_alloc_new wr (.cells #[.int .i64 m1, .int .i64 m2, .int .i64 m3] 47)
      have HTK : Hid (ms.take (k + 1) = ms.take k ++ [(m1, m2, m3)]) := Lib.hid (by rw [List.take_add_one, hm]; rfl)
      have hEq : E = errG r (q, es) ((m1, m2, m3) :: ms.drop (k + 1)) := by rw [← hdr]; exact hEE.out
      clear hal hdr hm hA hEE HBR HZR
      by_cases hx : resG r q es = 0
      · cases hl : legalB r q (m1, m2, m3)
        · have HP := Lib.hid (HA2.out.bad HLK.out hx (m1, m2, m3) hl)
          have HE13 : Hid (E = 13) := Lib.hid (by rw [hEq, errG, if_neg (by simpa using hx), if_neg (by rw [hl]; simp)])
          unfold moveV at HP
          clear hEq hx hl HA2 HTK
          have hmc : ∀ i, (wr.alloc (.cells #[.int .i64 m1, .int .i64 m2, .int .i64 m3] 47)).cell? ⟨wr.heap.size, i, none⟩ = (#[.int .i64 m1, .int .i64 m2, .int .i64 m3] : Array Value)[i]? := fun i => cell_of_row _ _ i _ _ (0, 0) hmb
          have d0 := hmc 0
          have d1 := hmc 1
          have d2 := hmc 2
          clear hmc hmb
          go_wp2_with fail
          generalize wr.alloc (.cells #[.int .i64 m1, .int .i64 m2, .int .i64 m3] 47) = w2 at HP HZ2 HB2 d0 d1 d2 ⊢
          go_at_call 15; refine HP.out.mono ?_; rintro e w3 ⟨rfl, hb⟩
          have hz1 := HZ2.out.below hb HZ2.out.lt
          have HZ1 := Lib.hid hz1
          have HB3 := Lib.hid (HB2.out.trans (hb.mono HB2.out.size))
          obtain ⟨⟨x0, x1, x2, x3, x4⟩, f0, f1, f2, f3, f4⟩ := hz1.facts
          clear hb hz1 HP d0 d1 d2 c0 c1 c2 HZ2 HB2
          unfold zeroP at x3 x4
          go_wp2_with fail
          have HR2 := pbox_fill (p := zeroP) (vc := .slice none 0 0) (v0 := .slice none 0 0) (v1 := .slice none 0 0) HZ1.out
          refine bodyPost_ret (results_row_tmp2 rfl _ _ (w.heap.size + 1) 43 _ (0, 0) _ rfl HR2 Tryz.underlying43 rfl (by kernel_rfl)) rfl ?_
          refine .inr ⟨by rw [← HE.out, HE13.out]; decide, ?_⟩
          rw [← HE.out, HE13.out]
          exact ⟨rfl, fillP_below HB3.out (by omega) zeroP _ _ _⟩
        · have HP := Lib.hid (HA2.out.play HLK.out hx (m1, m2, m3) hl)
          have HEN : Hid (E = errG r (afterD r q (m1, m2, m3), es ++ [q]) (ms.drop (k + 1))) := Lib.hid (by rw [hEq, errG, if_neg (by simpa using hx), if_pos hl])
          rw [← HTK.out] at HP
          obtain ⟨q', hq'⟩ : ∃ q', q' = afterD r q (m1, m2, m3) := ⟨_, rfl⟩
          rw [← hq'] at HP HEN
          unfold moveV at HP
          clear hEq hx hl HA2 HTK hq'
          have hmc : ∀ i, (wr.alloc (.cells #[.int .i64 m1, .int .i64 m2, .int .i64 m3] 47)).cell? ⟨wr.heap.size, i, none⟩ = (#[.int .i64 m1, .int .i64 m2, .int .i64 m3] : Array Value)[i]? := fun i => cell_of_row _ _ i _ _ (0, 0) hmb
          have d0 := hmc 0
          have d1 := hmc 1
          have d2 := hmc 2
          clear hmc hmb
          go_wp2_with fail
          generalize wr.alloc (.cells #[.int .i64 m1, .int .i64 m2, .int .i64 m3] 47) = w2 at HP HZ2 HB2 d0 d1 d2 ⊢
          go_at_call 15; refine HP.out.mono ?_; rintro e w3 ⟨rfl, hga⟩
          have HA3 := Lib.hid hga
          clear hga HP d0 d1 d2 c0 c1 c2 HZ2 HB2
          go_wp2_with fail
          go_roundw
          case rel => exact ⟨k + 1, q', es ++ [q], by omega, by go_num, HA3, HEN⟩
          case measure => simp [intOf]; omega
      · have HP := Lib.hid (HA2.out.over HLK.out hx (m1, m2, m3))
        have HE14 : Hid (E = 14) := Lib.hid (by rw [hEq, errG, if_pos (by simpa using hx)])
        unfold moveV at HP
        clear hEq hx HA2 HTK
        have hmc : ∀ i, (wr.alloc (.cells #[.int .i64 m1, .int .i64 m2, .int .i64 m3] 47)).cell? ⟨wr.heap.size, i, none⟩ = (#[.int .i64 m1, .int .i64 m2, .int .i64 m3] : Array Value)[i]? := fun i => cell_of_row _ _ i _ _ (0, 0) hmb
        have d0 := hmc 0
        have d1 := hmc 1
        have d2 := hmc 2
        clear hmc hmb
        go_wp2_with fail
        generalize wr.alloc (.cells #[.int .i64 m1, .int .i64 m2, .int .i64 m3] 47) = w2 at HP HZ2 HB2 d0 d1 d2 ⊢
        go_at_call 15; refine HP.out.mono ?_; rintro e w3 ⟨rfl, hb⟩
        have hz1 := HZ2.out.below hb HZ2.out.lt
        have HZ1 := Lib.hid hz1
        have HB3 := Lib.hid (HB2.out.trans (hb.mono HB2.out.size))
        obtain ⟨⟨x0, x1, x2, x3, x4⟩, f0, f1, f2, f3, f4⟩ := hz1.facts
        clear hb hz1 HP d0 d1 d2 c0 c1 c2 HZ2 HB2
        unfold zeroP at x3 x4
        go_wp2_with fail
        have HR2 := pbox_fill (p := zeroP) (vc := .slice none 0 0) (v0 := .slice none 0 0) (v1 := .slice none 0 0) HZ1.out
        refine bodyPost_ret (results_row_tmp2 rfl _ _ (w.heap.size + 1) 43 _ (0, 0) _ rfl HR2 Tryz.underlying43 rfl (by kernel_rfl)) rfl ?_
        refine .inr ⟨by rw [← HE.out, HE14.out]; decide, ?_⟩
        rw [← HE.out, HE14.out]
        exact ⟨rfl, fillP_below HB3.out (by omega) zeroP _ _ _⟩
    · obtain rfl : k = n := by omega
      have htk : ms.take k = ms := List.take_of_length_le (by rw [HLN.out]; exact Nat.le_refl _)
      have HLM : Hid (ms.length ≤ 100) := Lib.hid (by rw [← HLN.out]; omega)
      have hA := hA.out
      rw [htk] at hA
      have HA := Lib.hid hA
      have HE0 : Hid (E = 0) := Lib.hid (by rw [hEE.out, List.drop_eq_nil_of_le (by rw [HLN.out]; exact Nat.le_refl _)]; rfl)
      have HP := Lib.hid hA.position
      clear htk hA hEE HLK
      go_wp2_with fail
      go_at_call 11; refine HP.out.mono ?_; rintro e w3 ⟨ca, cn, cc, a0, n0, c0, a1, n1, c1, rfl, hpf, hb⟩
      have HPF := Lib.hid hpf
      have HB3 := Lib.hid hb
      have HR := Lib.hid ((HA.out.keep hb).result HLM.out)
      obtain ⟨x, hx⟩ : ∃ x, x = resG r q es := ⟨_, rfl⟩
      rw [← hx] at HR
      have HX := Lib.hid hx
      clear hpf hb HP hx
      go_wp2_with fail
      go_at_call 13; refine HR.out.mono ?_; rintro e w4 ⟨rfl, hb⟩
      have hb4 := HB3.out.trans (hb.mono HB3.out.size)
      have hz1 := HZR.out.below hb4 HZR.out.lt
      have HZ1 := Lib.hid hz1
      have HB4 := Lib.hid (HBR.out.trans (hb4.mono HBR.out.size))
      have HPF4 : Hid (PlaceF (fun k => wr.heap.size ≤ k) w4 q (.slice ca cn cc) (.slice a0 n0 c0) (.slice a1 n1 c1)) := Lib.hid (HPF.out.on (fun k _ hk => hb.block k hk) (fun _ h => h))
      obtain ⟨⟨x0, x1, x2, x3, x4⟩, f0, f1, f2, f3, f4⟩ := hz1.facts
      have HLT : Hid (w.heap.size + 1 < wr.heap.size) := Lib.hid HZR.out.lt
      clear hb hb4 hz1 HR HB3 HPF HZR
      unfold zeroP at x3 x4
      go_wp2_with fail
      have HR2 := pbox_fill (p := q) (vc := .slice ca cn cc) (v0 := .slice a0 n0 c0) (v1 := .slice a1 n1 c1) HZ1.out
      refine bodyPost_ret (results_row_tmp2 rfl _ _ (w.heap.size + 1) 43 _ (0, 0) _ rfl HR2 Tryz.underlying43 rfl (by kernel_rfl)) rfl ?_
      refine .inl ⟨by rw [← HE.out]; exact HE0.out, q, es, HA.out.chain, ?_⟩
      rw [← HX.out]
      have hfo := fillP_other w4 (w.heap.size + 1) q (.slice ca cn cc) (.slice a0 n0 c0) (.slice a1 n1 c1)
      exact ⟨ca, cn, cc, a0, n0, c0, a1, n1, c1, rfl, HPF4.out.on (fun k hk _ => hfo.1 k (by have := HLT.out; omega)) (fun k hk => by have := HLT.out; omega), fillP_below HB4.out (by omega) q _ _ _⟩
end Go.Proofs.YtomclohfppbegaaGreatDoor
