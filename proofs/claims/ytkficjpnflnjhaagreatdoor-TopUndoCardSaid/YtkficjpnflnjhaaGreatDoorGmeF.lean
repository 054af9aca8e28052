/- A game beside other memory: what a step leaves as it was. -/
import Derived.Test.YtkficjpnflnjhaaGreatDoorGmeS
set_option maxRecDepth 100000
namespace Go.Proofs.YtkficjpnflnjhaaGreatDoor
open Go.ChangeShapes Go.WideShapes Go.ChangeAt Go.RowKit

theorem movesBlk_on {b : Nat → Prop} {W W' : World} {v : Value} {xs : List MoveD} (hs : ∀ k, b k → k < W.heap.size → W'.heap[k]? = W.heap[k]?) (h : IsSl (Blk b MoveAt) 3 W v xs) : IsSl (Blk b MoveAt) 3 W' v xs :=
  h.mono fun g _ _ hx => by
    have e := hs g hx.1 (World.block_lt_of_cell? _ _ hx.2.1)
    exact ⟨hx.1, (World.cell?_of_block (w := W) e).trans hx.2.1, (World.cell?_of_block (w := W) e).trans hx.2.2.1, (World.cell?_of_block (w := W) e).trans hx.2.2.2⟩
theorem movesBlk_weak {b d : Nat → Prop} (hbd : ∀ k, b k → d k) {W : World} {v : Value} {xs : List MoveD} (h : IsSl (Blk b MoveAt) 3 W v xs) : IsSl (Blk d MoveAt) 3 W v xs := h.mono fun _ _ _ hx => ⟨hbd _ hx.1, hx.2⟩
theorem movesBlk_lt {b : Nat → Prop} {W : World} {v : Value} {xs : List MoveD} (h : IsSl (Blk b MoveAt) 3 W v xs) : IsSl (Blk (fun k => b k ∧ k < W.heap.size) MoveAt) 3 W v xs := h.mono fun _ _ _ hx => ⟨⟨hx.1, World.block_lt_of_cell? _ _ hx.2.1⟩, hx.2⟩
/-- The moves of a game, in blocks of the call's own. -/
def GMovesF (ms : List MoveD) (w : World) (e : Ending) (w' : World) : Prop := ∃ a n c, e = .returned (.slice a n c) ∧ IsSl (Blk (fun k => w.heap.size ≤ k) MoveAt) 3 w' (.slice a n c) ms ∧ n = ms.length ∧ Below w.heap.size w w'
theorem gmoves_fresh {W1 : Nat → Prop} {D : Nat → Prop} {W : World} {bb : Nat} {r : RulesD} {q : PlaceD} {es : List PlaceD} {ms : List MoveD} (h : Gme W1 D W bb r q es ms) (hl : ms.length ≤ 100) :
    Calls Tryz.prog 17 #[.pointer (some ⟨bb, 0, none⟩)] W (GMovesF ms W) := by
  obtain ⟨vp, vs, ve, vc, v0, v1, ea, en, ec, ma, mn, mk, news, hv⟩ := h
  obtain ⟨-, -, -, z1⟩ := gfacts hv.row
  have HM := Lib.hid (clone_moves move_moves move_celled ms (.slice ma mn mk) W (moves_of_own hv.mown) hl)
  clear hv hl
  go_enter Tryz.func17, Tryz.ntmps17
  go_wp2_with fail
  go_at_call 44; refine HM.out.mono ?_; rintro e w1 ⟨v', rfl, ⟨news', hown⟩, hsl, hb⟩
  obtain ⟨a, n, c, rfl⟩ := hsl.form
  have HB := Lib.hid hb
  have HS : Hid (IsSl (Blk (fun k => W.heap.size ≤ k) MoveAt) 3 w1 (.slice a n c) ms) := Lib.hid (by
    rcases hsl with h | ⟨g, o, cap, e1, e2, e3, e4, hq⟩
    · exact .inl h
    · simp only [Value.slice.injEq] at e1
      obtain ⟨e5, e6, e7⟩ := e1
      subst e5 e6 e7
      have hg := (hown.lt g rfl).1
      exact .inr ⟨g, o, c, rfl, e2, e3, e4, fun i x hx => ⟨hg, hq i x hx⟩⟩)
  have HN := Lib.hid (own_len hown)
  clear hb hsl hown HM
  go_wp2_with fail
  go_ret
  exact ⟨a, n, c, rfl, HS.out, HN.out, HB.out⟩
/-- A game at bb, and the world W0 in which its blocks were of the kind D0: but for these blocks nothing has changed since. -/
def GR (W1 D0 : Nat → Prop) (W0 W : World) (bb : Nat) (r : RulesD) (q : PlaceD) (es : List PlaceD) (ms : List MoveD) : Prop := ∃ D, Gme W1 D W bb r q es ms ∧ (∀ k, D k → D0 k ∨ W0.heap.size ≤ k) ∧ Fram D0 W0 W ∧ Chain r q es ms
theorem GR.zero {W1 D0 : Nat → Prop} {W0 : World} {bb : Nat} {r : RulesD} {q : PlaceD} {es : List PlaceD} {ms : List MoveD} (h : Gme W1 D0 W0 bb r q es ms) (hc : Chain r q es ms) : GR W1 D0 W0 W0 bb r q es ms :=
  ⟨D0, h, fun _ hk => .inl hk, Fram.of (Below.refl _ _), hc⟩
theorem GR.keep {W1 D0 : Nat → Prop} {W0 W W' : World} {bb : Nat} {r : RulesD} {q : PlaceD} {es : List PlaceD} {ms : List MoveD} (h : GR W1 D0 W0 W bb r q es ms) (hb : Below W.heap.size W W') : GR W1 D0 W0 W' bb r q es ms := by
  obtain ⟨D, h1, h2, h3, h4⟩ := h
  exact ⟨D, h1.keep hb, h2, h3.trans (Fram.of hb), h4⟩
theorem GR.fram {W1 D0 : Nat → Prop} {W0 W : World} {bb : Nat} {r : RulesD} {q : PlaceD} {es : List PlaceD} {ms : List MoveD} (h : GR W1 D0 W0 W bb r q es ms) : Fram D0 W0 W := by
  obtain ⟨D, h1, h2, h3, h4⟩ := h
  exact h3
theorem GR.gat {w : World} {W1 D0 : Nat → Prop} {W0 W : World} {bb : Nat} {r : RulesD} {q : PlaceD} {es : List PlaceD} {ms : List MoveD} (h : GR W1 D0 W0 W bb r q es ms) (hD : ∀ k, D0 k → w.heap.size ≤ k) (hw : Below w.heap.size w W0) : GAt w W1 W bb r q es ms := by
  obtain ⟨D, h1, h2, h3, h4⟩ := h
  refine ⟨⟨D, h1, fun k hk => ?_⟩, hw.trans (h3.below hw.size hD), h4⟩
  rcases h2 k hk with h | h
  · exact hD k h
  · have := hw.size; omega
def StepR (W1 D0 : Nat → Prop) (W0 : World) (bb : Nat) (r : RulesD) (q : PlaceD) (es : List PlaceD) (ms : List MoveD) (e : Ending) (w' : World) : Prop := e = .returned (.int .i64 0) ∧ GR W1 D0 W0 w' bb r q es ms
theorem GR.play {W1 D0 : Nat → Prop} {W0 W : World} {bb : Nat} {r : RulesD} {q : PlaceD} {es : List PlaceD} {ms : List MoveD} (h : GR W1 D0 W0 W bb r q es ms) (hl : ms.length ≤ 100) (hx : resG r q es = 0) (m : MoveD) (hm : legalB r q m = true) : Calls Tryz.prog 14 #[.pointer (some ⟨bb, 0, none⟩), moveV m] W (StepR W1 D0 W0 bb r (afterD r q m) (es ++ [q]) (ms ++ [m])) := by
  obtain ⟨D, h1, h2, h3, h4⟩ := h
  have hle := h4.len
  refine (gplay_ok h1 (by omega) hx m hm hle).mono ?_
  rintro e w' ⟨rfl, h5, h6⟩
  refine ⟨rfl, _, h5, fun k hk => ?_, fram_to h3 h6 (fun k hk hd => ?_), h4.snoc hx hm⟩
  · rcases hk with hk | hk
    · exact h2 k hk
    · have := h3.size; exact .inr (by omega)
  · rcases h2 k hd with h | h
    · exact h
    · omega
theorem GR.back {W1 D0 : Nat → Prop} {W0 W : World} {bb : Nat} {r : RulesD} {q : PlaceD} {es : List PlaceD} {ms ns : List MoveD} {m : MoveD} (h : GR W1 D0 W0 W bb r q es ms) (he : ms = ns ++ [m]) (hl : ms.length ≤ 100) : ∃ p fs, es = fs ++ [p] ∧ ∀ W', Below W.heap.size W W' → Calls Tryz.prog 10 #[.pointer (some ⟨bb, 0, none⟩)] W' (StepR W1 D0 W0 bb r p fs ns) := by
  subst he
  have h' := h
  obtain ⟨D', _, _, _, h4'⟩ := h'
  obtain ⟨p, fs, hc1, _, _, _, hc2⟩ := h4'.unsnoc
  refine ⟨p, fs, hc2, fun W' hb => ?_⟩
  obtain ⟨D, h1, h2, h3, h4⟩ := h.keep hb
  have hle := h4.len
  subst hc2
  simp only [List.length_append, List.length_cons, List.length_nil] at hle hl
  refine (gback_ok h1 (by omega) (by omega)).mono ?_
  rintro e w' ⟨rfl, h9, h10⟩
  exact ⟨rfl, D, h9, h2, fram_to h3 h10 (fun k hk hd => by
    rcases h2 k hd with h | h
    · exact h
    · omega), hc1⟩
end Go.Proofs.YtkficjpnflnjhaaGreatDoor
