/- rules.clone: rules that share no slice with those that came in. -/
import Derived.Test.YthbilpgecombiaaClones
import Derived.Deep.RegionHeld3
namespace Go.Proofs.Ythbilpgecombiaa
open Go.ChangeShapes Go.WideShapes Go.ChangeAt Go.RowKit

/-- A block of rules: what it holds, and that it may be written. -/
def RBox (W : World) (b : Nat) (t : TypeId) (r : RulesD) (vp vs ve : Value) : Prop := W.heap[b]? = some (.cells (RulesCells r vp vs ve) t (0, 0))
theorem RBox.below {W W' : World} {b n : Nat} {t : TypeId} {r : RulesD} {vp vs ve : Value} (h : RBox W b t r vp vs ve) (hb : Below n W W') (hn : b < n) : RBox W' b t r vp vs ve := (hb.block b hn).trans h
def RFacts (W : World) (b : Nat) (r : RulesD) (vp vs ve : Value) : Prop := BoxR W b r vp vs ve ∧ W.frozen? ⟨b, 0, none⟩ = false ∧ W.frozen? ⟨b, 1, none⟩ = false ∧ W.frozen? ⟨b, 2, none⟩ = false ∧ W.frozen? ⟨b, 3, none⟩ = false ∧ W.frozen? ⟨b, 4, none⟩ = false ∧ W.frozen? ⟨b, 5, none⟩ = false ∧ W.frozen? ⟨b, 6, none⟩ = false ∧ W.frozen? ⟨b, 7, none⟩ = false ∧ W.frozen? ⟨b, 8, none⟩ = false ∧ W.frozen? ⟨b, 9, none⟩ = false ∧ W.frozen? ⟨b, 10, none⟩ = false
theorem RBox.facts {W : World} {b : Nat} {t : TypeId} {r : RulesD} {vp vs ve : Value} (h : RBox W b t r vp vs ve) : RFacts W b r vp vs ve := by
  have hc : ∀ i, W.cell? ⟨b, i, none⟩ = (RulesCells r vp vs ve)[i]? := fun i => cell_of_row W b i _ t (0, 0) h
  have hf : ∀ i, W.frozen? ⟨b, i, none⟩ = false := fun i => frozen_of_row W b i _ t h
  exact ⟨⟨hc 0, hc 1, hc 2, hc 3, hc 4, hc 5, hc 6, hc 7, hc 8, hc 9, hc 10⟩, hf 0, hf 1, hf 2, hf 3, hf 4, hf 5, hf 6, hf 7, hf 8, hf 9, hf 10⟩
theorem RBox.set3 {W : World} {b : Nat} {t : TypeId} {r : RulesD} {vp vs ve : Value} (h : RBox W b t r vp vs ve) (u : Value) : RBox (W.setCell ⟨b, 3, none⟩ u) b t r u vs ve := heap_setCell_same W b 3 _ t u h
theorem RBox.set4 {W : World} {b : Nat} {t : TypeId} {r : RulesD} {vp vs ve : Value} (h : RBox W b t r vp vs ve) (u : Value) : RBox (W.setCell ⟨b, 4, none⟩ u) b t r vp u ve := heap_setCell_same W b 4 _ t u h
theorem RBox.set7 {W : World} {b : Nat} {t : TypeId} {r : RulesD} {vp vs ve : Value} (h : RBox W b t r vp vs ve) (u : Value) : RBox (W.setCell ⟨b, 7, none⟩ u) b t r vp vs u := heap_setCell_same W b 7 _ t u h
theorem RBox.other {W : World} {b : Nat} {t : TypeId} {r : RulesD} {vp vs ve : Value} (h : RBox W b t r vp vs ve) {a : Addr} (ha : b ≠ a.block) (u : Value) : RBox (W.setCell a u) b t r vp vs ve := (heap_setCell_other W a b u ha).trans h
theorem RBox.new (W : World) (t : TypeId) (r : RulesD) (vp vs ve : Value) : RBox (W.alloc (.cells (RulesCells r vp vs ve) t)) W.heap.size t r vp vs ve := heap_alloc_new W _
theorem RBox.alloc {W : World} {b : Nat} {t : TypeId} {r : RulesD} {vp vs ve : Value} (h : RBox W b t r vp vs ve) (o : Obj) : RBox (W.alloc o) b t r vp vs ve := (Below.heap_alloc W o b (Array.getElem?_eq_some_iff.1 h).1).trans h

def zero0 : RulesD := { name := ⟨#[]⟩, width := 0, height := 0, pieces := [], start := [], falls := false, keeps := false, ends := [], blocked := 0, quiet := 0, rep := 0 }
/-- What rules must not exceed for a clone. -/
def Fits (r : RulesD) : Prop := (0 < r.pieces.length ∧ r.pieces.length ≤ 100) ∧ (0 < r.start.length ∧ r.start.length ≤ 100) ∧ r.ends.length ≤ 100 ∧ ∀ x ∈ r.pieces, x.ways.length ≤ 100
def CloneR (c : Nat → Prop) (r : RulesD) (w : World) (e : Ending) (w' : World) : Prop :=
  ∃ vp gs cs ve, e = .returned (RulesV r vp (.slice (some ⟨gs, 0, none⟩) r.start.length cs) ve) ∧ IsSl (Blk (fun k => k ≠ gs ∧ c k) (PieceIn (fun k => k ≠ gs ∧ c k))) 4 w' vp r.pieces ∧ IsSl (Blk (fun k => k ≠ gs ∧ c k) EndAt) 4 w' ve r.ends ∧
    w'.ownsRow w.heap.size 3 1 (.slice (some ⟨gs, 0, none⟩) r.start.length cs) r.start.length (r.start.map (.int .i64)) ∧ Below w.heap.size w w'
/-- All eleven cells of a block of rules, written one behind the other. -/
def fill11 (W : World) (b : Nat) (r : RulesD) (vp vs ve : Value) : World :=
  ((((((((((W.setCell ⟨b, 0, none⟩ (.string r.name)).setCell ⟨b, 1, none⟩ (.int .i64 r.width)).setCell ⟨b, 2, none⟩ (.int .i64 r.height)).setCell ⟨b, 3, none⟩ vp).setCell ⟨b, 4, none⟩ vs).setCell ⟨b, 5, none⟩ (.bool r.falls)).setCell ⟨b, 6, none⟩ (.bool r.keeps)).setCell ⟨b, 7, none⟩ ve).setCell ⟨b, 8, none⟩ (.int .i64 r.blocked)).setCell ⟨b, 9, none⟩ (.int .i64 r.quiet)).setCell ⟨b, 10, none⟩ (.int .i64 r.rep)
theorem fill_gen {W : World} {b : Nat} {t : TypeId} {a0 c0 a1 c1 a2 c2 a3 c3 a4 c4 a5 c5 a6 c6 a7 c7 a8 c8 a9 c9 a10 c10 : Value} (h : W.heap[b]? = some (.cells #[c0, c1, c2, c3, c4, c5, c6, c7, c8, c9, c10] t (0, 0))) : (((((((((((W.setCell ⟨b, 0, none⟩ a0).setCell ⟨b, 1, none⟩ a1).setCell ⟨b, 2, none⟩ a2).setCell ⟨b, 3, none⟩ a3).setCell ⟨b, 4, none⟩ a4).setCell ⟨b, 5, none⟩ a5).setCell ⟨b, 6, none⟩ a6).setCell ⟨b, 7, none⟩ a7).setCell ⟨b, 8, none⟩ a8).setCell ⟨b, 9, none⟩ a9).setCell ⟨b, 10, none⟩ a10).heap[b]? = some (.cells #[a0, a1, a2, a3, a4, a5, a6, a7, a8, a9, a10] t (0, 0)) := by
  have h0 : (W.setCell ⟨b, 0, none⟩ a0).heap[b]? = some (.cells #[a0, c1, c2, c3, c4, c5, c6, c7, c8, c9, c10] t (0, 0)) := heap_setCell_same _ b 0 _ t a0 h
  have h1 : ((W.setCell ⟨b, 0, none⟩ a0).setCell ⟨b, 1, none⟩ a1).heap[b]? = some (.cells #[a0, a1, c2, c3, c4, c5, c6, c7, c8, c9, c10] t (0, 0)) := heap_setCell_same _ b 1 _ t a1 h0
  have h2 : (((W.setCell ⟨b, 0, none⟩ a0).setCell ⟨b, 1, none⟩ a1).setCell ⟨b, 2, none⟩ a2).heap[b]? = some (.cells #[a0, a1, a2, c3, c4, c5, c6, c7, c8, c9, c10] t (0, 0)) := heap_setCell_same _ b 2 _ t a2 h1
  have h3 : ((((W.setCell ⟨b, 0, none⟩ a0).setCell ⟨b, 1, none⟩ a1).setCell ⟨b, 2, none⟩ a2).setCell ⟨b, 3, none⟩ a3).heap[b]? = some (.cells #[a0, a1, a2, a3, c4, c5, c6, c7, c8, c9, c10] t (0, 0)) := heap_setCell_same _ b 3 _ t a3 h2
  have h4 : (((((W.setCell ⟨b, 0, none⟩ a0).setCell ⟨b, 1, none⟩ a1).setCell ⟨b, 2, none⟩ a2).setCell ⟨b, 3, none⟩ a3).setCell ⟨b, 4, none⟩ a4).heap[b]? = some (.cells #[a0, a1, a2, a3, a4, c5, c6, c7, c8, c9, c10] t (0, 0)) := heap_setCell_same _ b 4 _ t a4 h3
  have h5 : ((((((W.setCell ⟨b, 0, none⟩ a0).setCell ⟨b, 1, none⟩ a1).setCell ⟨b, 2, none⟩ a2).setCell ⟨b, 3, none⟩ a3).setCell ⟨b, 4, none⟩ a4).setCell ⟨b, 5, none⟩ a5).heap[b]? = some (.cells #[a0, a1, a2, a3, a4, a5, c6, c7, c8, c9, c10] t (0, 0)) := heap_setCell_same _ b 5 _ t a5 h4
  have h6 : (((((((W.setCell ⟨b, 0, none⟩ a0).setCell ⟨b, 1, none⟩ a1).setCell ⟨b, 2, none⟩ a2).setCell ⟨b, 3, none⟩ a3).setCell ⟨b, 4, none⟩ a4).setCell ⟨b, 5, none⟩ a5).setCell ⟨b, 6, none⟩ a6).heap[b]? = some (.cells #[a0, a1, a2, a3, a4, a5, a6, c7, c8, c9, c10] t (0, 0)) := heap_setCell_same _ b 6 _ t a6 h5
  have h7 : ((((((((W.setCell ⟨b, 0, none⟩ a0).setCell ⟨b, 1, none⟩ a1).setCell ⟨b, 2, none⟩ a2).setCell ⟨b, 3, none⟩ a3).setCell ⟨b, 4, none⟩ a4).setCell ⟨b, 5, none⟩ a5).setCell ⟨b, 6, none⟩ a6).setCell ⟨b, 7, none⟩ a7).heap[b]? = some (.cells #[a0, a1, a2, a3, a4, a5, a6, a7, c8, c9, c10] t (0, 0)) := heap_setCell_same _ b 7 _ t a7 h6
  have h8 : (((((((((W.setCell ⟨b, 0, none⟩ a0).setCell ⟨b, 1, none⟩ a1).setCell ⟨b, 2, none⟩ a2).setCell ⟨b, 3, none⟩ a3).setCell ⟨b, 4, none⟩ a4).setCell ⟨b, 5, none⟩ a5).setCell ⟨b, 6, none⟩ a6).setCell ⟨b, 7, none⟩ a7).setCell ⟨b, 8, none⟩ a8).heap[b]? = some (.cells #[a0, a1, a2, a3, a4, a5, a6, a7, a8, c9, c10] t (0, 0)) := heap_setCell_same _ b 8 _ t a8 h7
  have h9 : ((((((((((W.setCell ⟨b, 0, none⟩ a0).setCell ⟨b, 1, none⟩ a1).setCell ⟨b, 2, none⟩ a2).setCell ⟨b, 3, none⟩ a3).setCell ⟨b, 4, none⟩ a4).setCell ⟨b, 5, none⟩ a5).setCell ⟨b, 6, none⟩ a6).setCell ⟨b, 7, none⟩ a7).setCell ⟨b, 8, none⟩ a8).setCell ⟨b, 9, none⟩ a9).heap[b]? = some (.cells #[a0, a1, a2, a3, a4, a5, a6, a7, a8, a9, c10] t (0, 0)) := heap_setCell_same _ b 9 _ t a9 h8
  have h10 : (((((((((((W.setCell ⟨b, 0, none⟩ a0).setCell ⟨b, 1, none⟩ a1).setCell ⟨b, 2, none⟩ a2).setCell ⟨b, 3, none⟩ a3).setCell ⟨b, 4, none⟩ a4).setCell ⟨b, 5, none⟩ a5).setCell ⟨b, 6, none⟩ a6).setCell ⟨b, 7, none⟩ a7).setCell ⟨b, 8, none⟩ a8).setCell ⟨b, 9, none⟩ a9).setCell ⟨b, 10, none⟩ a10).heap[b]? = some (.cells #[a0, a1, a2, a3, a4, a5, a6, a7, a8, a9, a10] t (0, 0)) := heap_setCell_same _ b 10 _ t a10 h9
  exact h10
theorem rbox_fill {W : World} {b : Nat} {t : TypeId} {r0 r : RulesD} {up us ue vp vs ve : Value} (h : RBox W b t r0 up us ue) : RBox (fill11 W b r vp vs ve) b t r vp vs ve := fill_gen h
theorem fill_other (W : World) (b : Nat) (r : RulesD) (vp vs ve : Value) : (∀ k, k ≠ b → (fill11 W b r vp vs ve).heap[k]? = W.heap[k]?) ∧ (fill11 W b r vp vs ve).heap.size = W.heap.size := by
  refine ⟨fun k hk => ?_, by simp [fill11]⟩
  unfold fill11
  rw [heap_setCell_other _ _ _ _ hk, heap_setCell_other _ _ _ _ hk, heap_setCell_other _ _ _ _ hk, heap_setCell_other _ _ _ _ hk, heap_setCell_other _ _ _ _ hk, heap_setCell_other _ _ _ _ hk, heap_setCell_other _ _ _ _ hk, heap_setCell_other _ _ _ _ hk, heap_setCell_other _ _ _ _ hk, heap_setCell_other _ _ _ _ hk, heap_setCell_other _ _ _ _ hk]
theorem fill_below {B : Nat} {w W : World} (h : Below B w W) {b : Nat} (hb : B ≤ b) (r : RulesD) (vp vs ve : Value) : Below B w (fill11 W b r vp vs ve) :=
  ((((((((((h.setCell hb _).setCell hb _).setCell hb _).setCell hb _).setCell hb _).setCell hb _).setCell hb _).setCell hb _).setCell hb _).setCell hb _).setCell hb _
theorem own_max {W : World} {B : Nat} {e : TypeId} {size g n cap : Nat} {xs : List Value} (h : W.ownsRow B e size (.slice (some ⟨g, 0, none⟩) n cap) n xs) : cap ≤ maxLen := by
  rcases h.2 with ⟨h', _⟩ | ⟨g', cap', cur, h', _, _, _, hc, _⟩
  · simp at h'
  · simp only [Value.slice.injEq] at h'
    omega
theorem own_keep {W W' : World} {B : Nat} {e : TypeId} {size n g cap : Nat} {xs : List Value} (h : W.ownsRow B e size (.slice (some ⟨g, 0, none⟩) n cap) n xs) (hg : W'.heap[g]? = W.heap[g]?) : W'.ownsRow B e size (.slice (some ⟨g, 0, none⟩) n cap) n xs := by
  refine ⟨h.1, ?_⟩
  rcases h.2 with hn | ⟨g', cap', cur, h', h1, h2, rest⟩
  · exact .inl hn
  · simp only [Value.slice.injEq, Option.some.injEq, Addr.mk.injEq, and_true, true_and] at h'
    obtain ⟨rfl, rfl⟩ := h'
    exact .inr ⟨g, cap, cur, rfl, h1, hg.trans h2, rest⟩
theorem own_ints {W : World} {B : Nat} {e : TypeId} {g n cap : Nat} {xs : List Value} {st : List Int} (h : W.ownsRow B e 1 (.slice (some ⟨g, 0, none⟩) n cap) n xs) (hs : IsSl IntAt 1 W (.slice (some ⟨g, 0, none⟩) n cap) st) (hn : n = st.length) : xs = st.map (.int .i64) := by
  have hl : xs.length = n * 1 := h.1
  apply List.ext_getElem?
  intro j
  by_cases hj : j < n
  · rcases hs with ⟨h0, _⟩ | ⟨g', off, cap', e1, e2, e3, e4, hc⟩
    · subst h0; simp at hn; omega
    · simp only [Value.slice.injEq, Option.some.injEq, Addr.mk.injEq, and_true] at e1
      obtain ⟨⟨rfl, rfl⟩, _⟩ := e1
      have h1 := hc j (st[j]'(by omega)) (by simp)
      have h2 := h.cellAt j (by omega)
      unfold IntAt at h1
      rw [Nat.zero_add, Nat.mul_one, h2] at h1
      rw [h1, List.getElem?_map, List.getElem?_eq_getElem (by omega)]
      rfl
  · rw [List.getElem?_eq_none (by omega), List.getElem?_eq_none (by simp; omega)]
theorem PieceIn.here {c : Nat → Prop} {W : World} {g o : Nat} {x : PieceD} (h : PieceIn c W g o x) : PieceIn (fun k => c k ∧ k < W.heap.size) W g o x := by
  obtain ⟨v, c0, c1, c2, c3, c4, c5⟩ := h
  exact ⟨v, c0, c1, c2, c3, c4, c5.mono fun _ _ _ hx => ⟨⟨hx.1, World.block_lt_of_cell? _ _ hx.2.1⟩, hx.2⟩⟩
theorem PieceIn.weak {c d : Nat → Prop} (hcd : ∀ k, c k → d k) {W : World} {g o : Nat} {x : PieceD} (h : PieceIn c W g o x) : PieceIn d W g o x := by
  obtain ⟨v, c0, c1, c2, c3, c4, c5⟩ := h
  exact ⟨v, c0, c1, c2, c3, c4, c5.mono fun _ _ _ hx => ⟨hcd _ hx.1, hx.2⟩⟩
/-- The blocks of a kind that were there are as they were. -/
def Stays (b : Nat → Prop) (W W' : World) : Prop := (∀ k, k < W.heap.size → b k → W'.heap[k]? = W.heap[k]?) ∧ W.heap.size ≤ W'.heap.size
theorem Stays.trans {b : Nat → Prop} {W W' W2 : World} (h : Stays b W W') (h2 : Stays b W' W2) : Stays b W W2 := ⟨fun k hk hb => (h2.1 k (by have := h.2; omega) hb).trans (h.1 k hk hb), Nat.le_trans h.2 h2.2⟩
theorem Stays.of {b : Nat → Prop} {W W' : World} (h : Below W.heap.size W W') : Stays b W W' := ⟨fun k hk _ => h.block k hk, h.size⟩
theorem Stays.set {b : Nat → Prop} {W W' : World} (h : Stays b W W') {a : Addr} (ha : ¬ b a.block) (u : Value) : Stays b W (W'.setCell a u) := ⟨fun k hk hb => (heap_setCell_other W' a k u (fun e => ha (e ▸ hb))).trans (h.1 k hk hb), by rw [World.size_setCell]; exact h.2⟩
theorem Stays.cell {b : Nat → Prop} {W W' : World} (h : Stays b W W') {a : Addr} {u : Value} (hb : b a.block) (hc : W.cell? a = some u) : W'.cell? a = some u :=
  (World.cell?_of_block (h.1 a.block (World.block_lt_of_cell? _ _ hc) hb)).trans hc
theorem Stays.way {b c : Nat → Prop} {W W' : World} (h : Stays b W W') (hbc : ∀ k, c k → b k) {g o : Nat} {x : WayD} (hx : Blk c WayAt W g o x) : Blk c WayAt W' g o x :=
  ⟨hx.1, h.cell (hbc _ hx.1) hx.2.1, h.cell (hbc _ hx.1) hx.2.2.1, h.cell (hbc _ hx.1) hx.2.2.2.1, h.cell (hbc _ hx.1) hx.2.2.2.2⟩
theorem Stays.endd {b c : Nat → Prop} {W W' : World} (h : Stays b W W') (hbc : ∀ k, c k → b k) {g o : Nat} {x : EndD} (hx : Blk c EndAt W g o x) : Blk c EndAt W' g o x :=
  ⟨hx.1, h.cell (hbc _ hx.1) hx.2.1, h.cell (hbc _ hx.1) hx.2.2.1, h.cell (hbc _ hx.1) hx.2.2.2.1, h.cell (hbc _ hx.1) hx.2.2.2.2⟩
theorem Stays.piece {b c : Nat → Prop} {W W' : World} (h : Stays b W W') (hbc : ∀ k, c k → b k) {g o : Nat} {x : PieceD} (hg : b g) (hx : PieceIn c W g o x) : PieceIn c W' g o x := by
  obtain ⟨v, c0, c1, c2, c3, c4, c5⟩ := hx
  exact ⟨v, h.cell hg c0, h.cell hg c1, h.cell hg c2, h.cell hg c3, c4, c5.mono fun _ _ _ hx => h.way hbc hx⟩
/-- Neither block g nor one of the call's two own variables. -/
def Ap (c : Nat → Prop) (w : World) (g k : Nat) : Prop := k ≠ g ∧ k ≠ w.heap.size ∧ k ≠ w.heap.size + 1 ∧ c k
theorem own_cap {W : World} {B : Nat} {e : TypeId} {size g n cap : Nat} {xs : List Value} (h : W.ownsRow B e size (.slice (some ⟨g, 0, none⟩) n cap) n xs) : n ≤ cap := by
  rcases h.2 with ⟨h', _⟩ | ⟨g', cap', cur, h', _, _, hc, _⟩
  · simp at h'
  · simp only [Value.slice.injEq] at h'
    omega
def CInv (c : Nat → Prop) (r : RulesD) (w : World) (g cap n : Nat) (vs ve : Value) (W : World) : Prop :=
  RBox W w.heap.size 26 r (.slice (some ⟨g, 0, none⟩) n cap) vs ve ∧ RBox W (w.heap.size + 1) 26 zero0 (.slice none 0 0) (.slice none 0 0) (.slice none 0 0) ∧
    (∃ news, W.ownsRow (w.heap.size + 2) 61 4 (.slice (some ⟨g, 0, none⟩) n cap) n news) ∧ (∀ i x, r.pieces[i]? = some x → PieceIn (Ap c w g) W g (i * 4) x) ∧ Below w.heap.size w W
theorem own_below {W W' : World} {B : Nat} {e : TypeId} {size n : Nat} {v : Value} {xs : List Value} (h : W.ownsRow B e size v n xs) (hb : Below W.heap.size W W') : W'.ownsRow B e size v n xs := by
  refine ⟨h.1, ?_⟩
  rcases h.2 with hn | ⟨g, cap, cur, rfl, h1, h2, rest⟩
  · exact .inl hn
  · exact .inr ⟨g, cap, cur, rfl, h1, (hb.block g (Array.getElem?_eq_some_iff.1 h2).1).trans h2, rest⟩
theorem CInv.below {c : Nat → Prop} {r : RulesD} {w : World} {g cap n : Nat} {vs ve : Value} {W W' : World} (h : CInv c r w g cap n vs ve W) (hb : Below W.heap.size W W') : CInv c r w g cap n vs ve W' := by
  obtain ⟨h1, h2, ⟨news, h3⟩, h4, h5⟩ := h
  exact ⟨h1.below hb (Array.getElem?_eq_some_iff.1 h1).1, h2.below hb (Array.getElem?_eq_some_iff.1 h2).1, ⟨news, own_below h3 hb⟩, fun i x hx => pieceIn_keeps _ _ _ _ _ _ _ hb (Nat.le_refl _) (h4 i x hx), h5.trans (hb.mono h5.size)⟩
theorem way_other {c : Nat → Prop} {w : World} {g o : Nat} {u : Value} {W : World} : ∀ (b i : Nat) (x : WayD), Blk (Ap c w g) WayAt W b i x → Blk (Ap c w g) WayAt (W.setCell ⟨g, o, none⟩ u) b i x := by
  intro b i x ⟨hb, h0, h1, h2, h3⟩
  have hk : ∀ j, (W.setCell ⟨g, o, none⟩ u).cell? ⟨b, j, none⟩ = W.cell? ⟨b, j, none⟩ := fun j => World.cell?_setCell_other _ _ _ _ (fun e => hb.1 (by rw [Addr.mk.injEq] at e; exact e.1.symm))
  exact ⟨hb, (hk _).trans h0, (hk _).trans h1, (hk _).trans h2, (hk _).trans h3⟩
theorem piece_other {c : Nat → Prop} {w : World} {g o : Nat} {u : Value} {W : World} {g' i : Nat} {x : PieceD} (h : PieceIn (Ap c w g) W g' i x) (hne : g' ≠ g ∨ o < i ∨ i + 4 ≤ o) : PieceIn (Ap c w g) (W.setCell ⟨g, o, none⟩ u) g' i x := by
  obtain ⟨v, c0, c1, c2, c3, c4, c5⟩ := h
  have hk : ∀ j, j < 4 → (W.setCell ⟨g, o, none⟩ u).cell? ⟨g', i + j, none⟩ = W.cell? ⟨g', i + j, none⟩ := fun j hj => World.cell?_setCell_other _ _ _ _ (fun e => by rw [Addr.mk.injEq] at e; omega)
  exact ⟨v, (hk 0 (by decide)).trans c0, (hk 1 (by decide)).trans c1, (hk 2 (by decide)).trans c2, (hk 3 (by decide)).trans c3, c4, c5.mono way_other⟩
theorem piece_put {c : Nat → Prop} {w : World} {g : Nat} {u : Value} {W : World} {i : Nat} {x : PieceD} (h : PieceIn (Ap c w g) W g i x) (hu : IsSl (Blk (Ap c w g) WayAt) 4 W u x.ways) : PieceIn (Ap c w g) (W.setCell ⟨g, i + 3, none⟩ u) g i x := by
  obtain ⟨v, c0, c1, c2, c3, c4, c5⟩ := h
  have hk : ∀ j, j < 3 → (W.setCell ⟨g, i + 3, none⟩ u).cell? ⟨g, i + j, none⟩ = W.cell? ⟨g, i + j, none⟩ := fun j hj => World.cell?_setCell_other _ _ _ _ (fun e => by rw [Addr.mk.injEq] at e; omega)
  exact ⟨u, (hk 0 (by decide)).trans c0, (hk 1 (by decide)).trans c1, (hk 2 (by decide)).trans c2, World.cell?_setCell_same _ _ _ c3, hu.one, hu.mono way_other⟩
theorem CInv.put {c : Nat → Prop} {r : RulesD} {w : World} {g cap n : Nat} {vs ve : Value} {W : World} (h : CInv c r w g cap n vs ve W) (hg : w.heap.size + 2 ≤ g) {k : Nat} {x : PieceD} (hx : r.pieces[k]? = some x) {u : Value} (hu : IsSl (Blk (Ap c w g) WayAt) 4 W u x.ways) : CInv c r w g cap n vs ve (W.setCell ⟨g, k * 4 + 3, none⟩ u) := by
  obtain ⟨h1, h2, ⟨news, h3⟩, h4, h5⟩ := h
  refine ⟨h1.other (by simp; omega) _, h2.other (by simp; omega) _, ⟨_, (h3.stored _ _).1⟩, fun i y hy => ?_, h5.setCell (by simp; omega) _⟩
  by_cases hik : i = k
  · subst hik
    rw [hx] at hy
    obtain rfl := Option.some.inj hy
    exact piece_put (h4 _ _ hx) hu
  · exact piece_other (h4 i y hy) (by omega)
theorem CInv.atk {c : Nat → Prop} {r : RulesD} {w : World} {g cap n : Nat} {vs ve : Value} {W : World} (h : CInv c r w g cap n vs ve W) {k : Nat} {x : PieceD} (hx : r.pieces[k]? = some x) : ∃ u, W.cell? ⟨g, k * 4 + 3, none⟩ = some u ∧ W.frozen? ⟨g, k * 4 + 3, none⟩ = false := by
  obtain ⟨h1, h2, ⟨news, h3⟩, h4, h5⟩ := h
  obtain ⟨v, _, _, _, c3, _⟩ := h4 k x hx
  exact ⟨v, c3, h3.frozenAt _⟩
set_option maxRecDepth 100000 in
set_option maxHeartbeats 4000000 in
theorem cloneR_any (c : Nat → Prop) (r : RulesD) (vp vs ve : Value) (w : World) (hc : ∀ k, w.heap.size ≤ k → c k) (hp : IsSl (PieceIn c) 4 w vp r.pieces) (hr : RulesIn w r vp vs ve) (hf : Fits r) :
    Calls Try.prog 68 #[RulesV r vp vs ve] w (CloneR c r w) := by
  have HCK : Hid _ := Lib.hid hc
  have HPP : Hid _ := Lib.hid hp
  obtain ⟨n, hnn⟩ : ∃ n : Nat, n = r.pieces.length := ⟨_, rfl⟩
  have HR : Hid _ := Lib.hid hr
  have HF : Hid _ := Lib.hid hf
  have HN : Hid _ := Lib.hid hnn
  obtain ⟨ap, cp, rfl, _, _⟩ := hr.1.1.shape hnn
  obtain ⟨sa, cs, rfl, _, _⟩ := hr.1.2.1.shape (n := r.start.length) rfl
  obtain ⟨ea, ce, rfl, _, _⟩ := hr.1.2.2.shape (n := r.ends.length) rfl
  have hn100 : n ≤ 100 := by rw [hnn]; exact hf.1.2
  unfold RulesV
  clear hnn hr hf hc hp
  go_enter Try.func68, Try.ntmps68
  go_wp2_with fail
  go_at_call 87
  have HB0 := Below.alloc (Below.alloc (Below.refl w.heap.size w) (Nat.le_refl _) (.cells (RulesCells r (.slice ap n cp) (.slice sa r.start.length cs) (.slice ea r.ends.length ce)) 26)) (by simp) (.cells (RulesCells zero0 (.slice none 0 0) (.slice none 0 0) (.slice none 0 0)) 26)
  have HX0 := RBox.alloc (RBox.new w 26 r (.slice ap n cp) (.slice sa r.start.length cs) (.slice ea r.ends.length ce)) (.cells (RulesCells zero0 (.slice none 0 0) (.slice none 0 0) (.slice none 0 0)) 26)
  have HZ0 := RBox.new (w.alloc (.cells (RulesCells r (.slice ap n cp) (.slice sa r.start.length cs) (.slice ea r.ends.length ce)) 26)) 26 zero0 (.slice none 0 0) (.slice none 0 0) (.slice none 0 0)
  refine (clone_pieces (pieceIn_moves (fun g => c g ∧ g < w.heap.size)) (pieceIn_celled _) r.pieces _ _ ((HPP.out.mono fun g o x h => h.here).below (pieceIn_keeps _) HB0 (Nat.le_refl _)) HF.out.1.2).mono ?_
  rintro e w1 ⟨vp, rfl, ⟨news, hown⟩, hsl, hb⟩
  obtain ⟨g, cap, rfl⟩ := Joins.ownsRow_form hown HF.out.1.1
  have hg := (hown.lt g rfl).1
  simp only [World.size_alloc] at hg hb HZ0 hown
  have HB1 : Hid (Below w.heap.size w w1) := Lib.hid (HB0.trans (hb.mono (by omega)))
  have HX1 := HX0.below hb (by omega)
  have HZ1 : Hid _ := Lib.hid (HZ0.below hb (by omega))
  have HP1 : Hid (∀ i x, r.pieces[i]? = some x → PieceIn (Ap c w g) w1 g (i * 4) x) := Lib.hid (by
    rcases hsl with ⟨h0, _⟩ | ⟨g', off, cap', e1, e2, e3, e4, hc⟩
    · intro i x hx; rw [h0] at hx; simp at hx
    · simp only [Value.slice.injEq, Option.some.injEq, Addr.mk.injEq, and_true, true_and] at e1
      obtain ⟨⟨rfl, rfl⟩, _⟩ := e1
      intro i x hx
      obtain ⟨v, c0, c1, c2, c3, c4, c5⟩ := hc i x hx
      rw [Nat.zero_add] at c0 c1 c2 c3
      exact ⟨v, c0, c1, c2, c3, c4, c5.mono fun g2 o x h => ⟨⟨by have := h.1.2; omega, by have := h.1.2; omega, by have := h.1.2; omega, h.1.1⟩, h.2⟩⟩)
  rw [← HN.out] at hown ⊢
  have HO1 : Hid _ := Lib.hid hown
  have hncap : n ≤ cap := own_cap hown
  have HF1 := HX1.facts
  unfold RFacts BoxR at HF1
  clear hsl hown hb HB0 HX0 HZ0
  obtain ⟨⟨b0, b1, b2, b3, b4, b5, b6, b7, b8, b9, b10⟩, f0, f1, f2, f3, f4, f5, f6, f7, f8, f9, f10⟩ := HF1
  have hgl : w.heap.size + 2 ≤ g := by omega
  have hx1 := HX1.set3 (.slice (some ⟨g, 0, none⟩) n cap)
  have HX2 : Hid _ := Lib.hid hx1
  clear hx1 HX1 hg
  go_wp2_with fail
  have HI : Hid (CInv c r w g cap n (.slice sa r.start.length cs) (.slice ea r.ends.length ce) (w1.setCell ⟨w.heap.size, 3, none⟩ (.slice (some ⟨g, 0, none⟩) n cap))) := Lib.hid (by
    refine ⟨HX2.out, HZ1.out.other (by simp) _, ⟨news, ownsRow_setCell_below HO1.out (by simp; omega) _⟩, fun i x hx => ?_, HB1.out.setCell (Nat.le_refl _) _⟩
    exact ((Stays.of (Below.refl _ w1)).set (b := fun k => k ≠ w.heap.size ∧ k ≠ w.heap.size + 1) (a := ⟨w.heap.size, 3, none⟩) (by simp) _).piece (fun k hk => ⟨hk.2.1, hk.2.2.1⟩) (by omega) (HP1.out i x hx))
  clear HX2 HZ1 HP1 HO1 HB1
  clear b0 b1 b2 b3 b4 b5 b6 b7 b8 b9 b10 f0 f1 f2 f3 f4 f5 f6 f7 f8 f9 f10
  go_loopw [3, 4, 12] (fun _ _ i wr => ∃ k : Nat, k ≤ n ∧ i = .int .i64 (k : Int) ∧ Hid (CInv c r w g cap n (.slice sa r.start.length cs) (.slice ea r.ends.length ce) wr)) (fun _ _ i _ => n - (intOf i).toNat)
  case atStart => exact ⟨0, by omega, rfl, HI⟩
  case round =>
    clear HI
    obtain ⟨k, hk, rfl, hinv⟩ := hrel
    by_cases hlt : k < n
    · obtain ⟨x, hx⟩ : ∃ x, r.pieces[k]? = some x := ⟨_, List.getElem?_eq_getElem (by rw [← HN.out]; exact hlt)⟩
      obtain ⟨u, c0, c1, c2, c3, c4, c5⟩ := hinv.out.2.2.2.1 k x hx
      obtain ⟨m, hm⟩ : ∃ m : Nat, m = x.ways.length := ⟨_, rfl⟩
      have HM : Hid _ := Lib.hid hm
      obtain ⟨au, cu, rfl, _, _⟩ := c5.shape hm
      have HU : Hid _ := Lib.hid c5
      have HXK : Hid _ := Lib.hid hx
      have HF1 := hinv.out.1.facts
      unfold RFacts BoxR at HF1
      clear c5 c4 hx hm
      obtain ⟨⟨b0, b1, b2, b3, b4, b5, b6, b7, b8, b9, b10⟩, f0, f1, f2, f3, f4, f5, f6, f7, f8, f9, f10⟩ := HF1
      have hkc : k ≤ cap := by omega
      go_wp2_with fail
      have HCN := cells4_new wr (.int .u8 x.letter) (.int .i64 x.hand) (.int .i64 x.promote) (.slice au m cu) 61 _ (Below.refl _ _)
      have HBW := (Below.refl wr.heap.size wr).alloc (Nat.le_refl _) (.cells #[.int .u8 x.letter, .int .i64 x.hand, .int .i64 x.promote, .slice au m cu] 61)
      have HSZ : (wr.alloc (.cells #[.int .u8 x.letter, .int .i64 x.hand, .int .i64 x.promote, .slice au m cu] 61)).heap.size = wr.heap.size + 1 := by simp
      have hbw : w.heap.size < wr.heap.size := World.block_lt_of_cell? _ _ b3
      have e3 := cell_keeps HBW (Nat.le_refl _) b3
      have HINV : Hid (CInv c r w g cap n (.slice sa r.start.length cs) (.slice ea r.ends.length ce) (wr.alloc (.cells #[.int .u8 x.letter, .int .i64 x.hand, .int .i64 x.promote, .slice au m cu] 61))) := Lib.hid (by
        obtain ⟨h1, h2, ⟨news, h3⟩, h4, h5⟩ := hinv.out
        exact ⟨h1.alloc _, h2.alloc _, ⟨news, h3.alloc _⟩, fun i y hy => pieceIn_keeps _ _ _ _ _ _ _ HBW (Nat.le_refl _) (h4 i y hy), h5.trans (HBW.mono h5.size)⟩)
      have hgr : g < wr.heap.size := by
        obtain ⟨_, _, ⟨news, h3⟩, _⟩ := hinv.out
        exact (h3.lt g rfl).2
      have HU2 : Hid _ := Lib.hid (HU.out.below (Blk.keeps way_keeps) HBW (Nat.le_refl _))
      clear b0 b1 b2 b3 b4 b5 b6 b7 b8 b9 b10 f0 f1 f2 f3 f4 f5 f6 f7 f8 f9 f10 c0 c1 c2 c3 HBW HU hinv
      generalize wr.alloc (.cells #[.int .u8 x.letter, .int .i64 x.hand, .int .i64 x.promote, .slice au m cu] 61) = W at HCN HSZ e3 HINV HU2 ⊢
      obtain ⟨d0, d1, d2, d3⟩ := HCN
      have hgW : g < W.heap.size := by
        obtain ⟨_, _, ⟨news, h3⟩, _⟩ := HINV.out
        exact (h3.lt g rfl).2
      have HCL : Hid _ := Lib.hid (clone_ways way_moves way_celled x.ways (.slice au m cu) W.drew (HU2.out.mono fun _ _ _ h => h.2) (HF.out.2.2.2 x (List.mem_of_getElem? HXK.out)))
      clear d0 d1 d2 HSZ
      have n1 : ∀ (V : World) (o i : Nat) (z : Value), (V.setCell ⟨g, o, none⟩ z).cell? ⟨w.heap.size, i, none⟩ = V.cell? ⟨w.heap.size, i, none⟩ := fun V o i z => World.cell?_setCell_other _ _ _ _ (fun e => by rw [Addr.mk.injEq] at e; omega)
      have n2 : ∀ (V : World) (o i : Nat) (z : Value), (V.setCell ⟨g, o, none⟩ z).cell? ⟨wr.heap.size, i, none⟩ = V.cell? ⟨wr.heap.size, i, none⟩ := fun V o i z => World.cell?_setCell_other _ _ _ _ (fun e => by rw [Addr.mk.injEq] at e; omega)
      go_region_held3 (fun w' => w'.cell? ⟨w.heap.size, 3, none⟩ = some (.slice (some ⟨g, 0, none⟩) n cap) ∧ w'.cell? ⟨wr.heap.size, 3, none⟩ = some (.slice au m cu)) (go_keep)
        (first | (go_at_call 88; refine HCL.out.mono ?_; rintro e w2 ⟨v2, rfl, ⟨news2, hown2⟩, hsl2, hb2⟩; have s1 := cell_keeps hb2 (Nat.le_refl _) e3; have s2 := cell_keeps hb2 (Nat.le_refl _) d3; have HI2 := Lib.hid (HINV.out.below (W' := w2) (show Below W.heap.size W w2 from ⟨hb2.os, hb2.tape, hb2.output, hb2.size, hb2.block⟩)); obtain ⟨u0, hu0, hf0⟩ := HI2.out.atk HXK.out; obtain ⟨a2, cap2, rfl, _, _⟩ := hsl2.shape HM.out; have HS2 := Lib.hid hsl2; have HO2 := Lib.hid hown2; have HB2 := Lib.hid hb2; clear hsl2 hown2 hb2))
      have HSB : IsSl (Blk (Ap c w g) WayAt) 4 w2 (.slice a2 m cap2) x.ways := by
        rcases HS2.out with h | ⟨g2, off2, cap3, e1, e2, e4, e5, hc⟩
        · exact .inl h
        · have hg2 := (HO2.out.lt g2 (by rw [e1]; rfl)).1
          have hg3 : W.heap.size ≤ g2 := hg2
          exact .inr ⟨g2, off2, cap3, e1, e2, e4, e5, fun i y hy => ⟨⟨by omega, by omega, by omega, HCK.out g2 (by omega)⟩, hc i y hy⟩⟩
      have HN2 := Lib.hid (HI2.out.put hgl HXK.out HSB)
      clear HSB HI2 HO2 HS2 HB2 s1 s2 hu0 hf0 n1 n2 e3 HCL hgW hgr hbw HINV HU2
      go_wp2_with fail
      go_roundw
      case rel => exact ⟨k + 1, by omega, by go_num, HN2⟩
      case measure => simp [intOf]; omega
    · obtain rfl : n = k := by omega
      have HF1 := hinv.out.1.facts
      unfold RFacts BoxR at HF1
      obtain ⟨⟨b0, b1, b2, b3, b4, b5, b6, b7, b8, b9, b10⟩, f0, f1, f2, f3, f4, f5, f6, f7, f8, f9, f10⟩ := HF1
      go_wp2_with fail
      go_at_call 38
      refine (clone_start int_moves int_celled r.start _ _ (HR.out.1.2.1.below int_keeps hinv.out.2.2.2.2 (Nat.le_refl _)) HF.out.2.1.2).mono ?_
      rintro e w3 ⟨v3, rfl, ⟨news3, hown3⟩, hsl3, hb3⟩
      have HX3 := hinv.out.1.below hb3 (Array.getElem?_eq_some_iff.1 hinv.out.1).1
      have HX3F := HX3.facts
      obtain ⟨gs, cs3, rfl⟩ := Joins.ownsRow_form hown3 HF.out.2.1.1
      obtain rfl := own_ints hown3 hsl3 rfl
      have HXH := Lib.hid HX3
      have HO3 := Lib.hid hown3
      have HS3 := Lib.hid hsl3
      have HB3 := Lib.hid hb3
      clear HX3 hown3 hsl3 hb3 b0 b1 b2 b3 b4 b5 b6 b7 b8 b9 b10 f0 f1 f2 f3 f4 f5 f6 f7 f8 f9 f10
      unfold RFacts BoxR at HX3F
      obtain ⟨⟨b0, b1, b2, b3, b4, b5, b6, b7, b8, b9, b10⟩, f0, f1, f2, f3, f4, f5, f6, f7, f8, f9, f10⟩ := HX3F
      go_wp2_with fail
      go_at_call 89
      have hbw : w.heap.size < wr.heap.size := (Array.getElem?_eq_some_iff.1 hinv.out.1).1
      have hbw2 : w.heap.size + 1 < wr.heap.size := (Array.getElem?_eq_some_iff.1 hinv.out.2.1).1
      have hb4 : Below w.heap.size w (w3.setCell ⟨w.heap.size, 4, none⟩ (.slice (some ⟨gs, 0, none⟩) r.start.length cs3)) := (hinv.out.2.2.2.2.trans (HB3.out.mono hinv.out.2.2.2.2.size)).setCell (Nat.le_refl _) _
      have hx4 := HXH.out.set4 (.slice (some ⟨gs, 0, none⟩) r.start.length cs3)
      have hz4 := (hinv.out.2.1.below HB3.out hbw2).other (a := ⟨w.heap.size, 4, none⟩) (by simp) (.slice (some ⟨gs, 0, none⟩) r.start.length cs3)
      have ho4 := ownsRow_setCell_below HO3.out (a := ⟨w.heap.size, 4, none⟩) hbw (.slice (some ⟨gs, 0, none⟩) r.start.length cs3)
      have hs4 : Stays (fun k => k ≠ w.heap.size ∧ k ≠ w.heap.size + 1) wr (w3.setCell ⟨w.heap.size, 4, none⟩ (.slice (some ⟨gs, 0, none⟩) r.start.length cs3)) := (Stays.of HB3.out).set (by simp) _
      refine (clone_ends end_moves end_celled r.ends _ _ (HR.out.1.2.2.below end_keeps hb4 (Nat.le_refl _)) HF.out.2.2.1).mono ?_
      generalize w3.setCell ⟨w.heap.size, 4, none⟩ (.slice (some ⟨gs, 0, none⟩) r.start.length cs3) = w4 at hb4 hx4 hz4 ho4 hs4 ⊢
      rintro e w6 ⟨v6, rfl, ⟨news6, hown6⟩, hsl6, hb6⟩
      have hl1 := (Array.getElem?_eq_some_iff.1 hx4).1
      have hl2 := (Array.getElem?_eq_some_iff.1 hz4).1
      have HX6 := hx4.below hb6 hl1
      have HZ6 := hz4.below hb6 hl2
      have HO6 := Lib.hid (own_below ho4 hb6)
      have HB6 := Lib.hid (hb4.trans (hb6.mono hb4.size))
      have HS6 := Lib.hid (hs4.trans (Stays.of hb6))
      have HW4 := Lib.hid hs4.2
      have HG4 := Lib.hid (ho4.lt gs rfl)
      obtain ⟨ae, ce6, rfl, _, _⟩ := hsl6.shape rfl
      have HE6 := Lib.hid hown6
      have HL6 := Lib.hid hsl6
      have HX6F := HX6.facts
      have HZ6F := HZ6.facts
      have HXX := Lib.hid HX6
      have HZZ := Lib.hid HZ6
      clear hb4 hx4 hz4 ho4 hs4 hown6 hsl6 hb6 HX6 HZ6 hl1 hl2 b0 b1 b2 b3 b4 b5 b6 b7 b8 b9 b10 f0 f1 f2 f3 f4 f5 f6 f7 f8 f9 f10 HB3 HO3 HXH
      unfold RFacts BoxR at HX6F HZ6F
      obtain ⟨⟨b0, b1, b2, b3, b4, b5, b6, b7, b8, b9, b10⟩, f0, f1, f2, f3, f4, f5, f6, f7, f8, f9, f10⟩ := HX6F
      obtain ⟨⟨z0, z1, z2, z3, z4, z5, z6, z7, z8, z9, z10⟩, y0, y1, y2, y3, y4, y5, y6, y7, y8, y9, y10⟩ := HZ6F
      go_wp2_with fail
      have HF1 := HXX.out.set7 (.slice ae r.ends.length ce6)
      have HZ1 := HZZ.out.other (a := ⟨w.heap.size, 7, none⟩) (by simp) (.slice ae r.ends.length ce6)
      have HR2 := rbox_fill (r := r) (vp := .slice (some ⟨g, 0, none⟩) n cap) (vs := .slice (some ⟨gs, 0, none⟩) r.start.length cs3) (ve := .slice ae r.ends.length ce6) HZ1
      have HRF := HR2.facts
      have hbl := fill_below (HB6.out.setCell (p := ⟨w.heap.size, 7, none⟩) (Nat.le_refl _) (.slice ae r.ends.length ce6)) (b := w.heap.size + 1) (by omega) r (.slice (some ⟨g, 0, none⟩) n cap) (.slice (some ⟨gs, 0, none⟩) r.start.length cs3) (.slice ae r.ends.length ce6)
      have hfo := fill_other (w6.setCell ⟨w.heap.size, 7, none⟩ (.slice ae r.ends.length ce6)) (w.heap.size + 1) r (.slice (some ⟨g, 0, none⟩) n cap) (.slice (some ⟨gs, 0, none⟩) r.start.length cs3) (.slice ae r.ends.length ce6)
      unfold fill11 at HR2 HRF hbl hfo
      generalize ((((((((((((w6.setCell _ _).setCell _ _).setCell _ _).setCell _ _).setCell _ _).setCell _ _).setCell _ _).setCell _ _).setCell _ _).setCell _ _).setCell _ _).setCell _ _) = WF at HR2 HRF hbl hfo ⊢
      clear b0 b1 b2 b3 b4 b5 b6 b7 b8 b9 b10 f0 f1 f2 f3 f4 f5 f6 f7 f8 f9 f10 z0 z1 z2 z3 z4 z5 z6 z7 z8 z9 z10 y0 y1 y2 y3 y4 y5 y6 y7 y8 y9 y10 HF1 HZ1
      unfold RFacts BoxR at HRF
      obtain ⟨⟨b0, b1, b2, b3, b4, b5, b6, b7, b8, b9, b10⟩, f0, f1, f2, f3, f4, f5, f6, f7, f8, f9, f10⟩ := HRF
      have HBL := Lib.hid hbl
      have HFO := Lib.hid hfo
      clear hbl hfo
      refine bodyPost_ret (results_cell_row rfl _ _ (w.heap.size + 1) 26 _ (0, 0) _ rfl HR2 Try.underlying26 rfl (by kernel_rfl)) rfl ?_
      have hW4 : wr.heap.size ≤ w4.heap.size := HW4.out
      obtain ⟨hG4, hG5⟩ := HG4.out
      have hSF : Stays (fun k => k ≠ w.heap.size ∧ k ≠ w.heap.size + 1) wr WF := HS6.out.trans ⟨fun k _ hk => (HFO.out.1 k hk.2).trans (heap_setCell_other _ _ _ _ hk.1), by rw [HFO.out.2, World.size_setCell]; exact Nat.le_refl _⟩
      have hS6 : Stays (fun k => k ≠ w.heap.size ∧ k ≠ w.heap.size + 1) w6 WF := ⟨fun k _ hk => (HFO.out.1 k hk.2).trans (heap_setCell_other _ _ _ _ hk.1), by rw [HFO.out.2, World.size_setCell]; exact Nat.le_refl _⟩
      obtain ⟨_, _, ⟨news, h3⟩, h4, _⟩ := hinv.out
      have hgr : g < wr.heap.size := (h3.lt g rfl).2
      refine ⟨.slice (some ⟨g, 0, none⟩) n cap, gs, cs3, .slice ae r.ends.length ce6, rfl, ?_, ?_, ?_, HBL.out⟩
      · refine .inr ⟨g, 0, cap, by rw [HN.out], ?_, by rw [← HN.out]; exact hncap, own_max h3, fun i x hx => ⟨⟨by omega, HCK.out g (by omega)⟩, ?_⟩⟩
        · intro e; have := HF.out.1.1; rw [e] at this; simp at this
        · rw [Nat.zero_add]
          refine (hSF.piece (fun k hk => ⟨hk.1.2.1, hk.1.2.2.1⟩) (by omega) (h4 i x hx).here).weak (fun k hk => ⟨?_, hk.1.2.2.2⟩)
          have := hk.2; omega
      · rcases HL6.out with h | ⟨ge, oe, ce7, e1, e2, e4, e5, hc⟩
        · exact .inl h
        · have hge := (HE6.out.lt ge (by rw [e1]; rfl)).1
          exact .inr ⟨ge, oe, ce7, e1, e2, e4, e5, fun i y hy => hS6.endd (fun k hk => ⟨fun e => hk.2 (.inl e), fun e => hk.2 (.inr e)⟩) (c := fun k => (k ≠ gs ∧ c k) ∧ ¬ (k = w.heap.size ∨ k = w.heap.size + 1)) ⟨⟨⟨by omega, HCK.out ge (by omega)⟩, by omega⟩, hc i y hy⟩ |>.imp (fun h => h.1) id⟩
      · exact Joins.ownsRow_le (own_keep HO6.out ((HFO.out.1 gs (by omega)).trans (heap_setCell_other _ _ _ _ (by simp; omega)))) (by omega)
end Go.Proofs.Ythbilpgecombiaa
