/- Positions in a row beside a board: what the law BoardFollows keeps. -/
import Derived.Test.YtiligppdfldlfaaGreatDoorBrdS
import Derived.Test.YtiligppdfldlfaaGreatDoorRefA
import Derived.Test.YtiligppdfldlfaaGreatDoorRefE
import Derived.Test.YtiligppdfldlfaaGreatDoorRefK
import Derived.Test.YtiligppdfldlfaaGreatDoorRefS
import Derived.Test.YtiligppdfldlfaaGreatDoorWonL
import Derived.Test.YtiligppdfldlfaaGreatDoorThreeR
set_option maxRecDepth 100000
namespace Go.Proofs.YtiligppdfldlfaaGreatDoor
open Go.ChangeShapes Go.WideShapes Go.ChangeAt Go.RowKit

theorem put_law (s : Int) (w : World) : Calls Tryz.prog 27 #[.int .i64 s] w fun e w' => e = .returned (.agg #[.int .i64 (-1), .int .i64 s, .int .i64 0]) ∧ Below w.heap.size w w' := by
  go_enter Tryz.func27, Tryz.ntmps27
  go_wp2_with fail
  refine bodyPost_ret (results_cell_row rfl _ _ w.heap.size 41 _ (0, 0) _ rfl (heap_alloc_new w (.cells #[.int .i64 (-1), .int .i64 s, .int .i64 0] 41)) Tryz.underlying41 rfl (by kernel_rfl)) rfl ?_
  exact ⟨rfl, (Below.refl _ _).alloc (Nat.le_refl _) _⟩
theorem RowOf.lt {d : Nat → Prop} {W : World} {ps : List PlaceD} {news : List Value} (h : RowOf d W ps news) : RowOf (fun k => d k ∧ k < W.heap.size) W ps news := fun i p hi => by
  obtain ⟨ca, cn, cc, a0, n0, c0, a1, n1, c1, h1, h2⟩ := h i p hi
  exact ⟨ca, cn, cc, a0, n0, c0, a1, n1, c1, h1, h2.lt⟩
/-- A row of positions, none of whose blocks is of the kind D, in a block behind bb. -/
structure Pl (D : Nat → Prop) (W : World) (bb : Nat) (pa : Option Addr) (pn pc : Nat) (ps : List PlaceD) (news : List Value) : Prop where
  own : W.ownsRow (bb + 1) 29 5 (.slice pa pn pc) ps.length news
  row : RowOf (fun k => ¬ D k ∧ ∀ a, pa = some a → k ≠ a.block) W ps news
  nd : ∀ a, pa = some a → ¬ D a.block
theorem Pl.plt {D : Nat → Prop} {W : World} {bb : Nat} {pa : Option Addr} {pn pc : Nat} {ps : List PlaceD} {news : List Value} (h : Pl D W bb pa pn pc ps news) : ∀ a, pa = some a → bb + 1 ≤ a.block ∧ a.block < W.heap.size := fun a ha => by
  subst ha
  exact h.own.lt a.block rfl
theorem Pl.keep {D : Nat → Prop} {W W' : World} {bb : Nat} {pa : Option Addr} {pn pc : Nat} {ps : List PlaceD} {news : List Value} (h : Pl D W bb pa pn pc ps news) (hb : Below W.heap.size W W') : Pl D W' bb pa pn pc ps news :=
  ⟨own_below h.own hb, h.row.on (fun k _ hk => hb.block k hk) (fun _ x => x), h.nd⟩
theorem Pl.fram {D : Nat → Prop} {W W' : World} {bb : Nat} {pa : Option Addr} {pn pc : Nat} {ps : List PlaceD} {news : List Value} (h : Pl D W bb pa pn pc ps news) (hf : Fram D W W') : Pl (Grow D W W') W' bb pa pn pc ps news := by
  refine ⟨own_at h.own (fun a ha => hf.block a.block (h.plt a ha).2 (h.nd a ha)), h.row.lt.on (fun k hk hl => hf.block k hl hk.1.1) (fun k hk => ⟨fun g => ?_, hk.1.2⟩), fun a ha g => ?_⟩
  · rcases g with g | g
    · exact hk.1.1 g
    · have := hk.2; omega
  · rcases g with g | g
    · exact h.nd a ha g
    · have := (h.plt a ha).2; omega
theorem Pl.framD {D : Nat → Prop} {W W' : World} {bb : Nat} {pa : Option Addr} {pn pc : Nat} {ps : List PlaceD} {news : List Value} (h : Pl D W bb pa pn pc ps news) (hf : Fram D W W') : Pl D W' bb pa pn pc ps news :=
  ⟨own_at h.own (fun a ha => hf.block a.block (h.plt a ha).2 (h.nd a ha)), h.row.on (fun k hk hl => hf.block k hl hk.1) (fun _ x => x), h.nd⟩
theorem Pl.cut {D : Nat → Prop} {W : World} {bb g n pc : Nat} {es : List PlaceD} {q : PlaceD} {news : List Value} (h : Pl D W bb (some ⟨g, 0, none⟩) (n + 1) pc (es ++ [q]) news) (hn : n = es.length) : Pl D W bb (some ⟨g, 0, none⟩) n pc es (news.take (n * 5)) := by
  have hown := h.own
  have hl : (es ++ [q]).length = n + 1 := by simp [hn]
  rw [hl] at hown
  have h1 := own_cut hown (m := n) (by omega)
  refine ⟨by rw [← hn]; exact h1, fun i p hi => ?_, h.nd⟩
  have hin : i < n := by rw [hn]; exact (List.getElem?_eq_some_iff.1 hi).1
  obtain ⟨ca', cn', cc', a0', n0', c0', a1', n1', c1', h3, h4⟩ := h.row i p (by rw [List.getElem?_append_left (by rw [← hn]; exact hin)]; exact hi)
  exact ⟨ca', cn', cc', a0', n0', c0', a1', n1', c1', fun j hj => by rw [List.getElem?_take, if_pos (by omega)]; exact h3 j hj, h4⟩
/-- The last position of the row. -/
theorem Pl.last {D : Nat → Prop} {W : World} {bb pn pc : Nat} {pa : Option Addr} {es : List PlaceD} {q : PlaceD} {news : List Value} (h : Pl D W bb pa pn pc (es ++ [q]) news) {n : Nat} (hn : n = es.length) :
    ∃ g, pa = some ⟨g, 0, none⟩ ∧ pn = n + 1 ∧ n + 1 ≤ pc ∧ ∃ ca cn cc a0 n0 c0 a1 n1 c1, (W.cell? ⟨g, n * 5, none⟩ = some (.slice ca cn cc) ∧ W.cell? ⟨g, n * 5 + 1, none⟩ = some (.slice a0 n0 c0) ∧ W.cell? ⟨g, n * 5 + 2, none⟩ = some (.slice a1 n1 c1) ∧ W.cell? ⟨g, n * 5 + 3, none⟩ = some (.int .i64 q.turn) ∧ W.cell? ⟨g, n * 5 + 4, none⟩ = some (.int .i64 q.quiet)) ∧ PlaceIn W q (.slice ca cn cc) (.slice a0 n0 c0) (.slice a1 n1 c1) := by
  have hown := h.own
  have hl : (es ++ [q]).length = n + 1 := by simp [hn]
  rw [hl] at hown
  have hpn := own_len hown
  subst hpn
  obtain ⟨g, cap, he⟩ := Joins.ownsRow_form hown (by omega)
  simp only [Value.slice.injEq, true_and] at he
  obtain ⟨rfl, rfl⟩ := he
  obtain ⟨ca, cn, cc, a0, n0, c0, a1, n1, c1, hcs, hpf⟩ := h.row n q (by rw [hn]; simp)
  have hel : ∀ j, j < 5 → W.cell? ⟨g, n * 5 + j, none⟩ = (PlaceCells q (.slice ca cn cc) (.slice a0 n0 c0) (.slice a1 n1 c1))[j]? := fun j hj => (hown.cellAt (n * 5 + j) (by omega)).trans (hcs j hj)
  exact ⟨g, rfl, rfl, own_cap hown, ca, cn, cc, a0, n0, c0, a1, n1, c1, ⟨hel 0 (by decide), hel 1 (by decide), hel 2 (by decide), hel 3 (by decide), hel 4 (by decide)⟩, hpf.plain⟩
/-- One position more. -/
theorem Pl.add {D : Nat → Prop} {W X w7 : World} {bb gg cap N : Nat} {pa : Option Addr} {pn pc : Nat} {ps : List PlaceD} {news : List Value} {q : PlaceD} {xa xb xc : Option Addr} {xn xm yn ym zn zm : Nat} (h : Pl D W bb pa pn pc ps news) (hX : Below W.heap.size W X)
    (hq : PlaceF (fun k => N ≤ k) W q (.slice xa xn xm) (.slice xb yn ym) (.slice xc zn zm)) (hD : ∀ k, D k → k < N) (hpN : ∀ a, pa = some a → a.block < N) (hNW : N ≤ W.heap.size)
    (hown : w7.ownsRow (bb + 1) 29 5 (.slice (some ⟨gg, 0, none⟩) (ps.length + 1) cap) (ps.length + 1) (news ++ [.slice xa xn xm, .slice xb yn ym, .slice xc zn zm, .int .i64 q.turn, .int .i64 q.quiet])) (hgrow : X.grownBy w7 (Value.ownBlock (.slice pa pn pc))) (hat : Value.ownBlock (.slice pa pn pc) = some gg ∨ gg = W.heap.size + 1) :
    Pl D w7 bb (some ⟨gg, 0, none⟩) (ps.length + 1) cap (ps ++ [q]) (news ++ [.slice xa xn xm, .slice xb yn ym, .slice xc zn zm, .int .i64 q.turn, .int .i64 q.quiet]) ∧ (∀ k, k < W.heap.size → (∀ a, pa = some a → k ≠ a.block) → w7.heap[k]? = W.heap[k]?) := by
  have hob : ∀ k, Value.ownBlock (.slice pa pn pc) = some k → ∃ a, pa = some a ∧ a.block = k := fun k hk => by
    cases pa with
    | none => simp [Value.ownBlock] at hk
    | some a => simp [Value.ownBlock] at hk; exact ⟨a, rfl, hk⟩
  have h7 : ∀ k, k < W.heap.size → (∀ a, pa = some a → k ≠ a.block) → w7.heap[k]? = W.heap[k]? := fun k hk hne => (hgrow.block k (by have := hX.size; omega) (fun e => by
    obtain ⟨a, ha, hb⟩ := hob k e.symm
    exact hne a ha hb.symm)).trans (hX.block k hk)
  have hnl : news.length = ps.length * 5 := h.own.1
  have hgg : ∀ k, k < W.heap.size → (∀ a, pa = some a → k ≠ a.block) → k ≠ gg := fun k h1 h2 e => by
    rcases hat with h | h
    · obtain ⟨a, ha, hb⟩ := hob gg h
      exact h2 a ha (by omega)
    · omega
  refine ⟨⟨by rw [List.length_append]; exact hown, fun i p hi => ?_, fun a ha g => ?_⟩, h7⟩
  · by_cases hin : i < ps.length
    · rw [List.getElem?_append_left hin] at hi
      obtain ⟨ca', cn', cc', a0', n0', c0', a1', n1', c1', h1, h2⟩ := h.row i p hi
      exact ⟨ca', cn', cc', a0', n0', c0', a1', n1', c1', fun j hj => by rw [List.getElem?_append_left (by omega)]; exact h1 j hj, h2.lt.on (fun k hk hl => h7 k hl hk.1.2) (fun k hk => ⟨hk.1.1, fun a ha => by cases ha; exact hgg k hk.2 hk.1.2⟩)⟩
    · have hi2 := (List.getElem?_eq_some_iff.1 hi).1
      simp at hi2
      obtain rfl : i = ps.length := by omega
      rw [List.getElem?_append_right (by omega)] at hi
      simp at hi
      subst hi
      have hne : ∀ k, N ≤ k → ∀ a, pa = some a → k ≠ a.block := fun k hk a ha => by have := hpN a ha; omega
      refine ⟨xa, xn, xm, xb, yn, ym, xc, zn, zm, fun j hj => ?_, hq.lt.on (fun k hk hl => h7 k hl (hne k hk.1)) (fun k hk => ⟨fun g => by have := hD k g; omega, fun a ha => by cases ha; exact hgg k hk.2 (hne k hk.1)⟩)⟩
      rw [List.getElem?_append_right (by omega), hnl, Nat.add_sub_cancel_left]
      match j, hj with
      | 0, _ => rfl
      | 1, _ => rfl
      | 2, _ => rfl
      | 3, _ => rfl
      | 4, _ => rfl
  · cases ha
    rcases hat with h1 | h1
    · obtain ⟨a, ha, hb⟩ := hob gg h1
      exact h.nd a ha (by rw [hb]; exact g)
    · have := hD gg g; omega
/-- A board and its row of positions. -/
def BF (w3 : World) (bb : Nat) (r : RulesD) (W : World) (q : PlaceD) (es : List PlaceD) (pa : Option Addr) (pn pc : Nat) : Prop :=
  ∃ D news, Brd (fun _ => True) D W bb r q es ∧ (∀ k, D k → w3.heap.size ≤ k) ∧ Pl D W bb pa pn pc (es ++ [q]) news ∧ Below w3.heap.size w3 W
theorem BF.keep {w3 W W' : World} {bb : Nat} {r : RulesD} {q : PlaceD} {es : List PlaceD} {pa : Option Addr} {pn pc : Nat} (h : BF w3 bb r W q es pa pn pc) (hb : Below W.heap.size W W') : BF w3 bb r W' q es pa pn pc := by
  obtain ⟨D, news, h1, h2, h3, h4⟩ := h
  exact ⟨D, news, h1.keep hb, h2, h3.keep hb, h4.trans (hb.mono h4.size)⟩
theorem BF.bel {w3 W : World} {bb : Nat} {r : RulesD} {q : PlaceD} {es : List PlaceD} {pa : Option Addr} {pn pc : Nat} (h : BF w3 bb r W q es pa pn pc) : Below w3.heap.size w3 W := by
  obtain ⟨D, news, h1, h2, h3, h4⟩ := h
  exact h4
theorem BF.bat {w3 W : World} {bb : Nat} {r : RulesD} {q : PlaceD} {es : List PlaceD} {pa : Option Addr} {pn pc : Nat} (h : BF w3 bb r W q es pa pn pc) : BAt w3 (fun _ => True) W bb r q es := by
  obtain ⟨D, news, h1, h2, h3, h4⟩ := h
  exact ⟨⟨D, h1, h2⟩, h4⟩
theorem BF.undo {w3 W : World} {bb g n pc : Nat} {r : RulesD} {q p : PlaceD} {es fs : List PlaceD} (h : BF w3 bb r W q es (some ⟨g, 0, none⟩) (n + 1) pc) (hn : n = es.length) (he : es = fs ++ [p]) (hf : fs.length ≤ 1000) :
    Calls Tryz.prog 14 #[.pointer (some ⟨bb, 0, none⟩)] W fun e w' => e = .returned (.int .i64 0) ∧ BF w3 bb r w' p fs (some ⟨g, 0, none⟩) n pc := by
  obtain ⟨D, news, h1, h2, h3, h4⟩ := h
  have h3' := h3.cut hn
  subst he
  refine (undo_ok h1 hf).mono ?_
  rintro e w' ⟨rfl, h5, h6⟩
  exact ⟨rfl, D, _, h5, h2, h3'.framD h6, h4.trans (h6.below h4.size h2)⟩
theorem BF.doOk {w3 W X w7 : World} {bb gg cap N pn pc : Nat} {pa : Option Addr} {r : RulesD} {q : PlaceD} {es : List PlaceD} {m : MoveD} {D : Nat → Prop} {news : List Value} {xa xb xc : Option Addr} {xn xm yn ym zn zm : Nat} (h1 : Brd (fun _ => True) D W bb r q es) (h2 : ∀ k, D k → w3.heap.size ≤ k) (h3 : Pl D W bb pa pn pc (es ++ [q]) news) (h4 : Below w3.heap.size w3 W) (hres : resultD r q = 0) (hl : legalB r q m = true) (hn : es.length ≤ 100)
    (hX : Below W.heap.size W X) (hq : PlaceF (fun k => N ≤ k) W (afterD r q m) (.slice xa xn xm) (.slice xb yn ym) (.slice xc zn zm)) (hD : ∀ k, D k → k < N) (hpN : ∀ a, pa = some a → a.block < N) (hNW : N ≤ W.heap.size)
    (hown : w7.ownsRow (bb + 1) 29 5 (.slice (some ⟨gg, 0, none⟩) ((es ++ [q]).length + 1) cap) ((es ++ [q]).length + 1) (news ++ [.slice xa xn xm, .slice xb yn ym, .slice xc zn zm, .int .i64 (afterD r q m).turn, .int .i64 (afterD r q m).quiet])) (hgrow : X.grownBy w7 (Value.ownBlock (.slice pa pn pc))) (hat : Value.ownBlock (.slice pa pn pc) = some gg ∨ gg = W.heap.size + 1) :
    Below w3.heap.size w3 w7 ∧ Calls Tryz.prog 11 #[.pointer (some ⟨bb, 0, none⟩), moveV m] w7 fun e w' => e = .returned (.int .i64 0) ∧ BF w3 bb r w' (afterD r q m) (es ++ [q]) (some ⟨gg, 0, none⟩) ((es ++ [q]).length + 1) cap := by
  obtain ⟨h5, h6⟩ := h3.add hX hq hD hpN hNW hown hgrow hat
  have hbD := h1.ok.2.2.2
  have hb3 : w3.heap.size ≤ bb := h2 bb hbD
  have hbel : Below w3.heap.size w3 w7 := (h4.trans (hX.mono h4.size)).grown hgrow (by have := h4.size; have := hX.size; omega) (fun k hk => by
    cases pa with
    | none => simp [Value.ownBlock] at hk
    | some a => simp [Value.ownBlock] at hk; have := (h3.plt a rfl).1; omega)
  have hsz : W.heap.size ≤ w7.heap.size := Nat.le_trans hX.size hgrow.size
  have hbb : bb < W.heap.size := h1.ok.2.2.1 bb hbD
  have h7 : Brd (fun _ => True) D w7 bb r q es := h1.keepOn (fun k hk _ => h6 k (by omega) (fun a ha => by have := (h3.plt a ha).1; omega)) hsz (fun k hk => h6 k (h1.ok.2.2.1 k hk) (fun a ha e => h3.nd a ha (by rw [← e]; exact hk)))
  refine ⟨hbel, (do_ok h7 hres m hl hn).mono ?_⟩
  rintro e w' ⟨rfl, h8, h9⟩
  refine ⟨rfl, _, _, h8, fun k hk => ?_, h5.fram h9, hbel.trans (h9.below hbel.size h2)⟩
  rcases hk with hk | hk
  · exact h2 k hk
  · have := hbel.size; omega
end Go.Proofs.YtiligppdfldlfaaGreatDoor
