/- A position that a call makes of its own, in memory: the struct, its cells and its two hands; what a store into each leaves. -/
import Derived.Test.YthbilpgecombiaaMovL
import Derived.Test.YthbilpgecombiaaPFill
import Derived.Test.YthbilpgecombiaaNear
set_option maxRecDepth 100000
namespace Go.Proofs.Ythbilpgecombiaa
open Go.ChangeShapes Go.WideShapes Go.ChangeAt Go.RowKit

theorem iv_at (xs : List Int) (i : Nat) : (iv xs)[i]? = xs[i]?.map (Value.int .i64) := by simp [iv]
theorem iv_set (xs : List Int) (i : Nat) (x : Int) : (iv xs).set i (.int .i64 x) = iv (xs.set i x) := by simp [iv, List.map_set]
theorem clone_own (xs : List Int) (v : Value) (w : World) (hv : IsSl IntAt 1 w v xs) (hl : xs.length ≤ 100) (hne : 1 ≤ xs.length) :
    Calls Try.prog 38 #[v] w fun e w' => ∃ g c, e = .returned (.slice (some ⟨g, 0, none⟩) xs.length c) ∧ w.heap.size ≤ g ∧ g < w'.heap.size ∧ w'.ownsRow w.heap.size 3 1 (.slice (some ⟨g, 0, none⟩) xs.length c) xs.length (iv xs) ∧ Below w.heap.size w w' := by
  refine (clone_start int_moves int_celled xs v w hv hl).mono ?_
  rintro e w' ⟨v', rfl, ⟨news, h2⟩, h3, h4⟩
  obtain ⟨g, off, cap, rfl, h5, hc⟩ := ints_open h3 hne
  rcases h2.2 with ⟨h6, _⟩ | ⟨g', cap', cur, e1, e2, e3, e4⟩
  · cases h6
  · simp only [Value.slice.injEq, Option.some.injEq, Addr.mk.injEq, and_true, true_and] at e1
    obtain ⟨⟨rfl, rfl⟩, rfl⟩ := e1
    have hlt := (Array.getElem?_eq_some_iff.1 e3).1
    have hnews : news = iv xs := by
      have hl1 : news.length = xs.length := by have := h2.1; omega
      apply List.ext_getElem?
      intro i
      rw [iv_at]
      by_cases hi : i < xs.length
      · have h7 := h2.cellAt i (by omega)
        have h8 := hc i hi
        rw [Nat.zero_add] at h8
        rw [← h7, h8, List.getElem?_eq_getElem hi]; rfl
      · rw [List.getElem?_eq_none (by omega), List.getElem?_eq_none (by omega)]; rfl
    rw [hnews] at h2
    exact ⟨g, cap, rfl, e2, hlt, h2, h4⟩
theorem five_facts {W : World} {b : Nat} {a c d e f : Value} {t : TypeId} (h : W.heap[b]? = some (.cells #[a, c, d, e, f] t (0, 0))) :
    W.cell? ⟨b, 0, none⟩ = some a ∧ W.cell? ⟨b, 1, none⟩ = some c ∧ W.cell? ⟨b, 2, none⟩ = some d ∧ W.cell? ⟨b, 3, none⟩ = some e ∧ W.cell? ⟨b, 4, none⟩ = some f ∧
    W.frozen? ⟨b, 0, none⟩ = false ∧ W.frozen? ⟨b, 1, none⟩ = false ∧ W.frozen? ⟨b, 2, none⟩ = false ∧ W.frozen? ⟨b, 3, none⟩ = false ∧ W.frozen? ⟨b, 4, none⟩ = false := by
  have hc : ∀ i, W.cell? ⟨b, i, none⟩ = (#[a, c, d, e, f] : Array Value)[i]? := fun i => cell_of_row W b i _ t (0, 0) h
  have hf : ∀ i, W.frozen? ⟨b, i, none⟩ = false := fun i => frozen_of_row W b i _ t h
  exact ⟨hc 0, hc 1, hc 2, hc 3, hc 4, hf 0, hf 1, hf 2, hf 3, hf 4⟩
abbrev rowV (g n c : Nat) : Value := .slice (some ⟨g, 0, none⟩) n c
theorem row_type {W : World} {B : Nat} {e : TypeId} {k g n c : Nat} {xs : List Value} (h : W.ownsRow B e k (rowV g n c) n xs) : ∃ cur, W.heap[g]? = some (.cells cur e (0, 0)) := by
  rcases h.2 with ⟨h', _⟩ | ⟨g', cap', cur, h', _, hg, _⟩
  · cases h'
  · simp only [rowV, Value.slice.injEq, Option.some.injEq, Addr.mk.injEq, and_true, true_and] at h'
    obtain ⟨rfl, rfl⟩ := h'
    exact ⟨cur, hg⟩
structure AftS (U W : World) (nb gc gh go m n cc ch co tn : Nat) (uA uB : Value) (C H O : List Int) (t q : Int) : Prop where
  bel : Below U.heap.size U W
  row : W.heap[nb]? = some (.cells #[rowV gc m cc, uA, uB, .int .i64 t, .int .i64 q] 29 (0, 0))
  nbs : U.heap.size ≤ nb
  oc : W.ownsRow U.heap.size 3 1 (rowV gc m cc) m (iv C)
  oh : W.ownsRow U.heap.size 3 1 (rowV gh n ch) n (iv H)
  oo : W.ownsRow U.heap.size 3 1 (rowV go n co) n (iv O)
  d1 : gc ≠ gh
  d2 : gc ≠ go
  d3 : gh ≠ go
  u0 : tn = 0 → uA = rowV gh n ch ∧ uB = rowV go n co
  u1 : tn = 1 → uA = rowV go n co ∧ uB = rowV gh n ch
section
variable {U W : World} {nb gc gh go m n cc ch co tn : Nat} {uA uB : Value} {C H O : List Int} {t q : Int}
theorem AftS.nc (h : AftS U W nb gc gh go m n cc ch co tn uA uB C H O t q) : nb ≠ gc := by
  intro e
  obtain ⟨cur, h2⟩ := row_type h.oc
  have h1 := h.row
  rw [e, h2] at h1
  simp at h1
theorem AftS.nh (h : AftS U W nb gc gh go m n cc ch co tn uA uB C H O t q) : nb ≠ gh := by
  intro e
  obtain ⟨cur, h2⟩ := row_type h.oh
  have h1 := h.row
  rw [e, h2] at h1
  simp at h1
theorem AftS.no (h : AftS U W nb gc gh go m n cc ch co tn uA uB C H O t q) : nb ≠ go := by
  intro e
  obtain ⟨cur, h2⟩ := row_type h.oo
  have h1 := h.row
  rw [e, h2] at h1
  simp at h1
theorem AftS.drewN (h : AftS U W nb gc gh go m n cc ch co tn uA uB C H O t q) (k : Nat) : AftS U (W.drewN k) nb gc gh go m n cc ch co tn uA uB C H O t q :=
  ⟨below_drewN h.bel _, h.row, h.nbs, h.oc, h.oh, h.oo, h.d1, h.d2, h.d3, h.u0, h.u1⟩
theorem owns_block {W W' : World} {B : Nat} {e : TypeId} {k g n c : Nat} {xs : List Value} (h : W.ownsRow B e k (rowV g n c) n xs) (hg : W'.heap[g]? = W.heap[g]?) : W'.ownsRow B e k (rowV g n c) n xs := own_keep h hg
theorem AftS.setC (h : AftS U W nb gc gh go m n cc ch co tn uA uB C H O t q) (j : Nat) (x : Int) : AftS U (W.setCell ⟨gc, j, none⟩ (.int .i64 x)) nb gc gh go m n cc ch co tn uA uB (C.set j x) H O t q := by
  have h1 := (h.oc.lt gc rfl).1
  refine ⟨h.bel.setCell (p := ⟨gc, j, none⟩) h1 _, (heap_setCell_other _ ⟨gc, j, none⟩ _ _ h.nc).trans h.row, h.nbs, ?_, owns_block h.oh (heap_setCell_other _ ⟨gc, j, none⟩ _ _ (Ne.symm h.d1)), owns_block h.oo (heap_setCell_other _ ⟨gc, j, none⟩ _ _ (Ne.symm h.d2)), h.d1, h.d2, h.d3, h.u0, h.u1⟩
  rw [← iv_set]
  exact (h.oc.stored j _).1
theorem AftS.setH (h : AftS U W nb gc gh go m n cc ch co tn uA uB C H O t q) (j : Nat) (x : Int) : AftS U (W.setCell ⟨gh, j, none⟩ (.int .i64 x)) nb gc gh go m n cc ch co tn uA uB C (H.set j x) O t q := by
  have h1 := (h.oh.lt gh rfl).1
  refine ⟨h.bel.setCell (p := ⟨gh, j, none⟩) h1 _, (heap_setCell_other _ ⟨gh, j, none⟩ _ _ h.nh).trans h.row, h.nbs, owns_block h.oc (heap_setCell_other _ ⟨gh, j, none⟩ _ _ h.d1), ?_, owns_block h.oo (heap_setCell_other _ ⟨gh, j, none⟩ _ _ (Ne.symm h.d3)), h.d1, h.d2, h.d3, h.u0, h.u1⟩
  rw [← iv_set]
  exact (h.oh.stored j _).1
theorem AftS.setQ (h : AftS U W nb gc gh go m n cc ch co tn uA uB C H O t q) (x : Int) : AftS U (W.setCell ⟨nb, 4, none⟩ (.int .i64 x)) nb gc gh go m n cc ch co tn uA uB C H O t x := by
  refine ⟨h.bel.setCell (p := ⟨nb, 4, none⟩) h.nbs _, heap_setCell_same _ nb 4 _ _ _ h.row, h.nbs, owns_block h.oc (heap_setCell_other _ ⟨nb, 4, none⟩ _ _ (Ne.symm h.nc)), owns_block h.oh (heap_setCell_other _ ⟨nb, 4, none⟩ _ _ (Ne.symm h.nh)), owns_block h.oo (heap_setCell_other _ ⟨nb, 4, none⟩ _ _ (Ne.symm h.no)), h.d1, h.d2, h.d3, h.u0, h.u1⟩
theorem owns_int {W : World} {B : Nat} {e : TypeId} {g n c : Nat} {xs : List Int} (h : W.ownsRow B e 1 (rowV g n c) n (iv xs)) {j : Nat} (hj : j < n) : W.cell? ⟨g, j, none⟩ = some (.int .i64 (xs[j]?.getD 0)) ∧ W.frozen? ⟨g, j, none⟩ = false ∧ n ≤ c := by
  have hl : xs.length = n := by have := h.1; rw [iv_length] at this; omega
  have hjl : j < xs.length := by omega
  refine ⟨?_, h.frozenAt j, ?_⟩
  · rw [h.cellAt j (by omega), iv_at, List.getElem?_eq_getElem hjl]; rfl
  · rcases h.2 with ⟨h', _⟩ | ⟨g', cap', cur, h', _, _, h3, _⟩
    · cases h'
    · simp only [rowV, Value.slice.injEq] at h'
      rw [h'.2.2]; exact h3
theorem AftS.hand (h : AftS U W nb gc gh go m n cc ch co tn uA uB C H O t q) (ht : tn ≤ 1) : W.cell? ⟨nb, 1 + tn, none⟩ = some (rowV gh n ch) := by
  have hc : ∀ i, W.cell? ⟨nb, i, none⟩ = (#[rowV gc m cc, uA, uB, .int .i64 t, .int .i64 q] : Array Value)[i]? := fun i => cell_of_row W nb i _ _ (0, 0) h.row
  have h2 : tn = 0 ∨ tn = 1 := by omega
  rcases h2 with h2 | h2
  · have h3 := h.u0 h2
    rw [h2, hc, h3.1]; rfl
  · have h3 := h.u1 h2
    rw [h2, hc, h3.2]; rfl
end
end Go.Proofs.Ythbilpgecombiaa
