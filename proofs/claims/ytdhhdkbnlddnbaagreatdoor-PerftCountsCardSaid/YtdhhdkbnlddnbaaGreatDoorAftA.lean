/- Merged by merge.py of the texts Aft AftN MovN MovE MovH. -/
import Derived.Test.YtdhhdkbnlddnbaaGreatDoorMvB
import Derived.Test.YtdhhdkbnlddnbaaGreatDoorPlcA
import Derived.Test.YtdhhdkbnlddnbaaGreatDoorPlcF
import Derived.Test.YtdhhdkbnlddnbaaGreatDoorMvA
import Derived.Deep.CutRange
import Derived.Deep.RegionLaw
import Derived.Test.YtdhhdkbnlddnbaaGreatDoorOthA
import Derived.Laws.ResultCell
set_option maxRecDepth 100000
namespace Go.Proofs.YtdhhdkbnlddnbaaGreatDoor
open Go.ChangeShapes Go.WideShapes Go.ChangeAt Go.RowKit

theorem iv_at (xs : List Int) (i : Nat) : (iv xs)[i]? = xs[i]?.map (Value.int .i64) := by simp [iv]
theorem iv_set (xs : List Int) (i : Nat) (x : Int) : (iv xs).set i (.int .i64 x) = iv (xs.set i x) := by simp [iv, List.map_set]
theorem clone_own (xs : List Int) (v : Value) (w : World) (hv : IsSl IntAt 1 w v xs) (hl : xs.length ≤ 100) (hne : 1 ≤ xs.length) :
    Calls Tryz.prog 49 #[v] w fun e w' => ∃ g c, e = .returned (.slice (some ⟨g, 0, none⟩) xs.length c) ∧ w.heap.size ≤ g ∧ g < w'.heap.size ∧ w'.ownsRow w.heap.size 3 1 (.slice (some ⟨g, 0, none⟩) xs.length c) xs.length (iv xs) ∧ Below w.heap.size w w' := by
  refine (clone_start int_moves int_celled xs v w hv hl).mono ?_
  rintro e w' ⟨v', rfl, ⟨news, h2⟩, h3, h4⟩
  obtain ⟨g, off, cap, rfl, h5, hc⟩ := ints_open h3 hne
  rcases h2.2 with ⟨h6, _⟩ | ⟨g', cap', cur, e1, e2, e3, e4⟩
  · cases h6
  · simp only [Value.slice.injEq, Option.some.injEq, Addr.mk.injEq, and_true, true_and] at e1
    obtain ⟨⟨rfl, rfl⟩, rfl⟩ := e1
    have hlt := (Array.getElem?_eq_some_iff.1 e3).1
    have hnews : news = iv xs := by
      have hl1 : news.length = xs.length := by have := h2.1; omega
      apply List.ext_getElem?
      intro i
      rw [iv_at]
      by_cases hi : i < xs.length
      · have h7 := h2.cellAt i (by omega)
        have h8 := hc i hi
        rw [Nat.zero_add] at h8
        rw [← h7, h8, List.getElem?_eq_getElem hi]; rfl
      · rw [List.getElem?_eq_none (by omega), List.getElem?_eq_none (by omega)]; rfl
    rw [hnews] at h2
    exact ⟨g, cap, rfl, e2, hlt, h2, h4⟩
theorem five_facts {W : World} {b : Nat} {a c d e f : Value} {t : TypeId} (h : W.heap[b]? = some (.cells #[a, c, d, e, f] t (0, 0))) :
    W.cell? ⟨b, 0, none⟩ = some a ∧ W.cell? ⟨b, 1, none⟩ = some c ∧ W.cell? ⟨b, 2, none⟩ = some d ∧ W.cell? ⟨b, 3, none⟩ = some e ∧ W.cell? ⟨b, 4, none⟩ = some f ∧
    W.frozen? ⟨b, 0, none⟩ = false ∧ W.frozen? ⟨b, 1, none⟩ = false ∧ W.frozen? ⟨b, 2, none⟩ = false ∧ W.frozen? ⟨b, 3, none⟩ = false ∧ W.frozen? ⟨b, 4, none⟩ = false := by
  have hc : ∀ i, W.cell? ⟨b, i, none⟩ = (#[a, c, d, e, f] : Array Value)[i]? := fun i => cell_of_row W b i _ t (0, 0) h
  have hf : ∀ i, W.frozen? ⟨b, i, none⟩ = false := fun i => frozen_of_row W b i _ t h
  exact ⟨hc 0, hc 1, hc 2, hc 3, hc 4, hf 0, hf 1, hf 2, hf 3, hf 4⟩
abbrev rowV (g n c : Nat) : Value := .slice (some ⟨g, 0, none⟩) n c
theorem row_type {W : World} {B : Nat} {e : TypeId} {k g n c : Nat} {xs : List Value} (h : W.ownsRow B e k (rowV g n c) n xs) : ∃ cur, W.heap[g]? = some (.cells cur e (0, 0)) := by
  rcases h.2 with ⟨h', _⟩ | ⟨g', cap', cur, h', _, hg, _⟩
  · cases h'
  · simp only [rowV, Value.slice.injEq, Option.some.injEq, Addr.mk.injEq, and_true, true_and] at h'
    obtain ⟨rfl, rfl⟩ := h'
    exact ⟨cur, hg⟩
structure AftS (U W : World) (nb gc gh go m n cc ch co tn : Nat) (uA uB : Value) (C H O : List Int) (t q : Int) : Prop where
  bel : Below U.heap.size U W
  row : W.heap[nb]? = some (.cells #[rowV gc m cc, uA, uB, .int .i64 t, .int .i64 q] 29 (0, 0))
  nbs : U.heap.size ≤ nb
  oc : W.ownsRow U.heap.size 3 1 (rowV gc m cc) m (iv C)
  oh : W.ownsRow U.heap.size 3 1 (rowV gh n ch) n (iv H)
  oo : W.ownsRow U.heap.size 3 1 (rowV go n co) n (iv O)
  d1 : gc ≠ gh
  d2 : gc ≠ go
  d3 : gh ≠ go
  u0 : tn = 0 → uA = rowV gh n ch ∧ uB = rowV go n co
  u1 : tn = 1 → uA = rowV go n co ∧ uB = rowV gh n ch
section
variable {U W : World} {nb gc gh go m n cc ch co tn : Nat} {uA uB : Value} {C H O : List Int} {t q : Int}
theorem AftS.nc (h : AftS U W nb gc gh go m n cc ch co tn uA uB C H O t q) : nb ≠ gc := by
  intro e
  obtain ⟨cur, h2⟩ := row_type h.oc
  have h1 := h.row
  rw [e, h2] at h1
  simp at h1
theorem AftS.nh (h : AftS U W nb gc gh go m n cc ch co tn uA uB C H O t q) : nb ≠ gh := by
  intro e
  obtain ⟨cur, h2⟩ := row_type h.oh
  have h1 := h.row
  rw [e, h2] at h1
  simp at h1
theorem AftS.no (h : AftS U W nb gc gh go m n cc ch co tn uA uB C H O t q) : nb ≠ go := by
  intro e
  obtain ⟨cur, h2⟩ := row_type h.oo
  have h1 := h.row
  rw [e, h2] at h1
  simp at h1
theorem AftS.drewN (h : AftS U W nb gc gh go m n cc ch co tn uA uB C H O t q) (k : Nat) : AftS U (W.drewN k) nb gc gh go m n cc ch co tn uA uB C H O t q :=
  ⟨below_drewN h.bel _, h.row, h.nbs, h.oc, h.oh, h.oo, h.d1, h.d2, h.d3, h.u0, h.u1⟩
theorem owns_block {W W' : World} {B : Nat} {e : TypeId} {k g n c : Nat} {xs : List Value} (h : W.ownsRow B e k (rowV g n c) n xs) (hg : W'.heap[g]? = W.heap[g]?) : W'.ownsRow B e k (rowV g n c) n xs := own_keep h hg
theorem AftS.setC (h : AftS U W nb gc gh go m n cc ch co tn uA uB C H O t q) (j : Nat) (x : Int) : AftS U (W.setCell ⟨gc, j, none⟩ (.int .i64 x)) nb gc gh go m n cc ch co tn uA uB (C.set j x) H O t q := by
  have h1 := (h.oc.lt gc rfl).1
  refine ⟨h.bel.setCell (p := ⟨gc, j, none⟩) h1 _, (heap_setCell_other _ ⟨gc, j, none⟩ _ _ h.nc).trans h.row, h.nbs, ?_, owns_block h.oh (heap_setCell_other _ ⟨gc, j, none⟩ _ _ (Ne.symm h.d1)), owns_block h.oo (heap_setCell_other _ ⟨gc, j, none⟩ _ _ (Ne.symm h.d2)), h.d1, h.d2, h.d3, h.u0, h.u1⟩
  rw [← iv_set]
  exact (h.oc.stored j _).1
theorem AftS.setH (h : AftS U W nb gc gh go m n cc ch co tn uA uB C H O t q) (j : Nat) (x : Int) : AftS U (W.setCell ⟨gh, j, none⟩ (.int .i64 x)) nb gc gh go m n cc ch co tn uA uB C (H.set j x) O t q := by
  have h1 := (h.oh.lt gh rfl).1
  refine ⟨h.bel.setCell (p := ⟨gh, j, none⟩) h1 _, (heap_setCell_other _ ⟨gh, j, none⟩ _ _ h.nh).trans h.row, h.nbs, owns_block h.oc (heap_setCell_other _ ⟨gh, j, none⟩ _ _ h.d1), ?_, owns_block h.oo (heap_setCell_other _ ⟨gh, j, none⟩ _ _ (Ne.symm h.d3)), h.d1, h.d2, h.d3, h.u0, h.u1⟩
  rw [← iv_set]
  exact (h.oh.stored j _).1
theorem AftS.setQ (h : AftS U W nb gc gh go m n cc ch co tn uA uB C H O t q) (x : Int) : AftS U (W.setCell ⟨nb, 4, none⟩ (.int .i64 x)) nb gc gh go m n cc ch co tn uA uB C H O t x := by
  refine ⟨h.bel.setCell (p := ⟨nb, 4, none⟩) h.nbs _, heap_setCell_same _ nb 4 _ _ _ h.row, h.nbs, owns_block h.oc (heap_setCell_other _ ⟨nb, 4, none⟩ _ _ (Ne.symm h.nc)), owns_block h.oh (heap_setCell_other _ ⟨nb, 4, none⟩ _ _ (Ne.symm h.nh)), owns_block h.oo (heap_setCell_other _ ⟨nb, 4, none⟩ _ _ (Ne.symm h.no)), h.d1, h.d2, h.d3, h.u0, h.u1⟩
theorem owns_int {W : World} {B : Nat} {e : TypeId} {g n c : Nat} {xs : List Int} (h : W.ownsRow B e 1 (rowV g n c) n (iv xs)) {j : Nat} (hj : j < n) : W.cell? ⟨g, j, none⟩ = some (.int .i64 (xs[j]?.getD 0)) ∧ W.frozen? ⟨g, j, none⟩ = false ∧ n ≤ c := by
  have hl : xs.length = n := by have := h.1; rw [iv_length] at this; omega
  have hjl : j < xs.length := by omega
  refine ⟨?_, h.frozenAt j, ?_⟩
  · rw [h.cellAt j (by omega), iv_at, List.getElem?_eq_getElem hjl]; rfl
  · rcases h.2 with ⟨h', _⟩ | ⟨g', cap', cur, h', _, _, h3, _⟩
    · cases h'
    · simp only [rowV, Value.slice.injEq] at h'
      rw [h'.2.2]; exact h3
theorem AftS.hand (h : AftS U W nb gc gh go m n cc ch co tn uA uB C H O t q) (ht : tn ≤ 1) : W.cell? ⟨nb, 1 + tn, none⟩ = some (rowV gh n ch) := by
  have hc : ∀ i, W.cell? ⟨nb, i, none⟩ = (#[rowV gc m cc, uA, uB, .int .i64 t, .int .i64 q] : Array Value)[i]? := fun i => cell_of_row W nb i _ _ (0, 0) h.row
  have h2 : tn = 0 ∨ tn = 1 := by omega
  rcases h2 with h2 | h2
  · have h3 := h.u0 h2
    rw [h2, hc, h3.1]; rfl
  · have h3 := h.u1 h2
    rw [h2, hc, h3.2]; rfl
end
end Go.Proofs.YtdhhdkbnlddnbaaGreatDoor

set_option maxRecDepth 100000
namespace Go.Proofs.YtdhhdkbnlddnbaaGreatDoor
open Go.ChangeShapes Go.WideShapes Go.ChangeAt Go.RowKit

def otherI (p : PlaceD) : List Int := if p.turn = 0 then p.h1 else p.h0
theorem owns_base {W : World} {B B' : Nat} {e : TypeId} {k g n c : Nat} {xs : List Value} (h : W.ownsRow B e k (rowV g n c) n xs) (hb : B' ≤ g) : W.ownsRow B' e k (rowV g n c) n xs := by
  refine ⟨h.1, ?_⟩
  rcases h.2 with h2 | ⟨g', cap, cur, e1, e2, e3⟩
  · exact .inl h2
  · refine .inr ⟨g', cap, cur, e1, ?_, e3⟩
    simp only [rowV, Value.slice.injEq, Option.some.injEq, Addr.mk.injEq, and_true, true_and] at e1
    rw [← e1.1]; exact hb
theorem aft_make {U w5 w6 w7 F : World} {nb gC gA gB m n cC cA cB b5 b6 b7 tn : Nat} {p : PlaceD} {q : Int}
    (hoC : w5.ownsRow b5 3 1 (rowV gC m cC) m (iv p.cells)) (hoA : w6.ownsRow b6 3 1 (rowV gA n cA) n (iv p.h0)) (hoB : w7.ownsRow b7 3 1 (rowV gB n cB) n (iv p.h1))
    (c0 : U.heap.size ≤ gC) (c1 : gC < w5.heap.size) (a0 : w5.heap.size ≤ gA) (a1 : gA < w6.heap.size) (e0 : w6.heap.size ≤ gB) (e1 : gB < w7.heap.size)
    (hB56 : Below w5.heap.size w5 w6) (hB67 : Below w6.heap.size w6 w7) (hF : ∀ k, k ≠ nb → k < w7.heap.size → F.heap[k]? = w7.heap[k]?) (hbel : Below U.heap.size U F) (hnb : U.heap.size ≤ nb)
    (n1 : gC ≠ nb) (n2 : gA ≠ nb) (n3 : gB ≠ nb) (hrow : F.heap[nb]? = some (.cells #[rowV gC m cC, rowV gA n cA, rowV gB n cB, .int .i64 (1 - (tn : Int)), .int .i64 q] 29 (0, 0)))
    (ht : p.turn = (tn : Int)) (htn : tn ≤ 1) :
    ∃ nb' gc gh go cc ch co uA uB, Value.pointer (some ⟨nb, 0, none⟩) = .pointer (some ⟨nb', 0, none⟩) ∧ Hid (AftS U F nb' gc gh go m n cc ch co tn uA uB p.cells (handI p) (otherI p) (1 - (tn : Int)) q) := by
  have s5 := hB56.size
  have s6 := hB67.size
  have kC := owns_base (owns_block hoC ((hF gC n1 (by omega)).trans ((hB67.block gC (by omega)).trans (hB56.block gC c1)))) c0
  have kA := owns_base (B' := U.heap.size) (owns_block hoA ((hF gA n2 (by omega)).trans (hB67.block gA a1))) (by omega)
  have kB := owns_base (B' := U.heap.size) (owns_block hoB (hF gB n3 e1)) (by omega)
  have h2 : tn = 0 ∨ tn = 1 := by omega
  rcases h2 with h2 | h2
  · refine ⟨nb, gC, gA, gB, cC, cA, cB, _, _, rfl, Lib.hid ⟨hbel, hrow, hnb, kC, ?_, ?_, by omega, by omega, by omega, fun _ => ⟨rfl, rfl⟩, fun h => by omega⟩⟩
    · rw [handI, if_pos (by rw [ht, h2]; rfl)]; exact kA
    · rw [otherI, if_pos (by rw [ht, h2]; rfl)]; exact kB
  · refine ⟨nb, gC, gB, gA, cC, cB, cA, _, _, rfl, Lib.hid ⟨hbel, hrow, hnb, kC, ?_, ?_, by omega, by omega, by omega, fun h => by omega, fun _ => ⟨rfl, rfl⟩⟩⟩
    · rw [handI, if_neg (by rw [ht, h2]; decide)]; exact kB
    · rw [otherI, if_neg (by rw [ht, h2]; decide)]; exact kA
theorem aft_new {U w5 w6 w7 : World} {gC gA gB m n cC cA cB b5 b6 b7 tn : Nat} {p : PlaceD} {q : Int}
    (hoC : w5.ownsRow b5 3 1 (rowV gC m cC) m (iv p.cells)) (hoA : w6.ownsRow b6 3 1 (rowV gA n cA) n (iv p.h0)) (hoB : w7.ownsRow b7 3 1 (rowV gB n cB) n (iv p.h1))
    (c0 : U.heap.size ≤ gC) (c1 : gC < w5.heap.size) (a0 : w5.heap.size ≤ gA) (a1 : gA < w6.heap.size) (e0 : w6.heap.size ≤ gB) (e1 : gB < w7.heap.size)
    (hB56 : Below w5.heap.size w5 w6) (hB67 : Below w6.heap.size w6 w7) (hB7 : Below U.heap.size U w7) (ht : p.turn = (tn : Int)) (htn : tn ≤ 1) :
    ∃ nb' gc gh go cc ch co uA uB, Value.pointer (some ⟨w7.heap.size, 0, none⟩) = .pointer (some ⟨nb', 0, none⟩) ∧ Hid (AftS U (w7.alloc (.cells #[rowV gC m cC, rowV gA n cA, rowV gB n cB, .int .i64 (1 - (tn : Int)), .int .i64 q] 29)) nb' gc gh go m n cc ch co tn uA uB p.cells (handI p) (otherI p) (1 - (tn : Int)) q) := by
  have s5 := hB56.size
  have s6 := hB67.size
  exact aft_make hoC hoA hoB c0 c1 a0 a1 e0 e1 hB56 hB67 (fun k _ hk => Below.heap_alloc w7 _ k hk) (hB7.alloc hB7.size _) hB7.size (by omega) (by omega) (by omega) (heap_alloc_new w7 _) ht htn
theorem aft_fill {U w5 w6 w7 : World} {nb gC gA gB m n cC cA cB b5 b6 b7 tn : Nat} {p : PlaceD} {q : Int}
    (hoC : w5.ownsRow b5 3 1 (rowV gC m cC) m (iv p.cells)) (hoA : w6.ownsRow b6 3 1 (rowV gA n cA) n (iv p.h0)) (hoB : w7.ownsRow b7 3 1 (rowV gB n cB) n (iv p.h1))
    (c0 : U.heap.size ≤ gC) (c1 : gC < w5.heap.size) (a0 : w5.heap.size ≤ gA) (a1 : gA < w6.heap.size) (e0 : w6.heap.size ≤ gB) (e1 : gB < w7.heap.size)
    (hB56 : Below w5.heap.size w5 w6) (hB67 : Below w6.heap.size w6 w7) (hB7 : Below U.heap.size U w7) (ht : p.turn = (tn : Int)) (htn : tn ≤ 1)
    (hA7 : w7.heap[nb]? = some (.cells #[.slice none 0 0, .slice none 0 0, .slice none 0 0, .int .i64 0, .int .i64 0] 29 (0, 0))) (hnb : U.heap.size ≤ nb) (n1 : gC ≠ nb) (n2 : gA ≠ nb) (n3 : gB ≠ nb) :
    ∃ nb' gc gh go cc ch co uA uB, Value.pointer (some ⟨nb, 0, none⟩) = .pointer (some ⟨nb', 0, none⟩) ∧ Hid (AftS U (((((w7.setCell ⟨nb, 0, none⟩ (rowV gC m cC)).setCell ⟨nb, 1, none⟩ (rowV gA n cA)).setCell ⟨nb, 2, none⟩ (rowV gB n cB)).setCell ⟨nb, 3, none⟩ (.int .i64 (1 - (tn : Int)))).setCell ⟨nb, 4, none⟩ (.int .i64 q)) nb' gc gh go m n cc ch co tn uA uB p.cells (handI p) (otherI p) (1 - (tn : Int)) q) := by
  have hR : PBox w7 nb 29 zeroP (.slice none 0 0) (.slice none 0 0) (.slice none 0 0) := hA7
  have h1 := pbox_fill (p := ⟨[], [], [], 1 - (tn : Int), q⟩) (vc := rowV gC m cC) (v0 := rowV gA n cA) (v1 := rowV gB n cB) hR
  have h2 := fillP_other w7 nb ⟨[], [], [], 1 - (tn : Int), q⟩ (rowV gC m cC) (rowV gA n cA) (rowV gB n cB)
  have h3 := fillP_below hB7 hnb ⟨[], [], [], 1 - (tn : Int), q⟩ (rowV gC m cC) (rowV gA n cA) (rowV gB n cB)
  exact aft_make hoC hoA hoB c0 c1 a0 a1 e0 e1 hB56 hB67 (fun k hk _ => h2.1 k hk) h3 hnb n1 n2 n3 h1 ht htn
end Go.Proofs.YtdhhdkbnlddnbaaGreatDoor

set_option maxRecDepth 100000
namespace Go.Proofs.YtdhhdkbnlddnbaaGreatDoor
open Go.ChangeShapes Go.WideShapes Go.ChangeAt Go.RowKit

def FreshPlc (p : PlaceD) (w : World) (e : Ending) (w' : World) : Prop := ∃ vc v0 v1, e = .returned (PlaceV p vc v0 v1) ∧ PlaceF (fun k => w.heap.size ≤ k) w' p vc v0 v1 ∧ Below w.heap.size w w'
/-- A position as data out of what lies in the call's own memory. -/
def madeP (tn : Nat) (C H O : List Int) (t q : Int) : PlaceD := ⟨C, if tn = 0 then H else O, if tn = 0 then O else H, t, q⟩
theorem aft_place {U W : World} {nb gc gh go m n cc ch co tn rb : Nat} {uA uB : Value} {C H O : List Int} {t q : Int} {p0 : PlaceD} {a b c : Value} (h : AftS U W nb gc gh go m n cc ch co tn uA uB C H O t q) (ht : tn ≤ 1) (hrb : rb < U.heap.size) (hR : PBox W rb 29 p0 a b c) :
    PBox (fillP W rb (madeP tn C H O t q) (rowV gc m cc) uA uB) rb 29 (madeP tn C H O t q) (rowV gc m cc) uA uB ∧ PlaceF (fun k => U.heap.size ≤ k) (fillP W rb (madeP tn C H O t q) (rowV gc m cc) uA uB) (madeP tn C H O t q) (rowV gc m cc) uA uB := by
  have hfo := fillP_other W rb (madeP tn C H O t q) (rowV gc m cc) uA uB
  refine ⟨pbox_fill hR, ?_⟩
  have gC := (h.oc.lt gc rfl).1
  have gH := (h.oh.lt gh rfl).1
  have gO := (h.oo.lt go rfl).1
  have iC := blk_of (d := fun k => U.heap.size ≤ k) (ints_of_owns (owns_block h.oc (hfo.1 gc (by omega)))) gC
  have iH := blk_of (d := fun k => U.heap.size ≤ k) (ints_of_owns (owns_block h.oh (hfo.1 gh (by omega)))) gH
  have iO := blk_of (d := fun k => U.heap.size ≤ k) (ints_of_owns (owns_block h.oo (hfo.1 go (by omega)))) gO
  clear hfo
  generalize fillP W rb (madeP tn C H O t q) (rowV gc m cc) uA uB = F at iC iH iO ⊢
  have h2 : tn = 0 ∨ tn = 1 := by omega
  rcases h2 with h2 | h2
  · obtain ⟨e1, e2⟩ := h.u0 h2
    have e3 : (madeP tn C H O t q).h0 = H := by simp [madeP, h2]
    have e4 : (madeP tn C H O t q).h1 = O := by simp [madeP, h2]
    refine ⟨iC, ?_, ?_⟩
    · rw [e3, e1]; exact iH
    · rw [e4, e2]; exact iO
  · obtain ⟨e1, e2⟩ := h.u1 h2
    have e3 : (madeP tn C H O t q).h0 = O := by simp [madeP, h2]
    have e4 : (madeP tn C H O t q).h1 = H := by simp [madeP, h2]
    refine ⟨iC, ?_, ?_⟩
    · rw [e3, e1]; exact iO
    · rw [e4, e2]; exact iH
theorem after_made {r : RulesD} {p : PlaceD} {mv : MoveD} {tn : Nat} {C H : List Int} {q : Int} (ht : p.turn = (tn : Int)) (h1 : tn ≤ 1) (hC : cellsD p mv = C) (hH : handD r p mv = H) (hq : (if mv.1 = -1 ∨ cellI p mv.2.1 ≠ 0 then 0 else min (p.quiet + 1) 200) = q) :
    afterD r p mv = madeP tn C H (otherI p) (1 - (tn : Int)) q := by
  unfold afterD madeP otherI
  rw [hC, hH, hq, ht]
  have h2 : tn = 0 ∨ tn = 1 := by omega
  rcases h2 with h2 | h2 <;> subst h2 <;> simp
set_option maxHeartbeats 8000000 in
theorem after_any (r : RulesD) (p : PlaceD) (vp vs ve vc v0 v1 : Value) (mv : MoveD) (w : World) (hp : PlaceIn w p vc v0 v1) (hk : POkay r p) (hmv : MoveOK r p mv) :
    Calls Tryz.prog 38 #[RulesV r vp vs ve, PlaceV p vc v0 v1, moveV mv] w (FreshPlc (afterD r p mv) w) := by
  have hcl := cells_len hk
  have hnl := pieces_len hk.e
  obtain ⟨g, off, cc0, rfl, hcc0, hcell⟩ := ints_open hp.c hcl.1
  obtain ⟨m, hm⟩ : ∃ m, m = p.cells.length := ⟨_, rfl⟩
  obtain ⟨n, hn⟩ : ∃ n, n = r.pieces.length := ⟨_, rfl⟩
  have hl0 := hk.l0
  have hl1 := hk.l1
  rw [← hn] at hl0 hl1 hnl
  rw [← hm] at hp hcc0 hcell hcl ⊢
  obtain ⟨V, hV, hB, hY, hX, hM, hVS⟩ := rpm_boxes w r p vp vs ve (.slice (some ⟨g, off, none⟩) m cc0) v0 v1 mv
  obtain ⟨m1, m2, m3⟩ := mv
  obtain ⟨b0, b1, k0, k1, hsrc⟩ := hmv
  dsimp only at b0 b1 k0 k1 hsrc
  rw [← hm] at b1 hsrc
  rw [← hn] at k1
  have t0 := hk.t0
  have t1 := hk.t1
  have q0 := hk.q0
  have q1 := hk.q1
  obtain ⟨tn, htn⟩ : ∃ tn : Nat, p.turn = (tn : Int) := ⟨p.turn.toNat, by omega⟩
  have htn1 : tn ≤ 1 := by omega
  have HB := Lib.hid hB
  have HCC : Hid (∀ W, Below V.heap.size V W → Calls Tryz.prog 49 #[.slice (some ⟨g, off, none⟩) m cc0] W fun e w' => ∃ g c, e = .returned (.slice (some ⟨g, 0, none⟩) m c) ∧ W.heap.size ≤ g ∧ g < w'.heap.size ∧ w'.ownsRow W.heap.size 3 1 (.slice (some ⟨g, 0, none⟩) m c) m (iv p.cells) ∧ Below W.heap.size W w') := Lib.hid (fun W hb => by
    have h := clone_own _ _ W (((hp.below hB (Nat.le_refl _)).below hb (Nat.le_refl _)).c) (by omega) (by omega)
    rwa [← hm] at h)
  have HC0 : Hid (∀ W, Below V.heap.size V W → Calls Tryz.prog 49 #[v0] W fun e w' => ∃ g c, e = .returned (.slice (some ⟨g, 0, none⟩) n c) ∧ W.heap.size ≤ g ∧ g < w'.heap.size ∧ w'.ownsRow W.heap.size 3 1 (.slice (some ⟨g, 0, none⟩) n c) n (iv p.h0) ∧ Below W.heap.size W w') := Lib.hid (fun W hb => by
    have h := clone_own _ _ W (((hp.below hB (Nat.le_refl _)).below hb (Nat.le_refl _)).a) (by omega) (by omega)
    rwa [hl0] at h)
  have HC1 : Hid (∀ W, Below V.heap.size V W → Calls Tryz.prog 49 #[v1] W fun e w' => ∃ g c, e = .returned (.slice (some ⟨g, 0, none⟩) n c) ∧ W.heap.size ≤ g ∧ g < w'.heap.size ∧ w'.ownsRow W.heap.size 3 1 (.slice (some ⟨g, 0, none⟩) n c) n (iv p.h1) ∧ Below W.heap.size W w') := Lib.hid (fun W hb => by
    have h := clone_own _ _ W (((hp.below hB (Nat.le_refl _)).below hb (Nat.le_refl _)).b) (by omega) (by omega)
    rwa [hl1] at h)
  have HOP : Hid (∀ W, Calls Tryz.prog 54 #[.int .i64 (tn : Int)] W fun e w' => e = .returned (.int .i64 (1 - (tn : Int))) ∧ W = w') := Lib.hid (fun W => turned (mOpp_any _ _ (by omega) (by omega)))
  obtain ⟨U, hU⟩ : ∃ U, U = V.alloc (.cells (PlaceCells zeroP (.slice none 0 0) (.slice none 0 0) (.slice none 0 0)) 29) := ⟨_, rfl⟩
  have hVU : Below V.heap.size V U := by rw [hU]; exact (Below.refl _ _).alloc (Nat.le_refl _) _
  have hRB : PBox U (w.heap.size + 3) 29 zeroP (.slice none 0 0) (.slice none 0 0) (.slice none 0 0) := by
    rw [hU, ← hVS]; exact PBox.new _ _ _ _ _ _
  have hUS : U.heap.size = w.heap.size + 4 := by rw [hU]; simp [hVS]
  have HUS := Lib.hid hUS
  have HRB := Lib.hid hRB
  have HVU := Lib.hid hVU
  have HX : Hid (∀ W, Below U.heap.size U W → BoxP W (w.heap.size + 1) p (.slice (some ⟨g, off, none⟩) m cc0) v0 v1) := Lib.hid (fun W hb => (hX.below hVU (Nat.le_refl _)).below hb (Nat.le_refl _))
  have HY : Hid (∀ W, Below U.heap.size U W → BoxR W w.heap.size r vp vs ve) := Lib.hid (fun W hb => (hY.below hVU (Nat.le_refl _)).below hb (Nat.le_refl _))
  have HM : Hid (∀ W, Below U.heap.size U W → W.cell? ⟨w.heap.size + 2, 0, none⟩ = some (.int .i64 m1) ∧ W.cell? ⟨w.heap.size + 2, 1, none⟩ = some (.int .i64 m2) ∧ W.cell? ⟨w.heap.size + 2, 2, none⟩ = some (.int .i64 m3)) := Lib.hid (fun W hb => MoveAt.below (MoveAt.below hM hVU (Nat.le_refl _)) hb (Nat.le_refl _))
  have HCE : Hid (∀ W, Below U.heap.size U W → ∀ j, j < m → W.cell? ⟨g, off + j, none⟩ = some (.int .i64 (cellI p (j : Int)))) := Lib.hid (fun W hb j hj => by
    rw [cellI, Int.toNat_natCast]; exact cell_keeps hb (Nat.le_refl _) (cell_keeps hVU (Nat.le_refl _) (cell_keeps hB (Nat.le_refl _) (hcell j hj))))
  obtain ⟨qp, hqp⟩ : ∃ qp, IntKind.i64.wrap (p.quiet + 1) = qp := ⟨_, rfl⟩
  have HQP : Hid (qp = p.quiet + 1) := Lib.hid (by rw [← hqp]; exact IntWalk.i64_in _ (by omega))
  obtain ⟨qm, hqm⟩ : ∃ qm, min qp 200 = qm := ⟨_, rfl⟩
  have HQM := Lib.hid hqm
  have HCI : Hid (∀ s, 0 ≤ cellI p s ∧ cellI p s ≤ 2 * n) := Lib.hid (fun s => by rw [hn]; exact cell_in hk s)
  have HHI : Hid (∀ s, 0 ≤ nth (handI p) s ∧ nth (handI p) s ≤ 1000) := Lib.hid (fun s => nth_in (by omega) (hand_in hk) s)
  have HHL : Hid ((handI p).length = n) := Lib.hid (by rw [hand_len hk, hn])
  have HCL : Hid (p.cells.length = m) := Lib.hid hm.symm
  have HT := Lib.hid htn
  unfold RulesCells at hV
  unfold PlaceCells at hV hU
  unfold zeroP at hU
  unfold RulesV PlaceV PlaceCells moveV
  dsimp only at hV hU ⊢
  rw [htn] at hV ⊢
  clear hp hk hY hX hM hRB hVU hcell hn hm hl0 hl1 t0 t1 htn
  go_enter Tryz.func38, Tryz.ntmps38
  go_wp2_with fail
  rw [← hV, ← hU]
  clear hV hU hVS hUS
  go_cut [7] from 11 to 30 (fun s7 wx => ∃ nb gc gh go cc ch co uA uB, s7 = .pointer (some ⟨nb, 0, none⟩) ∧ Hid (AftS U wx nb gc gh go m n cc ch co tn uA uB p.cells (handI p) (otherI p) (1 - (tn : Int)) qm))
  case first =>
    clear HQP HQM HY HM HCE HCI HHI HHL HCL
    have hlt : w.heap.size + 1 < U.heap.size := by rw [HUS.out]; omega
    have m4 := off_of hlt
    have hVUd : Below V.heap.size V U.drew := HVU.out.drew
    have HX1 : Hid (∀ W, Below U.heap.size U W → W.cell? ⟨w.heap.size + 1, 0, none⟩ = some (.slice (some ⟨g, off, none⟩) m cc0) ∧ W.cell? ⟨w.heap.size + 1, 1, none⟩ = some v0 ∧ W.cell? ⟨w.heap.size + 1, 2, none⟩ = some v1 ∧ W.cell? ⟨w.heap.size + 1, 3, none⟩ = some (.int .i64 (tn : Int)) ∧ W.cell? ⟨w.heap.size + 1, 4, none⟩ = some (.int .i64 p.quiet)) := Lib.hid (fun W hb => by
      obtain ⟨x0, x1, x2, x3, x4⟩ := HX.out W hb
      rw [HT.out] at x3
      exact ⟨x0, x1, x2, x3, x4⟩)
    obtain ⟨x0, x1, x2, x3, x4⟩ := HX1.out U (Below.refl _ _)
    clear HX b0 b1 k0 k1 hsrc
    go_region_held3 (fun w' => (w'.cell? ⟨w.heap.size + 1, 0, none⟩ = some (.slice (some ⟨g, off, none⟩) m cc0) ∧ w'.cell? ⟨w.heap.size + 1, 1, none⟩ = some v0 ∧ w'.cell? ⟨w.heap.size + 1, 2, none⟩ = some v1 ∧ w'.cell? ⟨w.heap.size + 1, 3, none⟩ = some (.int .i64 (tn : Int)) ∧ w'.cell? ⟨w.heap.size + 1, 4, none⟩ = some (.int .i64 p.quiet))) (go_keep) (first
      | (have t := hV6; go_at_call 49; refine (HC1.out _ (by first | exact hV6 | exact hV6.alloc hV6.size _)).mono ?_; rintro e w7 ⟨gB, cB, rfl, gB1, gB2, hoB, hb7⟩; have hB67 : Below w6.heap.size w6 w7 := (by first | exact hb7 | exact ((Below.refl w6.heap.size w6).alloc (Nat.le_refl _) _).trans (hb7.mono (by simp))); have hB7 := hB6.trans (hB67.mono hB6.size); have hV7 := HVU.out.trans (hB7.mono HVU.out.size); obtain ⟨k0, k1, k2, k3, k4⟩ := HX1.out w7 hB7; have m7 := off_of (Nat.lt_of_lt_of_le hlt hB7.size); first | (have hA7 := hA_on hA6 hb7; obtain ⟨b0, b1, b2, b3, b4, f0, f1, f2, f3, f4⟩ := five_facts hA7) | (have hA7 : w7.heap[w6.heap.size]? = some (.cells #[.slice none 0 0, .slice none 0 0, .slice none 0 0, .int .i64 0, .int .i64 0] 29 (0, 0)) := hA_of hb7; obtain ⟨b0, b1, b2, b3, b4, f0, f1, f2, f3, f4⟩ := five_facts hA7) | skip)
      | (have t := hV5; go_at_call 49; refine (HC0.out _ (by first | exact hV5 | exact hV5.alloc hV5.size _)).mono ?_; rintro e w6 ⟨gA, cA, rfl, gA1, gA2, hoA, hb6⟩; have hB56 : Below w5.heap.size w5 w6 := (by first | exact hb6 | exact ((Below.refl w5.heap.size w5).alloc (Nat.le_refl _) _).trans (hb6.mono (by simp))); have hB6 := hB5.trans (hB56.mono hB5.size); have hV6 := HVU.out.trans (hB6.mono HVU.out.size); obtain ⟨k0, k1, k2, k3, k4⟩ := HX1.out w6 hB6; have m6 := off_of (Nat.lt_of_lt_of_le hlt hB6.size); first | (have hA6 := hA_on hA5 hb6) | (have hA6 : w6.heap[w5.heap.size]? = some (.cells #[.slice none 0 0, .slice none 0 0, .slice none 0 0, .int .i64 0, .int .i64 0] 29 (0, 0)) := hA_of hb6) | skip)
      | (go_at_call 49; refine (HCC.out _ (by first | exact hVUd | exact hVUd.alloc hVUd.size _)).mono ?_; rintro e w5 ⟨gC, cC, rfl, gC1, gC2, hoC, hb5⟩; have hB5 : Below U.heap.size U w5 := (by first | exact (Below.refl U.heap.size U).drew.trans hb5 | exact ((Below.refl U.heap.size U).drew.alloc (Nat.le_refl _) _).trans (hb5.mono (by simp))); have hV5 := HVU.out.trans (hB5.mono HVU.out.size); obtain ⟨k0, k1, k2, k3, k4⟩ := HX1.out w5 hB5; have m5 := off_of (Nat.lt_of_lt_of_le hlt hB5.size); try (have hA5 : w5.heap[U.heap.size]? = some (.cells #[.slice none 0 0, .slice none 0 0, .slice none 0 0, .int .i64 0, .int .i64 0] 29 (0, 0)) := hA_dr hb5))
      | (go_at_call 54; refine (HOP.out _).mono ?_; rintro e w8 ⟨rfl, rfl⟩))
    all_goals
      go_wp2_with fail
      go_meet
      have hd : U.drew.heap.size = U.heap.size := rfl
      have g1 := gC1
      have g2 := gA1
      have g3 := gB1
      have g4 := hB5.size
      have g5 := hB56.size
      have g6 := hB67.size
      have hdd : ∀ W : World, W.drew.heap.size = W.heap.size := fun _ => rfl
      try simp only [hdd, World.size_alloc] at g1
      try simp only [World.size_alloc] at g2
      try simp only [World.size_alloc] at g3
      first
        | (have t := hA7; exact aft_fill hoC hoA hoB (by omega) gC2 (by omega) gA2 (by omega) gB2 hB56 hB67 hB7 HT.out htn1 t (by omega) (by omega) (by omega) (by omega))
        | exact aft_new hoC hoA hoB (by omega) gC2 (by omega) gA2 (by omega) gB2 hB56 hB67 hB7 HT.out htn1
  case rest =>
    obtain ⟨nb, gc, gh, go, cc, ch, co, uA, uB, rfl, hA⟩ := hcut
    obtain ⟨gA, gB, cA, cB, rfl, rfl⟩ : ∃ gA gB cA cB, uA = .slice (some ⟨gA, 0, none⟩) n cA ∧ uB = .slice (some ⟨gB, 0, none⟩) n cB := by
      have h2 : tn = 0 ∨ tn = 1 := by omega
      rcases h2 with h2 | h2
      · obtain ⟨e1, e2⟩ := hA.out.u0 h2; exact ⟨_, _, _, _, e1, e2⟩
      · obtain ⟨e1, e2⟩ := hA.out.u1 h2; exact ⟨_, _, _, _, e1, e2⟩
    clear HCC HC0 HC1 HOP hqp hqm
    obtain ⟨b, rfl⟩ : ∃ b : Nat, m2 = (b : Int) := ⟨m2.toNat, by omega⟩
    obtain ⟨k, rfl⟩ : ∃ k : Nat, m3 = (k : Int) := ⟨m3.toNat, by omega⟩
    have hbm : b < m := by omega
    have hkn : k < n := by omega
    obtain ⟨tk, htk⟩ : ∃ tk, tk = cellI p (b : Int) := ⟨_, rfl⟩
    have HTK := Lib.hid htk
    have htkr := HCI.out (b : Int)
    rw [← htk] at htkr hsrc
    obtain ⟨x0, x1, x2, x3, x4⟩ := HX.out wc hA.out.bel
    obtain ⟨z0, z1, z2⟩ := HM.out wc hA.out.bel
    rw [HT.out] at x3
    have C0 := HCE.out wc hA.out.bel b hbm
    rw [← htk] at C0
    have h1 := hA.out.hand htn1
    have hbc : b < cc0 := by omega
    clear htk
    go_wp2_with fail
    go_quiet (fail)
    have HA2 := Lib.hid (hA.out.drewN nq)
    clear hA x0 x1 x2 x3 x4 z0 z1 z2 C0 h1
    generalize wc.drewN nq = w2 at HA2 ⊢
    -- the ways
    rcases hsrc with ⟨rfl, hz, hh1⟩ | ⟨hs0, hs1⟩
    · subst hz
      have hx := owns_int HA2.out.oh hkn
      obtain ⟨c1, c2, c3⟩ := hx
      have hkc : k < ch := by omega
      have hnth := HHI.out (k : Int)
      rw [show (handI p)[k]?.getD 0 = nth (handI p) (k : Int) by rw [nth, Int.toNat_natCast]] at c1
      obtain ⟨x, hxx⟩ : ∃ x, x = nth (handI p) (k : Int) := ⟨_, rfl⟩
      have HXX := Lib.hid hxx
      rw [← hxx] at c1 hnth hh1
      clear hxx
      obtain ⟨z0, z1, z2⟩ := HM.out w2 HA2.out.bel
      go_upto_region 6 with (fail)
      have HA3 := Lib.hid (HA2.out.setH k (x - 1))
      generalize w2.setCell ⟨gh, k, none⟩ (.int .i64 (x - 1)) = w3 at HA3 ⊢
      clear HA2 z0 z1 z2 c1 c2
      obtain ⟨z0, z1, z2⟩ := HM.out w3 HA3.out.bel
      obtain ⟨n0, n1, n2, n3, n4, f0, f1, f2, f3, f4⟩ := five_facts HA3.out.row
      go_upto_region 11 with (fail)
      have HA4 := Lib.hid (HA3.out.setQ 0)
      generalize w3.setCell ⟨nb, 4, none⟩ (.int .i64 0) = w4 at HA4 ⊢
      clear HA3 z0 z1 z2 n0 n1 n2 n3 n4 f0 f1 f2 f3 f4
      have h5 := five_facts HA4.out.row
      obtain ⟨n0, n1, n2, n3, n4, f0, f1, f2, f3, f4⟩ := h5
      obtain ⟨z0, z1, z2⟩ := HM.out w4 HA4.out.bel
      obtain ⟨x0, x1, x2, x3, x4⟩ := HX.out w4 HA4.out.bel
      rw [HT.out] at x3
      obtain ⟨c1, c2, c3⟩ := owns_int HA4.out.oc hbm
      have hbcc : b < cc := by omega
      go_wp2_with fail
      have KX := mCellOf_any (k : Int) (tn : Int) { heap := w4.heap, tape := w4.tape, drawn := w4.drawn + 1, os := w4.os, output := w4.output } (by omega) (by omega) (by omega) (by omega)
      go_still_tail 10, (by kernel_rfl)
      still_call KX
      repeat still_step
      refine wpStill_nil ?_
      change wpList _ _ _ _ _ w4.drew
      have HD := Lib.hid (HA4.out.drewN 1)
      have hcd : w4.drew.cell? ⟨gc, b, none⟩ = some (.int .i64 ((p.cells)[b]?.getD 0)) := c1
      have hfd : w4.drew.frozen? ⟨gc, b, none⟩ = false := c2
      change Hid (AftS U w4.drew nb gc gh go m n cc ch co tn (rowV gA n cA) (rowV gB n cB) (p.cells) ((handI p).set k (x - 1)) (otherI p) (1 - (tn : Int)) (0)) at HD
      clear KX n0 n1 n2 n3 n4 f0 f1 f2 f3 f4 z0 z1 z2 x0 x1 x2 x3 x4 c1 c2
      generalize w4.drew = wd at HD hcd hfd ⊢
      go_upto_region 12 with (fail)
      have HE := Lib.hid (HD.out.setC b (2 * (k : Int) + (tn : Int) + 1))
      generalize wd.setCell ⟨gc, b, none⟩ (.int .i64 (2 * (k : Int) + (tn : Int) + 1)) = we at HE ⊢
      clear HD hcd hfd
      have hrs : w.heap.size + 3 < U.heap.size := by have := HUS.out; omega
      have hR := HRB.out.below HE.out.bel hrs
      obtain ⟨⟨r0, r1, r2, r3, r4⟩, r5, r6, r7, r8, r9⟩ := hR.facts
      obtain ⟨n0, n1, n2, n3, n4, f0, f1, f2, f3, f4⟩ := five_facts HE.out.row
      go_wp2
      have hw1 : cellsD p (-1, (b : Int), (k : Int)) = (p.cells).set b (2 * (k : Int) + (tn : Int) + 1) := by unfold cellsD setI; simp [HT.out]
      have hw2 : handD r p (-1, (b : Int), (k : Int)) = (handI p).set k (x - 1) := by unfold handD handPut setI; dsimp only; rw [if_neg (by rw [← HTK.out]; simp), if_pos rfl, Int.toNat_natCast, ← HXX.out]
      have hw3 : (if ((-1, (b : Int), (k : Int)) : MoveD).1 = -1 ∨ cellI p ((-1, (b : Int), (k : Int)) : MoveD).2.1 ≠ 0 then 0 else min (p.quiet + 1) 200) = 0 := by simp
      have hst := after_made (r := r) (C := (p.cells).set b (2 * (k : Int) + (tn : Int) + 1)) (H := (handI p).set k (x - 1)) (q := 0) HT.out htn1 (mv := (-1, (b : Int), (k : Int))) hw1 hw2 hw3
      rw [hst]
      obtain ⟨hR2, hPI⟩ := aft_place HE.out htn1 hrs hR
      have hBE : Below w.heap.size w we := HB.out.trans ((HVU.out.trans (HE.out.bel.mono HVU.out.size)).mono HB.out.size)
      have hBF := fillP_below hBE (b := w.heap.size + 3) (by omega) (madeP tn ((p.cells).set b (2 * (k : Int) + (tn : Int) + 1)) ((handI p).set k (x - 1)) (otherI p) (1 - (tn : Int)) (0)) (rowV gc m cc) (rowV gA n cA) (rowV gB n cB)
      have hFE : (((((we.setCell ⟨w.heap.size + 1 + 1 + 1, 0, none⟩ (.slice (some ⟨gc, 0, none⟩) m cc)).setCell ⟨w.heap.size + 1 + 1 + 1, 1, none⟩ (.slice (some ⟨gA, 0, none⟩) n cA)).setCell ⟨w.heap.size + 1 + 1 + 1, 2, none⟩ (.slice (some ⟨gB, 0, none⟩) n cB)).setCell ⟨w.heap.size + 1 + 1 + 1, 3, none⟩ (.int .i64 (1 - (tn : Int)))).setCell ⟨w.heap.size + 1 + 1 + 1, 4, none⟩ (.int .i64 (0))) = fillP we (w.heap.size + 3) (madeP tn ((p.cells).set b (2 * (k : Int) + (tn : Int) + 1)) ((handI p).set k (x - 1)) (otherI p) (1 - (tn : Int)) (0)) (rowV gc m cc) (rowV gA n cA) (rowV gB n cB) := rfl
      rw [hFE]
      generalize fillP we (w.heap.size + 3) (madeP tn ((p.cells).set b (2 * (k : Int) + (tn : Int) + 1)) ((handI p).set k (x - 1)) (otherI p) (1 - (tn : Int)) (0)) (rowV gc m cc) (rowV gA n cA) (rowV gB n cB) = wf at hR2 hPI hBF ⊢
      clear hFE
      refine bodyPost_ret (results_cell_row rfl _ _ (w.heap.size + 3) 29 _ (0, 0) _ rfl hR2 Tryz.underlying29 rfl (by kernel_rfl)) rfl ?_
      have hwu : w.heap.size ≤ U.heap.size := by have := HUS.out; omega
      exact ⟨rowV gc m cc, rowV gA n cA, rowV gB n cB, rfl, ⟨blk_weak (fun k hk => Nat.le_trans hwu hk) hPI.c, blk_weak (fun k hk => Nat.le_trans hwu hk) hPI.a, blk_weak (fun k hk => Nat.le_trans hwu hk) hPI.b⟩, hBF⟩
    · obtain ⟨a, rfl⟩ : ∃ a : Nat, m1 = (a : Int) := ⟨m1.toNat, by omega⟩
      have ham : a < m := by omega
      have hneg : ((a : Int) == -1) = false := by simp
      obtain ⟨c1, c2, c3⟩ := owns_int HA2.out.oc ham
      have hac : a < cc := by omega
      obtain ⟨z0, z1, z2⟩ := HM.out w2 HA2.out.bel
      obtain ⟨n0, n1, n2, n3, n4, f0, f1, f2, f3, f4⟩ := five_facts HA2.out.row
      go_upto_region 6 with (fail)
      have HA3 := Lib.hid (HA2.out.setC a 0)
      generalize w2.setCell ⟨gc, a, none⟩ (.int .i64 0) = w3 at HA3 ⊢
      clear HA2 z0 z1 z2 c1 c2 n0 n1 n2 n3 n4 f0 f1 f2 f3 f4
      obtain ⟨z0, z1, z2⟩ := HM.out w3 HA3.out.bel
      obtain ⟨y0, y1, y2, y3, y4, y5, y6, y7, y8, y9, y10⟩ := HY.out w3 HA3.out.bel
      obtain ⟨n0, n1, n2, n3, n4, f0, f1, f2, f3, f4⟩ := five_facts HA3.out.row
      by_cases hz : tk = 0
      · subst hz
        go_upto_region 11 with (fail)
        clear z0 z1 z2 n0 n1 n2 n3 n4 f0 f1 f2 f3 f4 y0 y1 y2 y3 y4 y5 y6 y7 y8 y9 y10
        have h5 := five_facts HA3.out.row
        obtain ⟨n0, n1, n2, n3, n4, f0, f1, f2, f3, f4⟩ := h5
        obtain ⟨z0, z1, z2⟩ := HM.out w3 HA3.out.bel
        obtain ⟨x0, x1, x2, x3, x4⟩ := HX.out w3 HA3.out.bel
        rw [HT.out] at x3
        obtain ⟨c1, c2, c3⟩ := owns_int HA3.out.oc hbm
        have hbcc : b < cc := by omega
        go_wp2_with fail
        have KX := mCellOf_any (k : Int) (tn : Int) { heap := w3.heap, tape := w3.tape, drawn := w3.drawn + 1, os := w3.os, output := w3.output } (by omega) (by omega) (by omega) (by omega)
        go_still_tail 10, (by kernel_rfl)
        still_call KX
        repeat still_step
        refine wpStill_nil ?_
        change wpList _ _ _ _ _ w3.drew
        have HD := Lib.hid (HA3.out.drewN 1)
        have hcd : w3.drew.cell? ⟨gc, b, none⟩ = some (.int .i64 ((p.cells.set a 0)[b]?.getD 0)) := c1
        have hfd : w3.drew.frozen? ⟨gc, b, none⟩ = false := c2
        change Hid (AftS U w3.drew nb gc gh go m n cc ch co tn (rowV gA n cA) (rowV gB n cB) (p.cells.set a 0) (handI p) (otherI p) (1 - (tn : Int)) (qm)) at HD
        clear KX n0 n1 n2 n3 n4 f0 f1 f2 f3 f4 z0 z1 z2 x0 x1 x2 x3 x4 c1 c2
        generalize w3.drew = wd at HD hcd hfd ⊢
        go_upto_region 12 with (fail)
        have HE := Lib.hid (HD.out.setC b (2 * (k : Int) + (tn : Int) + 1))
        generalize wd.setCell ⟨gc, b, none⟩ (.int .i64 (2 * (k : Int) + (tn : Int) + 1)) = we at HE ⊢
        clear HD hcd hfd
        have hrs : w.heap.size + 3 < U.heap.size := by have := HUS.out; omega
        have hR := HRB.out.below HE.out.bel hrs
        obtain ⟨⟨r0, r1, r2, r3, r4⟩, r5, r6, r7, r8, r9⟩ := hR.facts
        obtain ⟨n0, n1, n2, n3, n4, f0, f1, f2, f3, f4⟩ := five_facts HE.out.row
        go_wp2
        have hw1 : cellsD p ((a : Int), (b : Int), (k : Int)) = (p.cells.set a 0).set b (2 * (k : Int) + (tn : Int) + 1) := by unfold cellsD setI; simp [HT.out]
        have hw2 : handD r p ((a : Int), (b : Int), (k : Int)) = handI p := by unfold handD handPut; dsimp only; rw [if_neg (by rw [← HTK.out]; simp), if_neg (by simp)]
        have hw3 : (if (((a : Int), (b : Int), (k : Int)) : MoveD).1 = -1 ∨ cellI p (((a : Int), (b : Int), (k : Int)) : MoveD).2.1 ≠ 0 then 0 else min (p.quiet + 1) 200) = qm := by dsimp only; rw [if_neg (by rw [← HTK.out]; simp), ← HQP.out, HQM.out]
        have hst := after_made (r := r) (C := (p.cells.set a 0).set b (2 * (k : Int) + (tn : Int) + 1)) (H := handI p) (q := qm) HT.out htn1 (mv := ((a : Int), (b : Int), (k : Int))) hw1 hw2 hw3
        rw [hst]
        obtain ⟨hR2, hPI⟩ := aft_place HE.out htn1 hrs hR
        have hBE : Below w.heap.size w we := HB.out.trans ((HVU.out.trans (HE.out.bel.mono HVU.out.size)).mono HB.out.size)
        have hBF := fillP_below hBE (b := w.heap.size + 3) (by omega) (madeP tn ((p.cells.set a 0).set b (2 * (k : Int) + (tn : Int) + 1)) (handI p) (otherI p) (1 - (tn : Int)) (qm)) (rowV gc m cc) (rowV gA n cA) (rowV gB n cB)
        have hFE : (((((we.setCell ⟨w.heap.size + 1 + 1 + 1, 0, none⟩ (.slice (some ⟨gc, 0, none⟩) m cc)).setCell ⟨w.heap.size + 1 + 1 + 1, 1, none⟩ (.slice (some ⟨gA, 0, none⟩) n cA)).setCell ⟨w.heap.size + 1 + 1 + 1, 2, none⟩ (.slice (some ⟨gB, 0, none⟩) n cB)).setCell ⟨w.heap.size + 1 + 1 + 1, 3, none⟩ (.int .i64 (1 - (tn : Int)))).setCell ⟨w.heap.size + 1 + 1 + 1, 4, none⟩ (.int .i64 (qm))) = fillP we (w.heap.size + 3) (madeP tn ((p.cells.set a 0).set b (2 * (k : Int) + (tn : Int) + 1)) (handI p) (otherI p) (1 - (tn : Int)) (qm)) (rowV gc m cc) (rowV gA n cA) (rowV gB n cB) := rfl
        rw [hFE]
        generalize fillP we (w.heap.size + 3) (madeP tn ((p.cells.set a 0).set b (2 * (k : Int) + (tn : Int) + 1)) (handI p) (otherI p) (1 - (tn : Int)) (qm)) (rowV gc m cc) (rowV gA n cA) (rowV gB n cB) = wf at hR2 hPI hBF ⊢
        clear hFE
        refine bodyPost_ret (results_cell_row rfl _ _ (w.heap.size + 3) 29 _ (0, 0) _ rfl hR2 Tryz.underlying29 rfl (by kernel_rfl)) rfl ?_
        have hwu : w.heap.size ≤ U.heap.size := by have := HUS.out; omega
        exact ⟨rowV gc m cc, rowV gA n cA, rowV gB n cB, rfl, ⟨blk_weak (fun k hk => Nat.le_trans hwu hk) hPI.c, blk_weak (fun k hk => Nat.le_trans hwu hk) hPI.a, blk_weak (fun k hk => Nat.le_trans hwu hk) hPI.b⟩, hBF⟩
      · have htb : (tk != 0) = true := by simpa using hz
        cases hkp : r.keeps
        · have HKP := Lib.hid hkp
          rw [hkp] at y6
          clear hkp
          go_upto_region 11 with (fail)
          have HA4 := Lib.hid (HA3.out.setQ 0)
          generalize w3.setCell ⟨nb, 4, none⟩ (.int .i64 0) = w4 at HA4 ⊢
          clear HA3 z0 z1 z2 n0 n1 n2 n3 n4 f0 f1 f2 f3 f4 y0 y1 y2 y3 y4 y5 y6 y7 y8 y9 y10
          have h5 := five_facts HA4.out.row
          obtain ⟨n0, n1, n2, n3, n4, f0, f1, f2, f3, f4⟩ := h5
          obtain ⟨z0, z1, z2⟩ := HM.out w4 HA4.out.bel
          obtain ⟨x0, x1, x2, x3, x4⟩ := HX.out w4 HA4.out.bel
          rw [HT.out] at x3
          obtain ⟨c1, c2, c3⟩ := owns_int HA4.out.oc hbm
          have hbcc : b < cc := by omega
          go_wp2_with fail
          have KX := mCellOf_any (k : Int) (tn : Int) { heap := w4.heap, tape := w4.tape, drawn := w4.drawn + 1, os := w4.os, output := w4.output } (by omega) (by omega) (by omega) (by omega)
          go_still_tail 10, (by kernel_rfl)
          still_call KX
          repeat still_step
          refine wpStill_nil ?_
          change wpList _ _ _ _ _ w4.drew
          have HD := Lib.hid (HA4.out.drewN 1)
          have hcd : w4.drew.cell? ⟨gc, b, none⟩ = some (.int .i64 ((p.cells.set a 0)[b]?.getD 0)) := c1
          have hfd : w4.drew.frozen? ⟨gc, b, none⟩ = false := c2
          change Hid (AftS U w4.drew nb gc gh go m n cc ch co tn (rowV gA n cA) (rowV gB n cB) (p.cells.set a 0) (handI p) (otherI p) (1 - (tn : Int)) (0)) at HD
          clear KX n0 n1 n2 n3 n4 f0 f1 f2 f3 f4 z0 z1 z2 x0 x1 x2 x3 x4 c1 c2
          generalize w4.drew = wd at HD hcd hfd ⊢
          go_upto_region 12 with (fail)
          have HE := Lib.hid (HD.out.setC b (2 * (k : Int) + (tn : Int) + 1))
          generalize wd.setCell ⟨gc, b, none⟩ (.int .i64 (2 * (k : Int) + (tn : Int) + 1)) = we at HE ⊢
          clear HD hcd hfd
          have hrs : w.heap.size + 3 < U.heap.size := by have := HUS.out; omega
          have hR := HRB.out.below HE.out.bel hrs
          obtain ⟨⟨r0, r1, r2, r3, r4⟩, r5, r6, r7, r8, r9⟩ := hR.facts
          obtain ⟨n0, n1, n2, n3, n4, f0, f1, f2, f3, f4⟩ := five_facts HE.out.row
          go_wp2
          have hw1 : cellsD p ((a : Int), (b : Int), (k : Int)) = (p.cells.set a 0).set b (2 * (k : Int) + (tn : Int) + 1) := by unfold cellsD setI; simp [HT.out]
          have hw2 : handD r p ((a : Int), (b : Int), (k : Int)) = handI p := by unfold handD handPut; dsimp only; rw [if_neg (by rw [HKP.out]; simp), if_neg (by simp)]
          have hw3 : (if (((a : Int), (b : Int), (k : Int)) : MoveD).1 = -1 ∨ cellI p (((a : Int), (b : Int), (k : Int)) : MoveD).2.1 ≠ 0 then 0 else min (p.quiet + 1) 200) = 0 := by dsimp only; rw [if_pos (by rw [← HTK.out]; exact .inr hz)]
          have hst := after_made (r := r) (C := (p.cells.set a 0).set b (2 * (k : Int) + (tn : Int) + 1)) (H := handI p) (q := 0) HT.out htn1 (mv := ((a : Int), (b : Int), (k : Int))) hw1 hw2 hw3
          rw [hst]
          obtain ⟨hR2, hPI⟩ := aft_place HE.out htn1 hrs hR
          have hBE : Below w.heap.size w we := HB.out.trans ((HVU.out.trans (HE.out.bel.mono HVU.out.size)).mono HB.out.size)
          have hBF := fillP_below hBE (b := w.heap.size + 3) (by omega) (madeP tn ((p.cells.set a 0).set b (2 * (k : Int) + (tn : Int) + 1)) (handI p) (otherI p) (1 - (tn : Int)) (0)) (rowV gc m cc) (rowV gA n cA) (rowV gB n cB)
          have hFE : (((((we.setCell ⟨w.heap.size + 1 + 1 + 1, 0, none⟩ (.slice (some ⟨gc, 0, none⟩) m cc)).setCell ⟨w.heap.size + 1 + 1 + 1, 1, none⟩ (.slice (some ⟨gA, 0, none⟩) n cA)).setCell ⟨w.heap.size + 1 + 1 + 1, 2, none⟩ (.slice (some ⟨gB, 0, none⟩) n cB)).setCell ⟨w.heap.size + 1 + 1 + 1, 3, none⟩ (.int .i64 (1 - (tn : Int)))).setCell ⟨w.heap.size + 1 + 1 + 1, 4, none⟩ (.int .i64 (0))) = fillP we (w.heap.size + 3) (madeP tn ((p.cells.set a 0).set b (2 * (k : Int) + (tn : Int) + 1)) (handI p) (otherI p) (1 - (tn : Int)) (0)) (rowV gc m cc) (rowV gA n cA) (rowV gB n cB) := rfl
          rw [hFE]
          generalize fillP we (w.heap.size + 3) (madeP tn ((p.cells.set a 0).set b (2 * (k : Int) + (tn : Int) + 1)) (handI p) (otherI p) (1 - (tn : Int)) (0)) (rowV gc m cc) (rowV gA n cA) (rowV gB n cB) = wf at hR2 hPI hBF ⊢
          clear hFE
          refine bodyPost_ret (results_cell_row rfl _ _ (w.heap.size + 3) 29 _ (0, 0) _ rfl hR2 Tryz.underlying29 rfl (by kernel_rfl)) rfl ?_
          have hwu : w.heap.size ≤ U.heap.size := by have := HUS.out; omega
          exact ⟨rowV gc m cc, rowV gA n cA, rowV gB n cB, rfl, ⟨blk_weak (fun k hk => Nat.le_trans hwu hk) hPI.c, blk_weak (fun k hk => Nat.le_trans hwu hk) hPI.a, blk_weak (fun k hk => Nat.le_trans hwu hk) hPI.b⟩, hBF⟩
        · have HKP := Lib.hid hkp
          rw [hkp] at y6
          clear hkp
          obtain ⟨kt, hkt⟩ : ∃ kt : Nat, kindOfI tk = (kt : Int) := ⟨(kindOfI tk).toNat, by unfold kindOfI; omega⟩
          have hktn : kt < n := by unfold kindOfI at hkt; omega
          have HKT := Lib.hid hkt
          have HKO : Hid (∀ W, Calls Tryz.prog 55 #[.int .i64 tk] W fun e w' => e = .returned (.int .i64 (kt : Int)) ∧ W = w') := Lib.hid (fun W => by rw [← hkt]; exact turned (mKindOf_any tk W (by omega) (by omega)))
          clear hkt
          go_wp2_with fail
          go_at_call 55; refine (HKO.out _).mono ?_; rintro e wk ⟨rfl, rfl⟩
          obtain ⟨c1, c2, c3⟩ := owns_int HA3.out.oh hktn
          have hkc : kt < ch := by omega
          have hnth := HHI.out (kt : Int)
          rw [show (handI p)[kt]?.getD 0 = nth (handI p) (kt : Int) by rw [nth, Int.toNat_natCast]] at c1
          obtain ⟨x, hxx⟩ : ∃ x, x = nth (handI p) (kt : Int) := ⟨_, rfl⟩
          have HXX := Lib.hid hxx
          rw [← hxx] at c1 hnth
          clear hxx
          go_upto_region 9 with (fail)
          have HA4 := Lib.hid (HA3.out.setH kt (min (x + 1) 1000))
          generalize w3.setCell ⟨gh, kt, none⟩ (.int .i64 (min (x + 1) 1000)) = w4 at HA4 ⊢
          clear HA3 z0 z1 z2 n0 n1 n2 n3 n4 f0 f1 f2 f3 f4 y0 y1 y2 y3 y4 y5 y6 y7 y8 y9 y10 c1 c2
          obtain ⟨z0, z1, z2⟩ := HM.out w4 HA4.out.bel
          obtain ⟨n0, n1, n2, n3, n4, f0, f1, f2, f3, f4⟩ := five_facts HA4.out.row
          go_upto_region 11 with (fail)
          have HA5 := Lib.hid (HA4.out.setQ 0)
          generalize w4.setCell ⟨nb, 4, none⟩ (.int .i64 0) = w5 at HA5 ⊢
          clear HA4 z0 z1 z2 n0 n1 n2 n3 n4 f0 f1 f2 f3 f4
          have h5 := five_facts HA5.out.row
          obtain ⟨n0, n1, n2, n3, n4, f0, f1, f2, f3, f4⟩ := h5
          obtain ⟨z0, z1, z2⟩ := HM.out w5 HA5.out.bel
          obtain ⟨x0, x1, x2, x3, x4⟩ := HX.out w5 HA5.out.bel
          rw [HT.out] at x3
          obtain ⟨c1, c2, c3⟩ := owns_int HA5.out.oc hbm
          have hbcc : b < cc := by omega
          go_wp2_with fail
          have KX := mCellOf_any (k : Int) (tn : Int) { heap := w5.heap, tape := w5.tape, drawn := w5.drawn + 1, os := w5.os, output := w5.output } (by omega) (by omega) (by omega) (by omega)
          go_still_tail 10, (by kernel_rfl)
          still_call KX
          repeat still_step
          refine wpStill_nil ?_
          change wpList _ _ _ _ _ w5.drew
          have HD := Lib.hid (HA5.out.drewN 1)
          have hcd : w5.drew.cell? ⟨gc, b, none⟩ = some (.int .i64 ((p.cells.set a 0)[b]?.getD 0)) := c1
          have hfd : w5.drew.frozen? ⟨gc, b, none⟩ = false := c2
          change Hid (AftS U w5.drew nb gc gh go m n cc ch co tn (rowV gA n cA) (rowV gB n cB) (p.cells.set a 0) ((handI p).set kt (min (x + 1) 1000)) (otherI p) (1 - (tn : Int)) (0)) at HD
          clear KX n0 n1 n2 n3 n4 f0 f1 f2 f3 f4 z0 z1 z2 x0 x1 x2 x3 x4 c1 c2
          generalize w5.drew = wd at HD hcd hfd ⊢
          go_upto_region 12 with (fail)
          have HE := Lib.hid (HD.out.setC b (2 * (k : Int) + (tn : Int) + 1))
          generalize wd.setCell ⟨gc, b, none⟩ (.int .i64 (2 * (k : Int) + (tn : Int) + 1)) = we at HE ⊢
          clear HD hcd hfd
          have hrs : w.heap.size + 3 < U.heap.size := by have := HUS.out; omega
          have hR := HRB.out.below HE.out.bel hrs
          obtain ⟨⟨r0, r1, r2, r3, r4⟩, r5, r6, r7, r8, r9⟩ := hR.facts
          obtain ⟨n0, n1, n2, n3, n4, f0, f1, f2, f3, f4⟩ := five_facts HE.out.row
          go_wp2
          have hw1 : cellsD p ((a : Int), (b : Int), (k : Int)) = (p.cells.set a 0).set b (2 * (k : Int) + (tn : Int) + 1) := by unfold cellsD setI; simp [HT.out]
          have hw2 : handD r p ((a : Int), (b : Int), (k : Int)) = (handI p).set kt (min (x + 1) 1000) := by unfold handD handPut setI; dsimp only; rw [if_pos ⟨by rw [← HTK.out]; exact hz, HKP.out⟩, if_neg (by simp), ← HTK.out, HKT.out, Int.toNat_natCast, ← HXX.out]
          have hw3 : (if (((a : Int), (b : Int), (k : Int)) : MoveD).1 = -1 ∨ cellI p (((a : Int), (b : Int), (k : Int)) : MoveD).2.1 ≠ 0 then 0 else min (p.quiet + 1) 200) = 0 := by dsimp only; rw [if_pos (by rw [← HTK.out]; exact .inr hz)]
          have hst := after_made (r := r) (C := (p.cells.set a 0).set b (2 * (k : Int) + (tn : Int) + 1)) (H := (handI p).set kt (min (x + 1) 1000)) (q := 0) HT.out htn1 (mv := ((a : Int), (b : Int), (k : Int))) hw1 hw2 hw3
          rw [hst]
          obtain ⟨hR2, hPI⟩ := aft_place HE.out htn1 hrs hR
          have hBE : Below w.heap.size w we := HB.out.trans ((HVU.out.trans (HE.out.bel.mono HVU.out.size)).mono HB.out.size)
          have hBF := fillP_below hBE (b := w.heap.size + 3) (by omega) (madeP tn ((p.cells.set a 0).set b (2 * (k : Int) + (tn : Int) + 1)) ((handI p).set kt (min (x + 1) 1000)) (otherI p) (1 - (tn : Int)) (0)) (rowV gc m cc) (rowV gA n cA) (rowV gB n cB)
          have hFE : (((((we.setCell ⟨w.heap.size + 1 + 1 + 1, 0, none⟩ (.slice (some ⟨gc, 0, none⟩) m cc)).setCell ⟨w.heap.size + 1 + 1 + 1, 1, none⟩ (.slice (some ⟨gA, 0, none⟩) n cA)).setCell ⟨w.heap.size + 1 + 1 + 1, 2, none⟩ (.slice (some ⟨gB, 0, none⟩) n cB)).setCell ⟨w.heap.size + 1 + 1 + 1, 3, none⟩ (.int .i64 (1 - (tn : Int)))).setCell ⟨w.heap.size + 1 + 1 + 1, 4, none⟩ (.int .i64 (0))) = fillP we (w.heap.size + 3) (madeP tn ((p.cells.set a 0).set b (2 * (k : Int) + (tn : Int) + 1)) ((handI p).set kt (min (x + 1) 1000)) (otherI p) (1 - (tn : Int)) (0)) (rowV gc m cc) (rowV gA n cA) (rowV gB n cB) := rfl
          rw [hFE]
          generalize fillP we (w.heap.size + 3) (madeP tn ((p.cells.set a 0).set b (2 * (k : Int) + (tn : Int) + 1)) ((handI p).set kt (min (x + 1) 1000)) (otherI p) (1 - (tn : Int)) (0)) (rowV gc m cc) (rowV gA n cA) (rowV gB n cB) = wf at hR2 hPI hBF ⊢
          clear hFE
          refine bodyPost_ret (results_cell_row rfl _ _ (w.heap.size + 3) 29 _ (0, 0) _ rfl hR2 Tryz.underlying29 rfl (by kernel_rfl)) rfl ?_
          have hwu : w.heap.size ≤ U.heap.size := by have := HUS.out; omega
          exact ⟨rowV gc m cc, rowV gA n cA, rowV gB n cB, rfl, ⟨blk_weak (fun k hk => Nat.le_trans hwu hk) hPI.c, blk_weak (fun k hk => Nat.le_trans hwu hk) hPI.a, blk_weak (fun k hk => Nat.le_trans hwu hk) hPI.b⟩, hBF⟩
end Go.Proofs.YtdhhdkbnlddnbaaGreatDoor

set_option maxRecDepth 100000
namespace Go.Proofs.YtdhhdkbnlddnbaaGreatDoor
open Go.ChangeShapes Go.WideShapes Go.ChangeAt Go.RowKit

/-- What Legal returns: whether the move is legal, and the error of the position. -/
def legalE (r : RulesD) (p : PlaceD) (m : MoveD) : Bool := decide (placeE r p = 0) && legalB r p m
def LegPost (b : Bool) (c : Int) (w : World) (e : Ending) (w' : World) : Prop := e = .returned (.tuple #[.bool b, .int .i64 c]) ∧ Below w.heap.size w w'
set_option maxHeartbeats 8000000 in
theorem legal_any (r : RulesD) (p : PlaceD) (vp vs ve vc v0 v1 : Value) (m : MoveD) (w : World) (hr : RulesIn w r vp vs ve) (hp : PlaceIn w p vc v0 v1) :
    Calls Tryz.prog 35 #[RulesV r vp vs ve, PlaceV p vc v0 v1, moveV m] w (LegPost (legalE r p m) (placeE r p) w) := by
  obtain ⟨V, hV, hB, hY, hX, hM, _⟩ := rpm_boxes w r p vp vs ve vc v0 v1 m
  obtain ⟨c, hc⟩ : ∃ c : Int, c = placeE r p := ⟨_, rfl⟩
  have HCK : Hid (Calls Tryz.prog 36 #[RulesV r vp vs ve, PlaceV p vc v0 v1] V (BelPost (.int .i64 c) V)) := Lib.hid (by rw [hc]; exact pcheck_any r p vp vs ve vc v0 v1 V (hr.below hB (Nat.le_refl _)) (hp.below hB (Nat.le_refl _)))
  have HIL : Hid (c = 0 → ∀ W, Below w.heap.size w W → Calls Tryz.prog 37 #[RulesV r vp vs ve, PlaceV p vc v0 v1, moveV m] W (BelPost (.bool (legalB r p m)) W)) := Lib.hid (fun hz W hb => isLegal_any r p vp vs ve vc v0 v1 m W (hr.1.below hb (Nat.le_refl _)) (hp.below hb (Nat.le_refl _)) (placeE_iff.1 (by rw [← hc]; exact hz)))
  have HB := Lib.hid hB
  have HX := Lib.hid hX
  have HY := Lib.hid hY
  have HM := Lib.hid hM
  obtain ⟨bb, hbb⟩ : ∃ bb, bb = legalE r p m := ⟨_, rfl⟩
  have HLE : Hid (bb = (decide (c = 0) && legalB r p m)) := Lib.hid (by rw [hbb, legalE, hc])
  rw [← hc, ← hbb]
  obtain ⟨m1, m2, m3⟩ := m
  obtain ⟨x0, x1, x2, x3, x4⟩ := hX
  obtain ⟨y0, y1, y2, y3, y4, y5, y6, y7, y8, y9, y10⟩ := hY
  rw [hV] at x0 x1 x2 x3 x4 y0 y1 y2 y3 y4 y5 y6 y7 y8 y9 y10
  unfold RulesCells PlaceCells at hV x0 x1 x2 x3 x4 y0 y1 y2 y3 y4 y5 y6 y7 y8 y9 y10
  unfold RulesV at HCK HIL ⊢
  unfold PlaceV PlaceCells at HCK HIL ⊢
  unfold moveV at HIL ⊢
  unfold MoveAt at HM
  dsimp only at hV HIL HM x0 x1 x2 x3 x4 y0 y1 y2 y3 y4 y5 y6 y7 y8 y9 y10 ⊢
  clear hr hp hc hB hM hbb
  go_enter Tryz.func35, Tryz.ntmps35
  go_wp2_with fail
  rw [← hV]
  clear hV x0 x1 x2 x3 x4 y0 y1 y2 y3 y4 y5 y6 y7 y8 y9 y10
  go_at_call 36; refine HCK.out.mono ?_; rintro e w1 ⟨rfl, hb⟩
  have HB1 := Lib.hid (HB.out.trans (hb.mono HB.out.size))
  by_cases hz : c = 0
  · have HIL1 := Lib.hid (HIL.out hz _ HB1.out)
    have KE : Hid (legalB r p (m1, m2, m3) = bb) := Lib.hid (by rw [HLE.out, hz]; rfl)
    rw [KE.out] at HIL1
    subst hz
    obtain ⟨x0, x1, x2, x3, x4⟩ := HX.out.below hb (Nat.le_refl _)
    obtain ⟨y0, y1, y2, y3, y4, y5, y6, y7, y8, y9, y10⟩ := HY.out.below hb (Nat.le_refl _)
    have z0 := cell_keeps hb (Nat.le_refl _) HM.out.1
    have z1 := cell_keeps hb (Nat.le_refl _) HM.out.2.1
    have z2 := cell_keeps hb (Nat.le_refl _) HM.out.2.2
    clear HB HCK HIL HX HY HM HLE hb
    go_wp2_with fail
    go_at_call 37; refine HIL1.out.mono ?_; rintro e w2 ⟨rfl, hb2⟩
    have HB2 := Lib.hid (HB1.out.trans (hb2.mono HB1.out.size))
    clear hb2 HB1 HIL1 x0 x1 x2 x3 x4 y0 y1 y2 y3 y4 y5 y6 y7 y8 y9 y10 z0 z1 z2
    go_wp2_with fail
    go_ret2
    exact ⟨rfl, HB2.out⟩
  · have KE : Hid (bb = false) := Lib.hid (by rw [HLE.out, decide_eq_false hz]; rfl)
    have hne : (c != 0) = true := by simpa using hz
    clear HB HCK HIL HX HY HM HLE hb hz
    go_wp2_with fail
    go_ret2
    exact ⟨by rw [KE.out]; rfl, HB1.out⟩
end Go.Proofs.YtdhhdkbnlddnbaaGreatDoor

set_option maxRecDepth 100000
namespace Go.Proofs.YtdhhdkbnlddnbaaGreatDoor
open Go.ChangeShapes Go.WideShapes Go.ChangeAt Go.RowKit

def afterE (r : RulesD) (p : PlaceD) (m : MoveD) : Int := if placeE r p = 0 then (if legalB r p m = true then 0 else 13) else placeE r p
/-- What After returns: the position after the move, or an error. -/
def AftPost (r : RulesD) (p : PlaceD) (m : MoveD) (w : World) (e : Ending) (w' : World) : Prop := (afterE r p m = 0 ∧ MadeP (afterD r p m) w e w') ∨ (afterE r p m ≠ 0 ∧ PBad (afterE r p m) w e w')
set_option maxHeartbeats 8000000 in
theorem After_any (r : RulesD) (p : PlaceD) (vp vs ve vc v0 v1 : Value) (m : MoveD) (w : World) (hr : RulesIn w r vp vs ve) (hp : PlaceIn w p vc v0 v1) :
    Calls Tryz.prog 17 #[RulesV r vp vs ve, PlaceV p vc v0 v1, moveV m] w (AftPost r p m w) := by
  obtain ⟨V, hV, hB, hY, hX, hM, hVS⟩ := rpm_boxes w r p vp vs ve vc v0 v1 m
  obtain ⟨U, hU⟩ : ∃ U, U = V.alloc (.cells (PlaceCells zeroP (.slice none 0 0) (.slice none 0 0) (.slice none 0 0)) 29) := ⟨_, rfl⟩
  have hVU : Below V.heap.size V U := by rw [hU]; exact (Below.refl _ _).alloc (Nat.le_refl _) _
  have hRB : PBox U (w.heap.size + 3) 29 zeroP (.slice none 0 0) (.slice none 0 0) (.slice none 0 0) := by
    rw [hU, ← hVS]; exact PBox.new _ _ _ _ _ _
  have hUS : w.heap.size + 3 < U.heap.size := by rw [hU]; simp [hVS]
  have HUS := Lib.hid hUS
  have hwU := hB.trans (hVU.mono hB.size)
  obtain ⟨c, hc⟩ : ∃ c : Int, c = placeE r p := ⟨_, rfl⟩
  have HCK : Hid (Calls Tryz.prog 36 #[RulesV r vp vs ve, PlaceV p vc v0 v1] U (BelPost (.int .i64 c) U)) := Lib.hid (by rw [hc]; exact pcheck_any r p vp vs ve vc v0 v1 U (hr.below hwU (Nat.le_refl _)) (hp.below hwU (Nat.le_refl _)))
  obtain ⟨bb, hbb⟩ : ∃ bb, bb = legalB r p m := ⟨_, rfl⟩
  have HIL : Hid (c = 0 → ∀ W, Below w.heap.size w W → Calls Tryz.prog 37 #[RulesV r vp vs ve, PlaceV p vc v0 v1, moveV m] W (BelPost (.bool bb) W)) := Lib.hid (fun hz W hb => by rw [hbb]; exact isLegal_any r p vp vs ve vc v0 v1 m W (hr.1.below hb (Nat.le_refl _)) (hp.below hb (Nat.le_refl _)) (placeE_iff.1 (by rw [← hc]; exact hz)))
  have HAF : Hid (c = 0 → bb = true → ∀ W, Below w.heap.size w W → Calls Tryz.prog 38 #[RulesV r vp vs ve, PlaceV p vc v0 v1, moveV m] W (FreshPlc (afterD r p m) W)) := Lib.hid (fun hz hl W hb => by
    have hk := placeE_iff.1 (show placeE r p = 0 by rw [← hc]; exact hz)
    exact after_any r p vp vs ve vc v0 v1 m W (hp.below hb (Nat.le_refl _)) hk (legal_ok hk (by rw [← hbb]; exact hl)))
  have HB := Lib.hid hwU
  have HRB := Lib.hid hRB
  have HX : Hid (∀ W, Below U.heap.size U W → BoxP W (w.heap.size + 1) p vc v0 v1) := Lib.hid (fun W hb => (hX.below hVU (Nat.le_refl _)).below hb (Nat.le_refl _))
  have HY : Hid (∀ W, Below U.heap.size U W → BoxR W w.heap.size r vp vs ve) := Lib.hid (fun W hb => (hY.below hVU (Nat.le_refl _)).below hb (Nat.le_refl _))
  obtain ⟨qd, hqd⟩ : ∃ qd, qd = afterD r p m := ⟨_, rfl⟩
  have HG : Hid (c = 0 → bb = true → ∀ e w', MadeP qd w e w' → AftPost r p m w e w') := Lib.hid (fun hz hl e w' h => .inl ⟨by rw [afterE, if_pos (by rw [← hc]; exact hz), if_pos (by rw [← hbb]; exact hl)], by rw [← hqd]; exact h⟩)
  have HN : Hid (c = 0 → bb = false → ∀ e w', PBad 13 w e w' → AftPost r p m w e w') := Lib.hid (fun hz hl e w' h => by
    have he : afterE r p m = 13 := by rw [afterE, if_pos (by rw [← hc]; exact hz), if_neg (by rw [← hbb, hl]; simp)]
    exact .inr ⟨by rw [he]; decide, by rw [he]; exact h⟩)
  have HE : Hid (c ≠ 0 → ∀ e w', PBad c w e w' → AftPost r p m w e w') := Lib.hid (fun hz e w' h => by
    have he : afterE r p m = c := by rw [afterE, if_neg (by rw [← hc]; exact hz), hc]
    exact .inr ⟨by rw [he]; exact hz, by rw [he]; exact h⟩)
  rw [← hqd] at HAF
  obtain ⟨m1, m2, m3⟩ := m
  have HM : Hid (∀ W, Below U.heap.size U W → W.cell? ⟨w.heap.size + 2, 0, none⟩ = some (.int .i64 m1) ∧ W.cell? ⟨w.heap.size + 2, 1, none⟩ = some (.int .i64 m2) ∧ W.cell? ⟨w.heap.size + 2, 2, none⟩ = some (.int .i64 m3)) := Lib.hid (fun W hb => MoveAt.below (MoveAt.below hM hVU (Nat.le_refl _)) hb (Nat.le_refl _))
  obtain ⟨x0, x1, x2, x3, x4⟩ := HX.out U (Below.refl _ _)
  obtain ⟨y0, y1, y2, y3, y4, y5, y6, y7, y8, y9, y10⟩ := HY.out U (Below.refl _ _)
  unfold RulesCells at hV
  unfold PlaceCells at hV hU
  unfold zeroP at hU
  unfold RulesV at HCK HIL HAF ⊢
  unfold PlaceV PlaceCells at HCK HIL ⊢
  unfold moveV at HIL HAF ⊢
  unfold PlaceV PlaceCells at HAF
  dsimp only at hV hU HIL HAF ⊢
  have w0 := x0
  rw [hU, hV] at x0 x1 x2 x3 x4 y0 y1 y2 y3 y4 y5 y6 y7 y8 y9 y10
  clear hr hp hc hB hM hbb hqd hX hY hVU hRB hwU hUS hVS w0
  go_enter Tryz.func17, Tryz.ntmps17
  go_wp2_with fail
  rw [← hV, ← hU]
  clear hV hU x0 x1 x2 x3 x4 y0 y1 y2 y3 y4 y5 y6 y7 y8 y9 y10
  go_at_call 36; refine HCK.out.mono ?_; rintro e w1 ⟨rfl, hb⟩
  have HB1 := Lib.hid (HB.out.trans (hb.mono HB.out.size))
  by_cases hz : c = 0
  · have HIL1 := Lib.hid (HIL.out hz _ HB1.out)
    have HAF1 := Lib.hid (HAF.out hz)
    have HG1 := Lib.hid (HG.out hz)
    have HN1 := Lib.hid (HN.out hz)
    subst hz
    obtain ⟨x0, x1, x2, x3, x4⟩ := HX.out w1 hb
    obtain ⟨y0, y1, y2, y3, y4, y5, y6, y7, y8, y9, y10⟩ := HY.out w1 hb
    obtain ⟨z0, z1, z2⟩ := HM.out w1 hb
    have HBU := Lib.hid hb
    clear HB HCK HIL HAF HG HN HE hb
    go_wp2_with fail
    go_at_call 37; refine HIL1.out.mono ?_; rintro e w2 ⟨rfl, hb2⟩
    have HB2 := Lib.hid (HB1.out.trans (hb2.mono HB1.out.size))
    have HBU2 := Lib.hid (HBU.out.trans (hb2.mono HBU.out.size))
    clear hb2 HB1 HIL1 HBU x0 x1 x2 x3 x4 y0 y1 y2 y3 y4 y5 y6 y7 y8 y9 y10 z0 z1 z2
    cases bb
    · have hR := HRB.out.below HBU2.out HUS.out
      have HR := Lib.hid hR
      obtain ⟨⟨r0, r1, r2, r3, r4⟩, r5, r6, r7, r8, r9⟩ := hR.facts
      unfold zeroP at r3 r4
      clear HAF1 HG1 HX HY HM HRB hR
      go_wp2_with fail
      have HR2 := pbox_fill (p := zeroP) (vc := .slice none 0 0) (v0 := .slice none 0 0) (v1 := .slice none 0 0) HR.out
      refine bodyPost_ret (results_row_tmpP rfl _ _ (w.heap.size + 3) 29 _ (0, 0) _ rfl HR2 Tryz.underlying29 rfl (by kernel_rfl)) rfl ?_
      exact HN1.out (by first | rfl | trivial) _ _ ⟨rfl, fillP_below HB2.out (by omega) zeroP _ _ _⟩
    · have HAF2 := Lib.hid (HAF1.out rfl _ HB2.out)
      have HG2 := Lib.hid (HG1.out rfl)
      obtain ⟨x0, x1, x2, x3, x4⟩ := HX.out w2 HBU2.out
      obtain ⟨y0, y1, y2, y3, y4, y5, y6, y7, y8, y9, y10⟩ := HY.out w2 HBU2.out
      obtain ⟨z0, z1, z2⟩ := HM.out w2 HBU2.out
      clear HAF1 HG1 HN1 HX HY HM
      go_wp2_with fail
      go_at_call 38; refine HAF2.out.mono ?_; rintro e w3 ⟨uc, u0, u1, rfl, hpi, hb3⟩
      obtain ⟨ca, cn, cc, rfl⟩ := hpi.c.form
      obtain ⟨a0, n0, c0, rfl⟩ := hpi.a.form
      obtain ⟨a1, n1, c1, rfl⟩ := hpi.b.form
      have HB3 := Lib.hid (HB2.out.trans (hb3.mono HB2.out.size))
      have HBU3 := Lib.hid (HBU2.out.trans (hb3.mono HBU2.out.size))
      have HPI := Lib.hid hpi
      have hR := HRB.out.below HBU3.out HUS.out
      have HR := Lib.hid hR
      obtain ⟨⟨r0, r1, r2, r3, r4⟩, r5, r6, r7, r8, r9⟩ := hR.facts
      unfold zeroP at r3 r4
      clear hpi hb3 HB2 hR HAF2 x0 x1 x2 x3 x4 y0 y1 y2 y3 y4 y5 y6 y7 y8 y9 y10 z0 z1 z2
      unfold PlaceV PlaceCells
      go_wp2_with fail
      have HR2 := pbox_fill (p := qd) (vc := .slice ca cn cc) (v0 := .slice a0 n0 c0) (v1 := .slice a1 n1 c1) HR.out
      have hfo := fillP_other w3 (w.heap.size + 3) qd (.slice ca cn cc) (.slice a0 n0 c0) (.slice a1 n1 c1)
      have hbf := fillP_below HB3.out (b := w.heap.size + 3) (by omega) qd (.slice ca cn cc) (.slice a0 n0 c0) (.slice a1 n1 c1)
      have hpf : PlaceF (fun k => w.heap.size ≤ k) (fillP w3 (w.heap.size + 3) qd (.slice ca cn cc) (.slice a0 n0 c0) (.slice a1 n1 c1)) qd (.slice ca cn cc) (.slice a0 n0 c0) (.slice a1 n1 c1) := by
        have hw2 : w.heap.size + 3 < w2.heap.size := by have := HUS.out; have := HBU2.out.size; omega
        exact HPI.out.on (fun k hk _ => hfo.1 k (by omega)) (fun k hk => by omega)
      refine bodyPost_ret (results_row_tmpP rfl _ _ (w.heap.size + 3) 29 _ (0, 0) _ rfl HR2 Tryz.underlying29 rfl (by kernel_rfl)) rfl ?_
      exact HG2.out _ _ ⟨ca, cn, cc, a0, n0, c0, a1, n1, c1, rfl, hpf, hbf⟩
  · have HE1 := Lib.hid (HE.out hz)
    have hne : (c != 0) = true := by simpa using hz
    have hR := HRB.out.below hb HUS.out
    have HR := Lib.hid hR
    obtain ⟨⟨r0, r1, r2, r3, r4⟩, r5, r6, r7, r8, r9⟩ := hR.facts
    unfold zeroP at r3 r4
    clear HB HCK HIL HAF HG HN HE hb hz HX HY HM HRB hR
    go_wp2_with fail
    have HR2 := pbox_fill (p := zeroP) (vc := .slice none 0 0) (v0 := .slice none 0 0) (v1 := .slice none 0 0) HR.out
    refine bodyPost_ret (results_row_tmpP rfl _ _ (w.heap.size + 3) 29 _ (0, 0) _ rfl HR2 Tryz.underlying29 rfl (by kernel_rfl)) rfl ?_
    exact HE1.out _ _ ⟨rfl, fillP_below HB1.out (by omega) zeroP _ _ _⟩
end Go.Proofs.YtdhhdkbnlddnbaaGreatDoor
