/- A position that a call makes of its own: out of three clones and a struct. -/
import Derived.Test.YthbilpgecombiaaAft
set_option maxRecDepth 100000
namespace Go.Proofs.Ythbilpgecombiaa
open Go.ChangeShapes Go.WideShapes Go.ChangeAt Go.RowKit

def otherI (p : PlaceD) : List Int := if p.turn = 0 then p.h1 else p.h0
theorem owns_base {W : World} {B B' : Nat} {e : TypeId} {k g n c : Nat} {xs : List Value} (h : W.ownsRow B e k (rowV g n c) n xs) (hb : B' ≤ g) : W.ownsRow B' e k (rowV g n c) n xs := by
  refine ⟨h.1, ?_⟩
  rcases h.2 with h2 | ⟨g', cap, cur, e1, e2, e3⟩
  · exact .inl h2
  · refine .inr ⟨g', cap, cur, e1, ?_, e3⟩
    simp only [rowV, Value.slice.injEq, Option.some.injEq, Addr.mk.injEq, and_true, true_and] at e1
    rw [← e1.1]; exact hb
theorem aft_make {U w5 w6 w7 F : World} {nb gC gA gB m n cC cA cB b5 b6 b7 tn : Nat} {p : PlaceD} {q : Int}
    (hoC : w5.ownsRow b5 3 1 (rowV gC m cC) m (iv p.cells)) (hoA : w6.ownsRow b6 3 1 (rowV gA n cA) n (iv p.h0)) (hoB : w7.ownsRow b7 3 1 (rowV gB n cB) n (iv p.h1))
    (c0 : U.heap.size ≤ gC) (c1 : gC < w5.heap.size) (a0 : w5.heap.size ≤ gA) (a1 : gA < w6.heap.size) (e0 : w6.heap.size ≤ gB) (e1 : gB < w7.heap.size)
    (hB56 : Below w5.heap.size w5 w6) (hB67 : Below w6.heap.size w6 w7) (hF : ∀ k, k ≠ nb → k < w7.heap.size → F.heap[k]? = w7.heap[k]?) (hbel : Below U.heap.size U F) (hnb : U.heap.size ≤ nb)
    (n1 : gC ≠ nb) (n2 : gA ≠ nb) (n3 : gB ≠ nb) (hrow : F.heap[nb]? = some (.cells #[rowV gC m cC, rowV gA n cA, rowV gB n cB, .int .i64 (1 - (tn : Int)), .int .i64 q] 29 (0, 0)))
    (ht : p.turn = (tn : Int)) (htn : tn ≤ 1) :
    ∃ nb' gc gh go cc ch co uA uB, Value.pointer (some ⟨nb, 0, none⟩) = .pointer (some ⟨nb', 0, none⟩) ∧ Hid (AftS U F nb' gc gh go m n cc ch co tn uA uB p.cells (handI p) (otherI p) (1 - (tn : Int)) q) := by
  have s5 := hB56.size
  have s6 := hB67.size
  have kC := owns_base (owns_block hoC ((hF gC n1 (by omega)).trans ((hB67.block gC (by omega)).trans (hB56.block gC c1)))) c0
  have kA := owns_base (B' := U.heap.size) (owns_block hoA ((hF gA n2 (by omega)).trans (hB67.block gA a1))) (by omega)
  have kB := owns_base (B' := U.heap.size) (owns_block hoB (hF gB n3 e1)) (by omega)
  have h2 : tn = 0 ∨ tn = 1 := by omega
  rcases h2 with h2 | h2
  · refine ⟨nb, gC, gA, gB, cC, cA, cB, _, _, rfl, Lib.hid ⟨hbel, hrow, hnb, kC, ?_, ?_, by omega, by omega, by omega, fun _ => ⟨rfl, rfl⟩, fun h => by omega⟩⟩
    · rw [handI, if_pos (by rw [ht, h2]; rfl)]; exact kA
    · rw [otherI, if_pos (by rw [ht, h2]; rfl)]; exact kB
  · refine ⟨nb, gC, gB, gA, cC, cB, cA, _, _, rfl, Lib.hid ⟨hbel, hrow, hnb, kC, ?_, ?_, by omega, by omega, by omega, fun h => by omega, fun _ => ⟨rfl, rfl⟩⟩⟩
    · rw [handI, if_neg (by rw [ht, h2]; decide)]; exact kB
    · rw [otherI, if_neg (by rw [ht, h2]; decide)]; exact kA
theorem aft_new {U w5 w6 w7 : World} {gC gA gB m n cC cA cB b5 b6 b7 tn : Nat} {p : PlaceD} {q : Int}
    (hoC : w5.ownsRow b5 3 1 (rowV gC m cC) m (iv p.cells)) (hoA : w6.ownsRow b6 3 1 (rowV gA n cA) n (iv p.h0)) (hoB : w7.ownsRow b7 3 1 (rowV gB n cB) n (iv p.h1))
    (c0 : U.heap.size ≤ gC) (c1 : gC < w5.heap.size) (a0 : w5.heap.size ≤ gA) (a1 : gA < w6.heap.size) (e0 : w6.heap.size ≤ gB) (e1 : gB < w7.heap.size)
    (hB56 : Below w5.heap.size w5 w6) (hB67 : Below w6.heap.size w6 w7) (hB7 : Below U.heap.size U w7) (ht : p.turn = (tn : Int)) (htn : tn ≤ 1) :
    ∃ nb' gc gh go cc ch co uA uB, Value.pointer (some ⟨w7.heap.size, 0, none⟩) = .pointer (some ⟨nb', 0, none⟩) ∧ Hid (AftS U (w7.alloc (.cells #[rowV gC m cC, rowV gA n cA, rowV gB n cB, .int .i64 (1 - (tn : Int)), .int .i64 q] 29)) nb' gc gh go m n cc ch co tn uA uB p.cells (handI p) (otherI p) (1 - (tn : Int)) q) := by
  have s5 := hB56.size
  have s6 := hB67.size
  exact aft_make hoC hoA hoB c0 c1 a0 a1 e0 e1 hB56 hB67 (fun k _ hk => Below.heap_alloc w7 _ k hk) (hB7.alloc hB7.size _) hB7.size (by omega) (by omega) (by omega) (heap_alloc_new w7 _) ht htn
theorem aft_fill {U w5 w6 w7 : World} {nb gC gA gB m n cC cA cB b5 b6 b7 tn : Nat} {p : PlaceD} {q : Int}
    (hoC : w5.ownsRow b5 3 1 (rowV gC m cC) m (iv p.cells)) (hoA : w6.ownsRow b6 3 1 (rowV gA n cA) n (iv p.h0)) (hoB : w7.ownsRow b7 3 1 (rowV gB n cB) n (iv p.h1))
    (c0 : U.heap.size ≤ gC) (c1 : gC < w5.heap.size) (a0 : w5.heap.size ≤ gA) (a1 : gA < w6.heap.size) (e0 : w6.heap.size ≤ gB) (e1 : gB < w7.heap.size)
    (hB56 : Below w5.heap.size w5 w6) (hB67 : Below w6.heap.size w6 w7) (hB7 : Below U.heap.size U w7) (ht : p.turn = (tn : Int)) (htn : tn ≤ 1)
    (hA7 : w7.heap[nb]? = some (.cells #[.slice none 0 0, .slice none 0 0, .slice none 0 0, .int .i64 0, .int .i64 0] 29 (0, 0))) (hnb : U.heap.size ≤ nb) (n1 : gC ≠ nb) (n2 : gA ≠ nb) (n3 : gB ≠ nb) :
    ∃ nb' gc gh go cc ch co uA uB, Value.pointer (some ⟨nb, 0, none⟩) = .pointer (some ⟨nb', 0, none⟩) ∧ Hid (AftS U (((((w7.setCell ⟨nb, 0, none⟩ (rowV gC m cC)).setCell ⟨nb, 1, none⟩ (rowV gA n cA)).setCell ⟨nb, 2, none⟩ (rowV gB n cB)).setCell ⟨nb, 3, none⟩ (.int .i64 (1 - (tn : Int)))).setCell ⟨nb, 4, none⟩ (.int .i64 q)) nb' gc gh go m n cc ch co tn uA uB p.cells (handI p) (otherI p) (1 - (tn : Int)) q) := by
  have hR : PBox w7 nb 29 zeroP (.slice none 0 0) (.slice none 0 0) (.slice none 0 0) := hA7
  have h1 := pbox_fill (p := ⟨[], [], [], 1 - (tn : Int), q⟩) (vc := rowV gC m cC) (v0 := rowV gA n cA) (v1 := rowV gB n cB) hR
  have h2 := fillP_other w7 nb ⟨[], [], [], 1 - (tn : Int), q⟩ (rowV gC m cC) (rowV gA n cA) (rowV gB n cB)
  have h3 := fillP_below hB7 hnb ⟨[], [], [], 1 - (tn : Int), q⟩ (rowV gC m cC) (rowV gA n cA) (rowV gB n cB)
  exact aft_make hoC hoA hoB c0 c1 a0 a1 e0 e1 hB56 hB67 (fun k hk _ => h2.1 k hk) h3 hnb n1 n2 n3 h1 ht htn
end Go.Proofs.Ythbilpgecombiaa
