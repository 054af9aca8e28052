/- A slice of ints that came in as an argument, as the frame of a proof opens it, and as the walks here want it. -/
import Derived.Test.YtffnnpjgfjkmjaaDoorSame
namespace Go.Proofs.YtffnnpjgfjkmjaaDoor
open Go.RowKit

/-- It is nil, or leads to 'cap' cells with the numbers zs, of which the first 'len' are its elements. -/
def IsRow (k : IntKind) (w : World) (a : Option Addr) (len cap : Nat) (zs : List Int) : Prop :=
  (a = none ∧ len = 0 ∧ cap = 0 ∧ zs = []) ∨
  ∃ x, a = some x ∧ len ≤ cap ∧ cap ≤ maxLen ∧ zs.length = cap ∧ (∀ i, i < zs.length → w.cell? (x.add i) = some (.int k (zs.getD i 0))) ∧ ∀ n ∈ zs, (Lit.int k n).wf = true
theorem IsRow.row {w : World} {a : Option Addr} {len cap : Nat} {zs : List Int} (h : IsRow .i64 w a len cap zs) : Row w (.slice a len cap) (vals (zs.take len)) ∧ len = (zs.take len).length := by
  rcases h with ⟨rfl, rfl, rfl, rfl⟩ | ⟨x, rfl, hl, hm, hz, hcell, _⟩
  · exact ⟨.inl ⟨rfl, none, 0, rfl⟩, rfl⟩
  · have hlen : len = (zs.take len).length := by rw [List.length_take]; omega
    refine ⟨?_, hlen⟩
    by_cases h0 : len = 0
    · subst h0; exact .inl ⟨rfl, _, cap, rfl⟩
    · obtain ⟨g, off, spot⟩ := x
      have hc := hcell 0 (by omega)
      obtain rfl : spot = none := by simpa [Addr.add] using World.cell?_spot hc
      refine .inr ⟨g, off, cap, by rw [vals_length, ← hlen], ?_, by rw [vals_length, ← hlen]; exact hl, hm, fun i u hu => ?_⟩
      · intro e
        have : (vals (zs.take len)).length = 0 := by rw [e]; rfl
        rw [vals_length, ← hlen] at this; exact h0 this
      · have hi : i < len := by
          have := (List.getElem?_eq_some_iff.1 hu).1
          rw [vals_length, ← hlen] at this; exact this
        rw [vals_at _ i (by omega)] at hu
        have hc := hcell i (by omega)
        have e2 : (⟨g, off, none⟩ : Addr).add i = ⟨g, off + i, none⟩ := by cases i <;> simp [Addr.add]
        rw [e2] at hc
        rw [hc, ← hu]
        have hi2 : i < zs.length := by omega
        simp [List.getD, hi2, hi]
end Go.Proofs.YtffnnpjgfjkmjaaDoor
