/- A block of rules in memory (as in CloneR, where a seat has no clone). -/
import Derived.Test.YtakekeljndofcaaGreatDoorCheckR
set_option maxRecDepth 100000
namespace Go.Proofs.YtakekeljndofcaaGreatDoor
open Go.ChangeShapes Go.WideShapes Go.ChangeAt Go.RowKit

/-- A block of rules: what it holds, and that it may be written. -/
def RBox (W : World) (b : Nat) (t : TypeId) (r : RulesD) (vp vs ve : Value) : Prop := W.heap[b]? = some (.cells (RulesCells r vp vs ve) t (0, 0))
theorem RBox.below {W W' : World} {b n : Nat} {t : TypeId} {r : RulesD} {vp vs ve : Value} (h : RBox W b t r vp vs ve) (hb : Below n W W') (hn : b < n) : RBox W' b t r vp vs ve := (hb.block b hn).trans h
def RFacts (W : World) (b : Nat) (r : RulesD) (vp vs ve : Value) : Prop := BoxR W b r vp vs ve ∧ W.frozen? ⟨b, 0, none⟩ = false ∧ W.frozen? ⟨b, 1, none⟩ = false ∧ W.frozen? ⟨b, 2, none⟩ = false ∧ W.frozen? ⟨b, 3, none⟩ = false ∧ W.frozen? ⟨b, 4, none⟩ = false ∧ W.frozen? ⟨b, 5, none⟩ = false ∧ W.frozen? ⟨b, 6, none⟩ = false ∧ W.frozen? ⟨b, 7, none⟩ = false ∧ W.frozen? ⟨b, 8, none⟩ = false ∧ W.frozen? ⟨b, 9, none⟩ = false ∧ W.frozen? ⟨b, 10, none⟩ = false
theorem RBox.facts {W : World} {b : Nat} {t : TypeId} {r : RulesD} {vp vs ve : Value} (h : RBox W b t r vp vs ve) : RFacts W b r vp vs ve := by
  have hc : ∀ i, W.cell? ⟨b, i, none⟩ = (RulesCells r vp vs ve)[i]? := fun i => cell_of_row W b i _ t (0, 0) h
  have hf : ∀ i, W.frozen? ⟨b, i, none⟩ = false := fun i => frozen_of_row W b i _ t h
  exact ⟨⟨hc 0, hc 1, hc 2, hc 3, hc 4, hc 5, hc 6, hc 7, hc 8, hc 9, hc 10⟩, hf 0, hf 1, hf 2, hf 3, hf 4, hf 5, hf 6, hf 7, hf 8, hf 9, hf 10⟩
theorem RBox.set3 {W : World} {b : Nat} {t : TypeId} {r : RulesD} {vp vs ve : Value} (h : RBox W b t r vp vs ve) (u : Value) : RBox (W.setCell ⟨b, 3, none⟩ u) b t r u vs ve := heap_setCell_same W b 3 _ t u h
theorem RBox.set4 {W : World} {b : Nat} {t : TypeId} {r : RulesD} {vp vs ve : Value} (h : RBox W b t r vp vs ve) (u : Value) : RBox (W.setCell ⟨b, 4, none⟩ u) b t r vp u ve := heap_setCell_same W b 4 _ t u h
theorem RBox.set7 {W : World} {b : Nat} {t : TypeId} {r : RulesD} {vp vs ve : Value} (h : RBox W b t r vp vs ve) (u : Value) : RBox (W.setCell ⟨b, 7, none⟩ u) b t r vp vs u := heap_setCell_same W b 7 _ t u h
theorem RBox.other {W : World} {b : Nat} {t : TypeId} {r : RulesD} {vp vs ve : Value} (h : RBox W b t r vp vs ve) {a : Addr} (ha : b ≠ a.block) (u : Value) : RBox (W.setCell a u) b t r vp vs ve := (heap_setCell_other W a b u ha).trans h
theorem RBox.new (W : World) (t : TypeId) (r : RulesD) (vp vs ve : Value) : RBox (W.alloc (.cells (RulesCells r vp vs ve) t)) W.heap.size t r vp vs ve := heap_alloc_new W _
theorem RBox.alloc {W : World} {b : Nat} {t : TypeId} {r : RulesD} {vp vs ve : Value} (h : RBox W b t r vp vs ve) (o : Obj) : RBox (W.alloc o) b t r vp vs ve := (Below.heap_alloc W o b (Array.getElem?_eq_some_iff.1 h).1).trans h
end Go.Proofs.YtakekeljndofcaaGreatDoor
