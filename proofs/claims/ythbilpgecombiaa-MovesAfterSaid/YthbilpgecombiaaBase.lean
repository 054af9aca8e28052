/- Small words that every walk here uses: results, the world's name, blocks below. Nothing of the program's own is named here. -/
import Derived.Test.YthbilpgecombiaaRows
import Derived.WalkKit
import Derived.ProofKit
import Derived.Lib.Hide
import Derived.Deep.QuietTactic
import Derived.BigQuiet
import Derived.WalkSmall
namespace Go.Proofs.Ythbilpgecombiaa
open Go.ChangeShapes Go.WideShapes Go.ChangeAt Go.RowKit

theorem ret_i64 {a b : Int} (h : a = b) : Ending.returned (.int .i64 a) = .returned (.int .i64 b) := by rw [h]
theorem ret_bool {a b : Bool} (h : a = b) : Ending.returned (.bool a) = .returned (.bool b) := by rw [h]
/-- The same contract, with the world's equation turned: so the caller's name for the world stays. -/
theorem turned {P : Program} {f : FuncId} {args : Array Value} {w : World} {v : Ending} (h : Calls P f args w fun e w' => e = v ∧ w' = w) : Calls P f args w fun e w' => e = v ∧ w = w' :=
  h.mono fun _ _ h => ⟨h.1, h.2.symm⟩
theorem below_of_drew {w w2 : World} {q : Nat} (e2 : w2 = w.drewN q) : Below w.heap.size w w2 := by subst e2; exact below_drewN (Below.refl _ _) _
/-- Is a number from a to b? -/
def inB (x a b : Int) : Bool := decide (a ≤ x) && decide (x ≤ b)
theorem inB_iff {x a b : Int} : inB x a b = true ↔ a ≤ x ∧ x ≤ b := by simp [inB]
theorem inB_no {x a b : Int} : inB x a b = false ↔ x < a ∨ b < x := by
  cases h : inB x a b
  · simp [inB] at h; simp; omega
  · rw [inB_iff] at h; simp; omega
end Go.Proofs.Ythbilpgecombiaa
