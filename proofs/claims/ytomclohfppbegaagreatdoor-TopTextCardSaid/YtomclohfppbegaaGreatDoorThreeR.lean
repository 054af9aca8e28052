/- three: the rules that the statements begin with. -/
import Derived.Test.YtomclohfppbegaaGreatDoorRulA
namespace Go.Proofs.YtomclohfppbegaaGreatDoor
open Go.ChangeShapes Go.WideShapes Go.ChangeAt Go.RowKit

def threeD (st : List Int) : RulesD := { name := ⟨#[84, 73, 67]⟩, width := 3, height := 3, pieces := [⟨65, 5, 0, []⟩], start := st, falls := false, keeps := false, ends := [⟨0, 0, 3, false⟩], blocked := 2, quiet := 0, rep := 0 }
def RulesPost (r : RulesD) (w : World) (e : Ending) (w' : World) : Prop := ∃ vp vs ve, e = .returned (RulesV r vp vs ve) ∧ RulesIn w' r vp vs ve ∧ Below w.heap.size w w'
theorem make9 : ∀ w : World, Sem.run Tryz.prog (Instr.makeSlice 23 (.int .i64 9) (.int .i64 9)) w = .ok (.slice (some ⟨w.heap.size, 0, none⟩) 9 9) (w.alloc (.cells #[.int .i64 0, .int .i64 0, .int .i64 0, .int .i64 0, .int .i64 0, .int .i64 0, .int .i64 0, .int .i64 0, .int .i64 0] 3)) := fun _ => by kernel_rfl
end Go.Proofs.YtomclohfppbegaaGreatDoor
