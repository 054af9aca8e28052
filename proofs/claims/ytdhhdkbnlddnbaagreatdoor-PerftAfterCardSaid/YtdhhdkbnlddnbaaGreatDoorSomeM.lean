/- gamehallkeep1.some, of a list of moves. -/
import Derived.Test.YtdhhdkbnlddnbaaGreatDoorMvB
set_option maxRecDepth 100000
namespace Go.Proofs.YtdhhdkbnlddnbaaGreatDoor
open Go.ChangeShapes Go.WideShapes Go.ChangeAt Go.RowKit

/-- A number brought into a list: what the two remainders come to. -/
theorem some_rem (x : Int) {n : Nat} (h : 1 ≤ n) : ∃ t : Int, x.tmod (n : Int) = t ∧ (0 ≤ t + (n : Int) ∧ t ≤ (n : Int)) ∧ ∃ j : Nat, (t + (n : Int)).tmod (n : Int) = (j : Int) ∧ j < n := by
  have hn : (0 : Int) < n := by omega
  refine ⟨_, rfl, ?_, ?_⟩
  · by_cases h0 : 0 ≤ x
    · rw [Int.tmod_eq_emod_of_nonneg h0]
      have := Int.emod_nonneg x (by omega : (n : Int) ≠ 0)
      have := Int.emod_lt_of_pos x hn
      omega
    · have e : x.tmod (n : Int) = -((-x).tmod (n : Int)) := by rw [Int.neg_tmod, Int.neg_neg]
      rw [e, Int.tmod_eq_emod_of_nonneg (by omega)]
      have := Int.emod_nonneg (-x) (by omega : (n : Int) ≠ 0)
      have := Int.emod_lt_of_pos (-x) hn
      omega
  · have hs : 0 ≤ x.tmod (n : Int) + (n : Int) := by
      by_cases h0 : 0 ≤ x
      · rw [Int.tmod_eq_emod_of_nonneg h0]
        have := Int.emod_nonneg x (by omega : (n : Int) ≠ 0)
        omega
      · have e : x.tmod (n : Int) = -((-x).tmod (n : Int)) := by rw [Int.neg_tmod, Int.neg_neg]
        rw [e, Int.tmod_eq_emod_of_nonneg (by omega)]
        have := Int.emod_lt_of_pos (-x) hn
        omega
    rw [Int.tmod_eq_emod_of_nonneg hs]
    have h1 := Int.emod_nonneg (x.tmod (n : Int) + (n : Int)) (by omega : (n : Int) ≠ 0)
    have h2 := Int.emod_lt_of_pos (x.tmod (n : Int) + (n : Int)) hn
    exact ⟨((x.tmod (n : Int) + (n : Int)) % (n : Int)).toNat, by omega, by omega⟩
/-- One of a list's moves. -/
def SomeM (l : List MoveD) (w : World) (e : Ending) (w' : World) : Prop := ∃ m1 m2 m3 : Int, (m1, m2, m3) ∈ l ∧ e = .returned (.agg #[.int .i64 m1, .int .i64 m2, .int .i64 m3]) ∧ Below w.heap.size w w'
end Go.Proofs.YtdhhdkbnlddnbaaGreatDoor
