/- gamehallkeep1.some, of a list of moves. -/
import Derived.Test.YtkficjpnflnjhaaGreatDoorMvB
set_option maxRecDepth 100000
namespace Go.Proofs.YtkficjpnflnjhaaGreatDoor
open Go.ChangeShapes Go.WideShapes Go.ChangeAt Go.RowKit

/-- A number brought into a list: what the two remainders come to. -/
theorem some_rem (x : Int) {n : Nat} (h : 1 ≤ n) : ∃ t : Int, x.tmod (n : Int) = t ∧ (0 ≤ t + (n : Int) ∧ t ≤ (n : Int)) ∧ ∃ j : Nat, (t + (n : Int)).tmod (n : Int) = (j : Int) ∧ j < n := by
  have hn : (0 : Int) < n := by omega
  refine ⟨_, rfl, ?_, ?_⟩
  · by_cases h0 : 0 ≤ x
    · rw [Int.tmod_eq_emod_of_nonneg h0]
      have := Int.emod_nonneg x (by omega : (n : Int) ≠ 0)
      have := Int.emod_lt_of_pos x hn
      omega
    · have e : x.tmod (n : Int) = -((-x).tmod (n : Int)) := by rw [Int.neg_tmod, Int.neg_neg]
      rw [e, Int.tmod_eq_emod_of_nonneg (by omega)]
      have := Int.emod_nonneg (-x) (by omega : (n : Int) ≠ 0)
      have := Int.emod_lt_of_pos (-x) hn
      omega
  · have hs : 0 ≤ x.tmod (n : Int) + (n : Int) := by
      by_cases h0 : 0 ≤ x
      · rw [Int.tmod_eq_emod_of_nonneg h0]
        have := Int.emod_nonneg x (by omega : (n : Int) ≠ 0)
        omega
      · have e : x.tmod (n : Int) = -((-x).tmod (n : Int)) := by rw [Int.neg_tmod, Int.neg_neg]
        rw [e, Int.tmod_eq_emod_of_nonneg (by omega)]
        have := Int.emod_lt_of_pos (-x) hn
        omega
    rw [Int.tmod_eq_emod_of_nonneg hs]
    have h1 := Int.emod_nonneg (x.tmod (n : Int) + (n : Int)) (by omega : (n : Int) ≠ 0)
    have h2 := Int.emod_lt_of_pos (x.tmod (n : Int) + (n : Int)) hn
    exact ⟨((x.tmod (n : Int) + (n : Int)) % (n : Int)).toNat, by omega, by omega⟩
/-- One of a list's moves. -/
def SomeM (l : List MoveD) (w : World) (e : Ending) (w' : World) : Prop := ∃ m1 m2 m3 : Int, (m1, m2, m3) ∈ l ∧ e = .returned (.agg #[.int .i64 m1, .int .i64 m2, .int .i64 m3]) ∧ Below w.heap.size w w'
set_option maxHeartbeats 2000000 in
theorem someM_any (l : List MoveD) (a : Option Addr) (n cp : Nat) (x : Int) (w : World) (hv : IsSl MoveAt 3 w (.slice a n cp) l) (hn : n = l.length) (h1 : 1 ≤ n) (h5 : n ≤ 5000) :
    Calls Tryz.prog 15 #[.slice a n cp, .int .i64 x] w (SomeM l w) := by
  obtain ⟨a', cp', e1, hcp, hcell⟩ := hv.shape hn
  simp only [Value.slice.injEq] at e1
  obtain ⟨rfl, -, rfl⟩ := e1
  obtain ⟨t, ht, ⟨t1, t2⟩, j, hj, hjn⟩ := some_rem x h1
  obtain ⟨g, off, ⟨m1, m2, m3⟩, rfl, hx, hq⟩ := hcell j hjn
  have hal := (Below.refl w.heap.size w).alloc (Nat.le_refl _) (.cells #[.int .i64 0, .int .i64 0, .int .i64 0] 43)
  obtain ⟨c0, c1, c2⟩ := move_keeps _ _ _ _ _ _ hal (Nat.le_refl _) hq
  have HM : Hid ((m1, m2, m3) ∈ l) := Lib.hid (List.mem_of_getElem? hx)
  have hne : ((n : Int) == 0) = false := by simp; omega
  have hsum : IntKind.i64.wrap (t + (n : Int)) = t + (n : Int) := IntWalk.i64_in _ (by omega)
  clear hcell hx hq hv hn hal
  go_enter Tryz.func15, Tryz.ntmps15
  go_wp2_with fail
  refine bodyPost_ret (results_cell_row rfl _ _ w.heap.size 43 _ (0, 0) _ rfl (heap_alloc_new w (.cells #[.int .i64 m1, .int .i64 m2, .int .i64 m3] 43)) Tryz.underlying43 rfl (by kernel_rfl)) rfl ?_
  exact ⟨m1, m2, m3, HM.out, rfl, (Below.refl _ _).alloc (Nat.le_refl _) _⟩
end Go.Proofs.YtkficjpnflnjhaaGreatDoor
