/- gamehalltop.bFine at errors that are all nil. -/
import Derived.Test.YtomclohfppbegaaGreatDoorRulA
set_option maxRecDepth 100000
namespace Go.Proofs.YtomclohfppbegaaGreatDoor
open Go.ChangeShapes Go.WideShapes Go.ChangeAt Go.RowKit

theorem fineFnT (w : World) : Calls Tryz.prog 28 #[.int .i64 0] w fun e w' => e = .returned (.bool false) ∧ w' = w := by
  go_enter Tryz.func28, Tryz.ntmps28
  go_wp2_with fail
  go_ret
  exact ⟨rfl, rfl⟩
def ZerosT (w : World) (g n : Nat) : Prop := ∀ k, k < n → w.cell? ⟨g, k, none⟩ = some (.int .i64 0)
set_option maxHeartbeats 1000000 in
theorem idxErrT (g n : Nat) (w : World) (h : ZerosT w g n) (hn : n ≤ 10) :
    Calls Tryz.prog 65 #[.slice (some ⟨g, 0, none⟩) n n, .func (.func 28) #[] #[]] w fun e w' => e = .returned (.int .i64 (-1)) ∧ w' = w := by
  have HC := Lib.hid h
  clear h
  go_enter Tryz.func65, Tryz.ntmps65
  go_wp2
  go_loopw [8] (fun i wr => ∃ k : Nat, k ≤ n ∧ i = .int .i64 (k : Int) ∧ w = wr) (fun i _ => n - (intOf i).toNat)
  case atStart => exact ⟨0, by omega, rfl, rfl⟩
  case round =>
    obtain ⟨k, hk, rfl, rfl⟩ := hrel
    by_cases hlt : k < n
    · have c := HC.out k hlt
      go_wp2_with fail
      go_at_call 28; refine (turned (fineFnT _)).mono ?_; rintro e w' ⟨rfl, rfl⟩
      go_wp2_with fail
      go_roundw
      case rel => exact ⟨k + 1, by omega, by go_num, by first | rfl | trivial⟩
      case measure => simp [intOf]; omega
    · go_wp2_with fail
      go_ret
      exact ⟨rfl, rfl⟩
theorem fine_zerosT (g n : Nat) (w : World) (h : ZerosT w g n) (hn : n ≤ 10) : Calls Tryz.prog 7 #[.slice (some ⟨g, 0, none⟩) n n] w fun e w' => e = .returned (.bool true) ∧ w' = w := by
  have HI : Hid (Calls Tryz.prog 65 #[.slice (some ⟨g, 0, none⟩) n n, .func (.func 28) #[] #[]] w fun e w' => e = .returned (.int .i64 (-1)) ∧ w = w') := Lib.hid (turned (idxErrT g n w h hn))
  have HCF : Hid (Calls Tryz.prog 27 #[.slice (some ⟨g, 0, none⟩) n n, .func (.func 28) #[] #[]] w fun e w' => e = .returned (.bool false) ∧ w = w') := Lib.hid (by
    clear h
    go_enter Tryz.func27, Tryz.ntmps27
    go_wp2_with fail
    go_at_call 65; refine HI.out.mono ?_; rintro e w' ⟨rfl, rfl⟩
    go_wp2_with fail
    go_ret
    exact ⟨rfl, rfl⟩)
  clear h
  go_enter Tryz.func7, Tryz.ntmps7
  go_wp2_with fail
  go_at_call 27; refine HCF.out.mono ?_; rintro e w' ⟨rfl, rfl⟩
  go_wp2_with fail
  go_ret
  exact ⟨rfl, rfl⟩
theorem fine2T (W : World) (g : Nat) (hg : g = W.heap.size) : Calls Tryz.prog 7 #[.slice (some ⟨g, 0, none⟩) 2 2] (W.alloc (.cells #[.int .i64 0, .int .i64 0] 27)) fun e w' => e = .returned (.bool true) ∧ Below W.heap.size W w' := by
  have hc : ∀ i, (W.alloc (.cells #[.int .i64 0, .int .i64 0] 27)).cell? ⟨g, i, none⟩ = (#[.int .i64 0, .int .i64 0] : Array Value)[i]? := fun i => by rw [hg]; exact cell_of_row _ W.heap.size i _ _ (0, 0) (heap_alloc_new W _)
  refine (fine_zerosT g 2 _ (fun k hk => ?_) (by decide)).mono ?_
  · obtain rfl | rfl : k = 0 ∨ k = 1 := by omega
    · exact hc 0
    · exact hc 1
  rintro e w' ⟨rfl, rfl⟩
  exact ⟨rfl, (Below.refl _ _).alloc (Nat.le_refl _) _⟩
theorem fine3T (W : World) (g : Nat) (hg : g = W.heap.size) : Calls Tryz.prog 7 #[.slice (some ⟨g, 0, none⟩) 3 3] (W.alloc (.cells #[.int .i64 0, .int .i64 0, .int .i64 0] 27)) fun e w' => e = .returned (.bool true) ∧ Below W.heap.size W w' := by
  have hc : ∀ i, (W.alloc (.cells #[.int .i64 0, .int .i64 0, .int .i64 0] 27)).cell? ⟨g, i, none⟩ = (#[.int .i64 0, .int .i64 0, .int .i64 0] : Array Value)[i]? := fun i => by rw [hg]; exact cell_of_row _ W.heap.size i _ _ (0, 0) (heap_alloc_new W _)
  refine (fine_zerosT g 3 _ (fun k hk => ?_) (by decide)).mono ?_
  · obtain rfl | rfl | rfl : k = 0 ∨ k = 1 ∨ k = 2 := by omega
    · exact hc 0
    · exact hc 1
    · exact hc 2
  rintro e w' ⟨rfl, rfl⟩
  exact ⟨rfl, (Below.refl _ _).alloc (Nat.le_refl _) _⟩
end Go.Proofs.YtomclohfppbegaaGreatDoor
