/- fine at errors that are all nil. -/
import Derived.Test.YtdhhdkbnlddnbaaGreatDoorRulA
set_option maxRecDepth 100000
namespace Go.Proofs.YtdhhdkbnlddnbaaGreatDoor
open Go.ChangeShapes Go.WideShapes Go.ChangeAt Go.RowKit

theorem fineFn (w : World) : Calls Tryz.prog 32 #[.int .i64 0] w fun e w' => e = .returned (.bool false) ∧ w' = w := by
  go_enter Tryz.func32, Tryz.ntmps32
  go_wp2_with fail
  go_ret
  exact ⟨rfl, rfl⟩
def Zeros (w : World) (g n : Nat) : Prop := ∀ k, k < n → w.cell? ⟨g, k, none⟩ = some (.int .i64 0)
set_option maxHeartbeats 1000000 in
theorem idxErr (g n : Nat) (w : World) (h : Zeros w g n) (hn : n ≤ 10) :
    Calls Tryz.prog 47 #[.slice (some ⟨g, 0, none⟩) n n, .func (.func 32) #[] #[]] w fun e w' => e = .returned (.int .i64 (-1)) ∧ w' = w := by
  have HC := Lib.hid h
  clear h
  go_enter Tryz.func47, Tryz.ntmps47
  go_wp2
  go_loopw [8] (fun i wr => ∃ k : Nat, k ≤ n ∧ i = .int .i64 (k : Int) ∧ w = wr) (fun i _ => n - (intOf i).toNat)
  case atStart => exact ⟨0, by omega, rfl, rfl⟩
  case round =>
    obtain ⟨k, hk, rfl, rfl⟩ := hrel
    by_cases hlt : k < n
    · have c := HC.out k hlt
      go_wp2_with fail
      go_at_call 32; refine (turned (fineFn _)).mono ?_; rintro e w' ⟨rfl, rfl⟩
      go_wp2_with fail
      go_roundw
      case rel => exact ⟨k + 1, by omega, by go_num, by first | rfl | trivial⟩
      case measure => simp [intOf]; omega
    · go_wp2_with fail
      go_ret
      exact ⟨rfl, rfl⟩
theorem fine_zeros (g n : Nat) (w : World) (h : Zeros w g n) (hn : n ≤ 10) : Calls Tryz.prog 14 #[.slice (some ⟨g, 0, none⟩) n n] w fun e w' => e = .returned (.bool true) ∧ w' = w := by
  have HI : Hid (Calls Tryz.prog 47 #[.slice (some ⟨g, 0, none⟩) n n, .func (.func 32) #[] #[]] w fun e w' => e = .returned (.int .i64 (-1)) ∧ w = w') := Lib.hid (turned (idxErr g n w h hn))
  have HCF : Hid (Calls Tryz.prog 31 #[.slice (some ⟨g, 0, none⟩) n n, .func (.func 32) #[] #[]] w fun e w' => e = .returned (.bool false) ∧ w = w') := Lib.hid (by
    clear h
    go_enter Tryz.func31, Tryz.ntmps31
    go_wp2_with fail
    go_at_call 47; refine HI.out.mono ?_; rintro e w' ⟨rfl, rfl⟩
    go_wp2_with fail
    go_ret
    exact ⟨rfl, rfl⟩)
  clear h
  go_enter Tryz.func14, Tryz.ntmps14
  go_wp2_with fail
  go_at_call 31; refine HCF.out.mono ?_; rintro e w' ⟨rfl, rfl⟩
  go_wp2_with fail
  go_ret
  exact ⟨rfl, rfl⟩
theorem fine2 (W : World) (g : Nat) (hg : g = W.heap.size) : Calls Tryz.prog 14 #[.slice (some ⟨g, 0, none⟩) 2 2] (W.alloc (.cells #[.int .i64 0, .int .i64 0] 31)) fun e w' => e = .returned (.bool true) ∧ Below W.heap.size W w' := by
  have hc : ∀ i, (W.alloc (.cells #[.int .i64 0, .int .i64 0] 31)).cell? ⟨g, i, none⟩ = (#[.int .i64 0, .int .i64 0] : Array Value)[i]? := fun i => by rw [hg]; exact cell_of_row _ W.heap.size i _ _ (0, 0) (heap_alloc_new W _)
  refine (fine_zeros g 2 _ (fun k hk => ?_) (by decide)).mono ?_
  · obtain rfl | rfl : k = 0 ∨ k = 1 := by omega
    · exact hc 0
    · exact hc 1
  rintro e w' ⟨rfl, rfl⟩
  exact ⟨rfl, (Below.refl _ _).alloc (Nat.le_refl _) _⟩
theorem fine3 (W : World) (g : Nat) (hg : g = W.heap.size) : Calls Tryz.prog 14 #[.slice (some ⟨g, 0, none⟩) 3 3] (W.alloc (.cells #[.int .i64 0, .int .i64 0, .int .i64 0] 31)) fun e w' => e = .returned (.bool true) ∧ Below W.heap.size W w' := by
  have hc : ∀ i, (W.alloc (.cells #[.int .i64 0, .int .i64 0, .int .i64 0] 31)).cell? ⟨g, i, none⟩ = (#[.int .i64 0, .int .i64 0, .int .i64 0] : Array Value)[i]? := fun i => by rw [hg]; exact cell_of_row _ W.heap.size i _ _ (0, 0) (heap_alloc_new W _)
  refine (fine_zeros g 3 _ (fun k hk => ?_) (by decide)).mono ?_
  · obtain rfl | rfl | rfl : k = 0 ∨ k = 1 ∨ k = 2 := by omega
    · exact hc 0
    · exact hc 1
    · exact hc 2
  rintro e w' ⟨rfl, rfl⟩
  exact ⟨rfl, (Below.refl _ _).alloc (Nat.le_refl _) _⟩
end Go.Proofs.YtdhhdkbnlddnbaaGreatDoor
