/- slices.Equal at []api.Move, of equal lists. -/
import Derived.Test.YtomclohfppbegaaGreatDoorMvB
import Derived.Test.YtomclohfppbegaaGreatDoorRulB
import Derived.BigQuiet
set_option maxRecDepth 100000
namespace Go.Proofs.YtomclohfppbegaaGreatDoor
open Go.ChangeShapes Go.WideShapes Go.ChangeAt Go.RowKit

set_option maxHeartbeats 2000000 in
theorem equalMoves_same (ms : List MoveD) (a a' : Option Addr) (n n' c c' : Nat) (w : World) (h1 : IsSl MoveAt 3 w (.slice a n c) ms) (h2 : IsSl MoveAt 3 w (.slice a' n' c') ms) (hl : ms.length ≤ 100000) :
    Calls Tryz.prog 12 #[.slice a n c, .slice a' n' c'] w (BelPost (.bool true) w) := by
  obtain ⟨k, hk⟩ : ∃ k, k = ms.length := ⟨_, rfl⟩
  obtain ⟨b, cap, e1, hc1, hq1⟩ := h1.shape hk
  obtain ⟨b', cap', e2, hc2, hq2⟩ := h2.shape hk
  simp only [Value.slice.injEq] at e1 e2
  obtain ⟨e1, e1n, e1c⟩ := e1
  obtain ⟨e2, e2n, e2c⟩ := e2
  subst e1 e1c e2 e2c e1n
  subst e2n
  rw [← hk] at hl
  have HA : Hid (∀ W, Below w.heap.size w W → ∀ j, j < n' → ∃ g o g' o' x, a = some ⟨g, o, none⟩ ∧ a' = some ⟨g', o', none⟩ ∧ MoveAt W g (o + j * 3) x ∧ MoveAt W g' (o' + j * 3) x) := Lib.hid (fun W hb j hj => by
    obtain ⟨g, o, x, i1, i2, i3⟩ := hq1 j hj
    obtain ⟨g', o', x', i4, i5, i6⟩ := hq2 j hj
    obtain rfl : x = x' := Option.some.inj (i2.symm.trans i5)
    exact ⟨g, o, g', o', x, i1, i4, move_keeps _ _ _ _ _ _ hb (Nat.le_refl _) i3, move_keeps _ _ _ _ _ _ hb (Nat.le_refl _) i6⟩)
  have heq := neqMove
  have hgd := guardMove
  clear hq1 hq2 h1 h2 hk
  go_enter Tryz.func12, Tryz.ntmps12
  go_wp2
  go_loopw [5, 13] (fun _ i wr => ∃ j : Nat, j ≤ n' ∧ i = .int .i64 (j : Int) ∧ Hid (Below w.heap.size w wr)) (fun _ i _ => n' - (intOf i).toNat)
  case atStart => exact ⟨0, by omega, rfl, Lib.hid (Below.refl _ _)⟩
  case round =>
    obtain ⟨j, hjn, rfl, hbel⟩ := hrel
    by_cases hlt : j < n'
    · obtain ⟨g, o, g', o', ⟨x1, x2, x3⟩, rfl, rfl, ⟨c0, c1, c2⟩, ⟨d0, d1, d2⟩⟩ := HA.out wr hbel.out j hlt
      have hss : sameM (x1, x2, x3) (x1, x2, x3) = true := sameM_eq rfl
      have hjc : j < c := by omega
      have hjc' : j < c' := by omega
      dsimp only at c0 c1 c2 d0 d1 d2
      go_wp2_with fail
      go_quiet (fail)
      have HB1 : Hid (Below w.heap.size w (wr.drewN nq)) := Lib.hid (below_drewN hbel.out _)
      clear c0 c1 c2 d0 d1 d2 hbel
      generalize wr.drewN nq = w2 at HB1 ⊢
      go_wp2
      go_roundw
      case rel => exact ⟨j + 1, by omega, by go_num, HB1⟩
      case measure => simp [intOf]; omega
    · obtain rfl : j = n' := by omega
      clear HA
      go_wp2
      go_ret
      exact ⟨rfl, hbel.out⟩
end Go.Proofs.YtomclohfppbegaaGreatDoor
