/- guessCell: the first cell with a letter. -/
import Derived.Test.YtakekeljndofcaaGreatDoorEnv
import Derived.Test.YtakekeljndofcaaGreatDoorPRow
set_option maxRecDepth 100000
namespace Go.Proofs.YtakekeljndofcaaGreatDoor
open Go.ChangeShapes Go.WideShapes Go.ChangeAt Go.RowKit

set_option maxHeartbeats 4000000 in
theorem guessCell_any (r : RulesD) (vp vs ve : Value) (c : UInt8) (w : World) (hr : IsSl PieceAt 4 w vp r.pieces) (h6 : r.pieces.length ≤ 6) (hcap : ∀ x ∈ r.pieces, 65 ≤ x.letter ∧ x.letter ≤ 90) :
    Calls Tryz.prog 57 #[RulesV r vp vs ve, .int .u8 (c.toNat : Int)] w (BelPost (.int .i64 (guessCell r.pieces c)) w) := by
  obtain ⟨n, hn⟩ : ∃ n : Nat, n = r.pieces.length := ⟨_, rfl⟩
  obtain ⟨pa, pc, rfl, hpc, -⟩ := hr.shape hn
  have HLT : Hid (∀ (k : Nat) W, k < 2 * n → Below w.heap.size w W → Calls Tryz.prog 43 #[RulesV r (.slice pa n pc) vs ve, .int .i64 ((k : Int) + 1)] W (BelPost (.int .u8 (cellB r.pieces ((k : Int) + 1)).toNat) W)) := Lib.hid (fun k W hk hb => pletter_any r _ vs ve _ W (hr.below piece_keeps hb (Nat.le_refl _)) h6 (by omega) (by omega) hcap)
  have HN := Lib.hid hn
  have hn6 : n ≤ 6 := by omega
  have q2 : IntKind.i64.wrap (2 * (n : Int)) = 2 * (n : Int) := IntWalk.i64_in _ (by omega)
  have hX := boxR_new w r (.slice pa n pc) vs ve 26
  have HX := Lib.hid hX
  have HB := Lib.hid ((Below.refl w.heap.size w).alloc (Nat.le_refl _) (.cells (RulesCells r (.slice pa n pc) vs ve) 26))
  obtain ⟨w1, hw1⟩ : ∃ w1, w1 = w.alloc (.cells (RulesCells r (.slice pa n pc) vs ve) 26) := ⟨_, rfl⟩
  have HW1 : Hid (w.alloc (.cells #[.string r.name, .int .i64 r.width, .int .i64 r.height, .slice pa n pc, vs, .bool r.falls, .bool r.keeps, ve, .int .i64 r.blocked, .int .i64 r.quiet, .int .i64 r.rep] 26) = w1) := Lib.hid hw1.symm
  rw [← hw1] at HX HB
  unfold RulesV at HLT ⊢
  clear hr hn h6 hcap hX hw1
  go_enter Tryz.func57, Tryz.ntmps57
  go_wp2_with fail
  rw [HW1.out]
  clear HW1
  go_loopw [5] (fun v wr => ∃ (k : Nat), k ≤ 2 * n ∧ v = .int .i64 ((k : Int) + 1) ∧ Hid (∀ j, j < k → cellB r.pieces ((j : Int) + 1) ≠ c) ∧ Hid (Below w1.heap.size w1 wr)) (fun v _ => 2 * n + 1 - (intOf v).toNat)
  case atStart => exact ⟨0, by omega, rfl, Lib.hid (fun j hj => by omega), Lib.hid (Below.refl _ _)⟩
  case round =>
    obtain ⟨k, hk, rfl, hno, hbel⟩ := hrel
    obtain ⟨x0, x1, x2, x3, x4, x5, x6, x7, x8, x9, x10⟩ := HX.out.below hbel.out (Nat.le_refl _)
    have HBW := Lib.hid (HB.out.trans (hbel.out.mono HB.out.size))
    by_cases hlt : k < 2 * n
    · have hle : (k : Int) + 1 ≤ 2 * (n : Int) := by omega
      obtain ⟨b, hb⟩ : ∃ b, b = cellB r.pieces ((k : Int) + 1) := ⟨_, rfl⟩
      have HL := Lib.hid (HLT.out k wr hlt HBW.out)
      have HBE := Lib.hid hb
      rw [← hb] at HL
      clear hb
      clear x3
      by_cases hc : b = c
      · have HE : Hid (guessCell r.pieces c = (k : Int) + 1) := Lib.hid (guessCell_yes (by have := HN.out; omega) (by rw [← hc, HBE.out]) hno.out)
        subst hc
        obtain ⟨x0, x1, x2, x3, x4, x5, x6, x7, x8, x9, x10⟩ := HX.out.below hbel.out (Nat.le_refl _)
        clear hno
        go_wp2_with fail
        go_at_call 43; refine HL.out.mono ?_; rintro e w3 ⟨rfl, hb3⟩
        have HB3 := Lib.hid (HBW.out.trans (hb3.mono HBW.out.size))
        clear hb3 x0 x1 x2 x3 x4 x5 x6 x7 x8 x9 x10
        go_wp2_with fail
        go_ret
        exact ⟨by rw [HE.out]; rfl, HB3.out⟩
      · have HNO : Hid (∀ j, j < k + 1 → cellB r.pieces ((j : Int) + 1) ≠ c) := Lib.hid (fun j hj => by
          rcases Nat.lt_or_eq_of_le (show j ≤ k by omega) with h | rfl
          · exact hno.out j h
          · rw [← HBE.out]; exact hc)
        have hne : ((b.toNat : Int) == (c.toNat : Int)) = false := by
          simp only [beq_eq_false_iff_ne, ne_eq, Int.natCast_inj]
          exact fun e => hc (UInt8.toNat_inj.1 e)
        obtain ⟨x0, x1, x2, x3, x4, x5, x6, x7, x8, x9, x10⟩ := HX.out.below hbel.out (Nat.le_refl _)
        clear hno hc
        go_wp2_with fail
        go_at_call 43; refine HL.out.mono ?_; rintro e w3 ⟨rfl, hb3⟩
        have HB3 := Lib.hid (hbel.out.trans (hb3.mono hbel.out.size))
        clear hb3 x0 x1 x2 x3 x4 x5 x6 x7 x8 x9 x10
        go_wp2_with fail
        go_roundw
        case rel => exact ⟨k + 1, by omega, by go_num, HNO, HB3⟩
        case measure => simp [intOf]; omega
    · obtain rfl : k = 2 * n := by omega
      have HE : Hid (guessCell r.pieces c = 0) := Lib.hid (guessCell_no (fun j hj => hno.out j (by have := HN.out; omega)))
      have hle : ¬ (((2 * n : Nat) : Int) + 1 ≤ 2 * (n : Int)) := by omega
      clear hno
      go_wp2_with fail
      go_ret
      exact ⟨by rw [HE.out]; rfl, HBW.out⟩
end Go.Proofs.YtakekeljndofcaaGreatDoor
