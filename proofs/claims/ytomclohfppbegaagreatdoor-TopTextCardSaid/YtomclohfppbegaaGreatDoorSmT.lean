/- ruletext's small functions: letters and words. -/
import Derived.Test.YtomclohfppbegaaGreatDoorLine
import Derived.Test.YtomclohfppbegaaGreatDoorConv
set_option maxRecDepth 100000
namespace Go.Proofs.YtomclohfppbegaaGreatDoor
open Go.ChangeShapes Go.WideShapes Go.ChangeAt Go.RowKit

/-- A block of words. -/
def WBlk (W : World) (g : Nat) (ws : List (List UInt8)) : Prop := W.heap[g]? = some (.cells (ws.map fun x => Value.string (str x)).toArray 9 (0, 0))
theorem WBlk.lt {W : World} {g : Nat} {ws : List (List UInt8)} (h : WBlk W g ws) : g < W.heap.size := (Array.getElem?_eq_some_iff.1 h).1
theorem WBlk.words {W : World} {g : Nat} {ws : List (List UInt8)} (h : WBlk W g ws) : Words W g ws := by
  intro j x hx
  rw [cell_of_row W g j _ _ (0, 0) h]
  simp [hx]
theorem wblk_new (W : World) (cs : Array Value) (ws : List (List UInt8)) (h : cs = (ws.map fun x => Value.string (str x)).toArray) : WBlk (W.alloc (.cells cs 9)) W.heap.size ws := by
  subst h; exact heap_alloc_new W _
set_option maxHeartbeats 1000000 in
theorem takeWords_any (w : World) : Calls Tryz.prog 52 #[] w fun e w' => ∃ g, e = .returned (.slice (some ⟨g, 0, none⟩) 3 3) ∧ WBlk w' g [[110, 101, 118, 101, 114], [109, 97, 121], [109, 117, 115, 116]] ∧ Below w.heap.size w w' := by
  go_enter Tryz.func52, Tryz.ntmps52
  go_wp2_with fail
  go_ret
  exact ⟨w.heap.size, rfl, wblk_new w _ _ rfl, (Below.refl _ _).alloc (Nat.le_refl _) _⟩
set_option maxHeartbeats 1000000 in
theorem letterT_any (x : PieceD) (v : Value) (h0 : 0 ≤ x.letter) (h1 : x.letter ≤ 255) (w : World) : Calls Tryz.prog 51 #[.agg #[.int .u8 x.letter, .int .i64 x.hand, .int .i64 x.promote, v]] w fun e w' => e = .returned (.string (str (lettB x))) ∧ Below w.heap.size w w' := by
  have hcv := @conv_one x.letter h0 h1
  go_enter Tryz.func51, Tryz.ntmps51
  go_wp2_with fail
  go_ret
  exact ⟨rfl, ((Below.refl _ _).alloc (Nat.le_refl _) _).alloc (by simp) _⟩
set_option maxHeartbeats 1000000 in
theorem howWords_any (w : World) : Calls Tryz.prog 54 #[] w fun e w' => ∃ g, e = .returned (.slice (some ⟨g, 0, none⟩) 2 2) ∧ WBlk w' g [[119, 105, 110, 115], [108, 111, 115, 101, 115]] ∧ Below w.heap.size w w' := by
  go_enter Tryz.func54, Tryz.ntmps54
  go_wp2_with fail
  go_ret
  exact ⟨w.heap.size, rfl, wblk_new w _ _ rfl, (Below.refl _ _).alloc (Nat.le_refl _) _⟩
set_option maxHeartbeats 1000000 in
theorem blockedWords_any (w : World) : Calls Tryz.prog 22 #[] w fun e w' => ∃ g, e = .returned (.slice (some ⟨g, 0, none⟩) 3 3) ∧ WBlk w' g [[108, 111, 115, 101, 115], [119, 105, 110, 115], [100, 114, 97, 119, 115]] ∧ Below w.heap.size w w' := by
  go_enter Tryz.func22, Tryz.ntmps22
  go_wp2_with fail
  go_ret
  exact ⟨w.heap.size, rfl, wblk_new w _ _ rfl, (Below.refl _ _).alloc (Nat.le_refl _) _⟩
set_option maxHeartbeats 1000000 in
theorem cellByte_any (ps : List PieceD) (vp : Value) (c : Int) (w : World) (hp : IsSl PieceAt 4 w vp ps) (h6 : ps.length ≤ 6) (h0 : 0 ≤ c) (h1 : c ≤ 2 * ps.length) (hcap : ∀ x ∈ ps, 65 ≤ x.letter ∧ x.letter ≤ 90) :
    Calls Tryz.prog 53 #[vp, .int .i64 c] w fun e w' => e = .returned (.int .u8 (cellB ps c).toNat) ∧ w' = w := by
  by_cases hc : c = 0
  · subst hc
    clear hcap hp h1
    go_enter Tryz.func53, Tryz.ntmps53
    go_wp2_with fail
    go_ret
    exact ⟨rfl, rfl⟩
  · obtain ⟨d, hd⟩ := Int.eq_ofNat_of_zero_le (show 0 ≤ c - 1 by omega)
    obtain rfl : c = (d : Int) + 1 := by omega
    obtain ⟨n, hn⟩ : ∃ n, n = ps.length := ⟨_, rfl⟩
    obtain ⟨ap, cp, rfl, hcp, hat⟩ := hp.shape hn
    obtain ⟨g, off, x, rfl, hx, vw, c0, _⟩ := hat (d / 2) (by omega)
    have hd12 : d < 2 * n := by omega
    have hn6 : n ≤ 6 := by omega
    obtain ⟨k0, k1⟩ := hcap x (List.mem_of_getElem? hx)
    have HX : Hid _ := Lib.hid hx
    clear hcap hp hat hx h0 h1 hc hd h6 hn
    go_enter Tryz.func53, Tryz.ntmps53
    go_wp2_with fail
    · rename_i hm
      go_ret
      refine ⟨?_, rfl⟩
      have e1 : cellB ps ((d : Int) + 1) = UInt8.ofNat x.letter.toNat := by
        have e2 : ((d : Int) + 1 - 1) / 2 = ((d / 2 : Nat) : Int) := by omega
        rw [cellB, if_neg (by omega), e2, Int.toNat_natCast, HX.out]
        simp only
        rw [if_pos (by have := beq_iff_eq.1 hm; omega)]
      have e3 : ((UInt8.ofNat x.letter.toNat).toNat : Int) = x.letter := by rw [UInt8.toNat_ofNat']; omega
      show Ending.returned (.int .u8 x.letter) = _
      rw [e1, e3]
    · rename_i hm
      go_ret
      refine ⟨?_, rfl⟩
      have e1 : cellB ps ((d : Int) + 1) = UInt8.ofNat (x.letter.toNat + 32) := by
        have e2 : ((d : Int) + 1 - 1) / 2 = ((d / 2 : Nat) : Int) := by omega
        rw [cellB, if_neg (by omega), e2, Int.toNat_natCast, HX.out]
        simp only
        rw [if_neg (by have := beq_eq_false_iff_ne.1 hm; omega)]
      have e3 : ((UInt8.ofNat (x.letter.toNat + 32)).toNat : Int) = x.letter + 32 := by rw [UInt8.toNat_ofNat']; omega
      show Ending.returned (.int .u8 (x.letter + 32)) = _
      rw [e1, e3]
end Go.Proofs.YtomclohfppbegaaGreatDoor
