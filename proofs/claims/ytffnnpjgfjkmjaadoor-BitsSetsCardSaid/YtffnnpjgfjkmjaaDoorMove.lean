/- What bits.Shift, bits.Count, bits.Ray and the small functions beside them return: their walks, one contract each. -/
import Derived.Test.YtffnnpjgfjkmjaaDoorRows
import Derived.Test.YtffnnpjgfjkmjaaDoorPop
import Derived.WalkKit
import Derived.ProofKit
import Derived.Lib.Hide
namespace Go.Proofs.YtffnnpjgfjkmjaaDoor
open Go.ChangeShapes Go.WideShapes Go.ChangeAt Go.RowKit

theorem ret_u64 {a b : Int} (h : a = b) : Ending.returned (.int .u64 a) = .returned (.int .u64 b) := by rw [h]
theorem ret_i64 {a b : Int} (h : a = b) : Ending.returned (.int .i64 a) = .returned (.int .i64 b) := by rw [h]
theorem ret_bool {a b : Bool} (h : a = b) : Ending.returned (.bool a) = .returned (.bool b) := by rw [h]

theorem cols_any (b : BitVec 64) (dx : Int) (w : World) (h0 : -8 < dx) (h1 : dx < 8) :
    Calls Tryd.prog 28 #[.int .u64 (b.toNat : Int), .int .i64 dx] w fun e w' => e = .returned (.int .u64 ((colsV b dx).toNat : Int)) ∧ w' = w := by
  by_cases hn : dx < 0
  · have hm := maskN_int ⟨(-dx).toNat, by omega⟩
    simp only at hm
    have e : ((b.toNat : Int) = b.toNat) := rfl
    have key : bits BinOp.and IntKind.u64 (b.toNat : Int) (IntKind.u64.wrap (72340172838076673 * bits BinOp.and IntKind.u64 (IntKind.u64.wrap (255 * 2 ^ (-dx).toNat)) 255)) / 2 ^ (-dx).toNat = ((colsV b dx).toNat : Int) := by
      rw [hm, b_and, b_shr, colsV, if_pos hn]
    have K : Hid _ := Lib.hid key
    clear hm key e
    go_enter Tryd.func28, Tryd.ntmps28
    go_wp2
    go_ret
    exact ⟨ret_u64 K.out, rfl⟩
  · have hm := maskP_int ⟨dx.toNat, by omega⟩
    simp only at hm
    have key : IntKind.u64.wrap (bits BinOp.and IntKind.u64 (b.toNat : Int) (IntKind.u64.wrap (72340172838076673 * (255 / 2 ^ dx.toNat))) * 2 ^ dx.toNat) = ((colsV b dx).toNat : Int) := by
      rw [hm, b_and, b_shl, colsV, if_neg hn]
    have K : Hid _ := Lib.hid key
    clear hm key
    have hp : 0 ≤ dx := by omega
    clear hn
    go_enter Tryd.func28, Tryd.ntmps28
    go_wp2
    go_ret
    exact ⟨ret_u64 K.out, rfl⟩
theorem rows_any (b : BitVec 64) (dy : Int) (w : World) (h0 : -8 < dy) (h1 : dy < 8) :
    Calls Tryd.prog 27 #[.int .u64 (b.toNat : Int), .int .i64 dy] w fun e w' => e = .returned (.int .u64 ((rowsV b dy).toNat : Int)) ∧ w' = w := by
  by_cases hn : dy < 0
  · have key : (b.toNat : Int) / 2 ^ (8 * -dy).toNat = ((rowsV b dy).toNat : Int) := by rw [b_shr, rowsV, if_pos hn]
    have K : Hid _ := Lib.hid key
    clear key
    go_enter Tryd.func27, Tryd.ntmps27
    go_wp2
    go_ret
    exact ⟨ret_u64 K.out, rfl⟩
  · have key : IntKind.u64.wrap ((b.toNat : Int) * 2 ^ (8 * dy).toNat) = ((rowsV b dy).toNat : Int) := by rw [b_shl, rowsV, if_neg hn]
    have K : Hid _ := Lib.hid key
    clear key
    have hp : 0 ≤ dy := by omega
    clear hn
    go_enter Tryd.func27, Tryd.ntmps27
    go_wp2
    go_ret
    exact ⟨ret_u64 K.out, rfl⟩
theorem shift_near (b : BitVec 64) (dx dy : Int) (w : World) (h0 : -8 < dx) (h1 : dx < 8) (h2 : -8 < dy) (h3 : dy < 8) :
    Calls Tryd.prog 15 #[.int .u64 (b.toNat : Int), .int .i64 dx, .int .i64 dy] w fun e w' => e = .returned (.int .u64 ((shiftV b dx dy).toNat : Int)) ∧ w' = w := by
  have K : Hid (rowsV (colsV b dx) dy = shiftV b dx dy) := Lib.hid (by rw [shiftV, if_neg (by omega)])
  go_enter Tryd.func15, Tryd.ntmps15
  go_wp2_with (first
    | (go_at_call 28; refine (cols_any b dx _ (by omega) (by omega)).mono ?_; rintro e w' ⟨rfl, rfl⟩)
    | (go_at_call 27; refine (rows_any (colsV b dx) dy _ (by omega) (by omega)).mono ?_; rintro e w' ⟨rfl, rfl⟩))
  go_ret
  exact ⟨ret_u64 (by rw [K.out]), rfl⟩
theorem shift_far (b : BitVec 64) (dx dy : Int) (w : World) (h : dx ≤ -8 ∨ 8 ≤ dx ∨ dy ≤ -8 ∨ 8 ≤ dy) :
    Calls Tryd.prog 15 #[.int .u64 (b.toNat : Int), .int .i64 dx, .int .i64 dy] w fun e w' => e = .returned (.int .u64 ((shiftV b dx dy).toNat : Int)) ∧ w' = w := by
  have K : Hid ((0 : Int) = ((shiftV b dx dy).toNat : Int)) := Lib.hid (by rw [shiftV, if_pos h]; rfl)
  by_cases h0 : dx ≤ -8
  · clear h
    go_enter Tryd.func15, Tryd.ntmps15
    go_wp2
    go_ret
    exact ⟨ret_u64 K.out, rfl⟩
  · by_cases h1 : 8 ≤ dx
    · clear h
      go_enter Tryd.func15, Tryd.ntmps15
      go_wp2
      go_ret
      exact ⟨ret_u64 K.out, rfl⟩
    · by_cases h2 : dy ≤ -8
      · clear h
        go_enter Tryd.func15, Tryd.ntmps15
        go_wp2
        go_ret
        exact ⟨ret_u64 K.out, rfl⟩
      · have h3 : 8 ≤ dy := by omega
        clear h
        go_enter Tryd.func15, Tryd.ntmps15
        go_wp2
        go_ret
        exact ⟨ret_u64 K.out, rfl⟩
theorem shift_any (b : BitVec 64) (dx dy : Int) (w : World) :
    Calls Tryd.prog 15 #[.int .u64 (b.toNat : Int), .int .i64 dx, .int .i64 dy] w fun e w' => e = .returned (.int .u64 ((shiftV b dx dy).toNat : Int)) ∧ w' = w := by
  by_cases h : dx ≤ -8 ∨ 8 ≤ dx ∨ dy ≤ -8 ∨ 8 ≤ dy
  · exact shift_far b dx dy w h
  · exact shift_near b dx dy w (by omega) (by omega) (by omega) (by omega)

def oA (x : Int) : Int := IntKind.u64.wrap (bits BinOp.and IntKind.u64 (x / 2) 6148914691236517205 + bits BinOp.and IntKind.u64 x 6148914691236517205)
def oB (x : Int) : Int := IntKind.u64.wrap (bits BinOp.and IntKind.u64 (x / 4) 3689348814741910323 + bits BinOp.and IntKind.u64 x 3689348814741910323)
def oC (x : Int) : Int := bits BinOp.and IntKind.u64 (IntKind.u64.wrap (x / 16 + x)) 1085102592571150095
def oD (x : Int) : Int := IntKind.u64.wrap (x + x / 256)
def oE (x : Int) : Int := IntKind.u64.wrap (x + x / 65536)
def oF (x : Int) : Int := IntKind.u64.wrap (x + x / 4294967296)
theorem oA_eq (b : BitVec 64) : oA (b.toNat : Int) = ((popA b).toNat : Int) := by
  have h := b_shr b 1
  have h1 := b_and (b >>> 1) m1
  have h2 := b_and b m1
  unfold oA popA
  rw [← b_add, ← h1, ← h2, ← h]; rfl
theorem oB_eq (b : BitVec 64) : oB (b.toNat : Int) = ((popB b).toNat : Int) := by
  have h := b_shr b 2
  have h1 := b_and (b >>> 2) m2
  have h2 := b_and b m2
  unfold oB popB
  rw [← b_add, ← h1, ← h2, ← h]; rfl
theorem oC_eq (b : BitVec 64) : oC (b.toNat : Int) = ((popC b).toNat : Int) := by
  have h := b_shr b 4
  unfold oC popC
  rw [← b_and, ← b_add, ← h]; rfl
theorem oD_eq (b : BitVec 64) : oD (b.toNat : Int) = ((popD b).toNat : Int) := by
  have h := b_shr b 8
  unfold oD popD
  rw [← b_add, ← h]; rfl
theorem oE_eq (b : BitVec 64) : oE (b.toNat : Int) = ((popE b).toNat : Int) := by
  have h := b_shr b 16
  unfold oE popE
  rw [← b_add, ← h]; rfl
theorem oF_eq (b : BitVec 64) : oF (b.toNat : Int) = ((popF b).toNat : Int) := by
  have h := b_shr b 32
  unfold oF popF
  rw [← b_add, ← h]; rfl
theorem wrap64_i64 (n : Int) : wrap64 n = IntKind.i64.wrap n := by
  unfold wrap64; simp [IntKind.wrap, IntKind.bits, IntKind.signed]; split <;> omega
theorem last7 (b : BitVec 64) : bits BinOp.and IntKind.i64 (IntKind.i64.wrap (b.toNat : Int)) 127 = ((b.toNat % 128 : Nat) : Int) := by
  have e : BitVec.ofInt 64 (IntKind.i64.wrap (b.toNat : Int)) = b := by
    apply BitVec.eq_of_toNat_eq
    have := b.isLt
    simp [IntKind.wrap, IntKind.bits, IntKind.signed, BitVec.toNat_ofInt]
    omega
  have hm : (b &&& 127#64).toNat = b.toNat % 128 := by
    rw [BitVec.toNat_and, show (127#64).toNat = 2 ^ 7 - 1 from rfl, Nat.and_two_pow_sub_one_eq_mod]
  show IntKind.i64.wrap (((BitVec.ofInt 64 (IntKind.i64.wrap (b.toNat : Int))) &&& 127#64).toNat : Int) = _
  rw [e, hm]
  simp [IntKind.wrap, IntKind.bits, IntKind.signed]
  omega
theorem ones_eq (b : BitVec 64) : bits BinOp.and IntKind.i64 (wrap64 (oF (oE (oD (oC (oB (oA (b.toNat : Int)))))))) 127 = (cnt b : Int) := by
  rw [wrap64_i64, oA_eq, oB_eq, oC_eq, oD_eq, oE_eq, oF_eq, last7, popF_nat]
theorem ones_any (b : BitVec 64) (w : World) :
    Calls Tryd.prog 19 #[.int .u64 (b.toNat : Int)] w fun e w' => e = .returned (.int .i64 (cnt b : Int)) ∧ w' = w := by
  have K : Hid _ := Lib.hid (ones_eq b)
  go_enter Tryd.func19, Tryd.ntmps19
  go_wp2
  go_ret
  exact ⟨ret_i64 K.out, rfl⟩
theorem count_any (b : BitVec 64) (w : World) :
    Calls Tryd.prog 6 #[.int .u64 (b.toNat : Int)] w fun e w' => e = .returned (.int .i64 (cnt b : Int)) ∧ w' = w := by
  go_enter Tryd.func6, Tryd.ntmps6
  go_wp2_with (go_at_call 19; refine (ones_any b _).mono ?_; rintro e w' ⟨rfl, rfl⟩)
  go_ret
  exact ⟨rfl, rfl⟩
theorem in_any (x lo hi : Int) (w : World) :
    Calls Tryd.prog 18 #[.int .i64 x, .int .i64 lo, .int .i64 hi] w fun e w' => e = .returned (.bool (decide (lo ≤ x) && decide (x ≤ hi))) ∧ w' = w := by
  by_cases h : lo ≤ x
  · go_enter Tryd.func18, Tryd.ntmps18
    go_wp2
    go_ret
    exact ⟨ret_bool (by simp [h]), rfl⟩
  · have K : Hid (false = (decide (lo ≤ x) && decide (x ≤ hi))) := Lib.hid (by simp [h])
    go_enter Tryd.func18, Tryd.ntmps18
    go_wp2
    go_ret
    exact ⟨ret_bool K.out, rfl⟩
theorem isSquare_any (x : Int) (w : World) :
    Calls Tryd.prog 20 #[.int .i64 x] w fun e w' => e = .returned (.bool (decide (0 ≤ x) && decide (x < 64))) ∧ w' = w := by
  by_cases h : 0 ≤ x
  · go_enter Tryd.func20, Tryd.ntmps20
    go_wp2
    go_ret
    exact ⟨ret_bool (by simp [h]), rfl⟩
  · have K : Hid (false = (decide (0 ≤ x) && decide (x < 64))) := Lib.hid (by simp [h])
    go_enter Tryd.func20, Tryd.ntmps20
    go_wp2
    go_ret
    exact ⟨ret_bool K.out, rfl⟩
theorem isStep_any (x : Int) (w : World) :
    Calls Tryd.prog 29 #[.int .i64 x] w fun e w' => e = .returned (.bool (decide (-1 ≤ x) && decide (x ≤ 1))) ∧ w' = w := by
  by_cases h : -1 ≤ x
  · go_enter Tryd.func29, Tryd.ntmps29
    go_wp2
    go_ret
    exact ⟨ret_bool (by simp [h]), rfl⟩
  · have K : Hid (false = (decide (-1 ≤ x) && decide (x ≤ 1))) := Lib.hid (by simp [h])
    go_enter Tryd.func29, Tryd.ntmps29
    go_wp2
    go_ret
    exact ⟨ret_bool K.out, rfl⟩
/-- The set of one square. (A name of its own: the walk would write the shift out.) -/
def bitW (s : Nat) : BitVec 64 := 1#64 <<< s
theorem bitW_int (s : Nat) : IntKind.u64.wrap (2 ^ s) = ((bitW s).toNat : Int) := by
  have := b_shl 1#64 s; simpa [bitW] using this
theorem single_any (s : Nat) (w : World) (hs : s < 64) :
    Calls Tryd.prog 21 #[.int .i64 (s : Int)] w fun e w' => e = .returned (.int .u64 ((bitW s).toNat : Int)) ∧ w' = w := by
  have K : Hid (IntKind.u64.wrap (2 ^ s) = ((bitW s).toNat : Int)) := Lib.hid (bitW_int s)
  go_enter Tryd.func21, Tryd.ntmps21
  go_wp2
  go_ret
  exact ⟨ret_u64 K.out, rfl⟩
end Go.Proofs.YtffnnpjgfjkmjaaDoor
