/- Keys as data: the number that stands for a number, the key of a position as a sum of words of 64 bits; and the walks of zob.Mix and of the reference's Mixed. -/
import Derived.Test.YtiligppdfldlfaaGreatDoorRows
import Derived.Test.YtiligppdfldlfaaGreatDoorWords
import Derived.WalkKit
import Derived.ProofKit
import Derived.Lib.Hide
import Derived.Laws.Bits64
set_option maxRecDepth 100000
namespace Go.Proofs.YtiligppdfldlfaaGreatDoor
open Go.ChangeShapes Go.WideShapes Go.ChangeAt Go.RowKit

theorem retW {a b : Int} (h : a = b) : Ending.returned (.int .u64 a) = .returned (.int .u64 b) := by rw [h]
theorem b_xor (a b : BitVec 64) : bits .xor .u64 (a.toNat : Int) (b.toNat : Int) = ((a ^^^ b).toNat : Int) :=
  (u64_xor_nat _ _ (by simpa using a.isLt) (by simpa using b.isLt)).trans (by rw [BitVec.toNat_xor])
theorem b_mul (a b : BitVec 64) : IntKind.u64.wrap ((a.toNat : Int) * (b.toNat : Int)) = ((a * b).toNat : Int) := by
  have e : (a.toNat : Int) * (b.toNat : Int) = ((a.toNat * b.toNat : Nat) : Int) := by norm_cast
  rw [wrap_u64_mod, BitVec.toNat_mul, e]; omega
theorem b_of (x : Int) : IntKind.u64.wrap x = ((BitVec.ofInt 64 x).toNat : Int) := by
  rw [wrap_u64_mod, BitVec.toNat_ofInt]; omega
def kA : BitVec 64 := 0x9E3779B97F4A7C15#64
def kB : BitVec 64 := 0xBF58476D1CE4E5B9#64
def kC : BitVec 64 := 0x94D049BB133111EB#64
def foldV (z : BitVec 64) (k : Nat) (m : BitVec 64) : BitVec 64 := (z ^^^ (z >>> k)) * m
/-- The number that stands for a number. -/
def mixZ (x : Int) : BitVec 64 :=
  let z := foldV (foldV ((BitVec.ofInt 64 x + 1#64) * kA) 30 kB) 27 kC
  z ^^^ (z >>> 31)
theorem fold_int (z : BitVec 64) (k : Nat) (m : BitVec 64) : IntKind.u64.wrap (bits .xor .u64 (z.toNat : Int) ((z.toNat : Int) / 2 ^ k) * (m.toNat : Int)) = ((foldV z k m).toNat : Int) := by
  rw [b_shr, b_xor, b_mul, foldV]
theorem last_int (z : BitVec 64) (k : Nat) : bits .xor .u64 (z.toNat : Int) ((z.toNat : Int) / 2 ^ k) = ((z ^^^ (z >>> k)).toNat : Int) := by
  rw [b_shr, b_xor]
theorem mix_any (x : Int) (w : World) :
    Calls Tryz.prog 40 #[.int .i64 x] w fun e w' => e = .returned (.int .u64 ((mixZ x).toNat : Int)) ∧ w' = w := by
  obtain ⟨b, hb⟩ : ∃ b, b = BitVec.ofInt 64 x := ⟨_, rfl⟩
  obtain ⟨c, hc⟩ : ∃ c, c = (b + 1#64) * kA := ⟨_, rfl⟩
  obtain ⟨d, hd⟩ : ∃ d, d = foldV c 30 kB := ⟨_, rfl⟩
  obtain ⟨f, hf⟩ : ∃ f, f = foldV d 27 kC := ⟨_, rfl⟩
  have K : Hid (((f ^^^ (f >>> 31)).toNat : Int) = ((mixZ x).toNat : Int)) := Lib.hid (by rw [hf, hd, hc, hb]; rfl)
  have e0 : IntKind.u64.wrap x = (b.toNat : Int) := by rw [hb, b_of]
  have e1 : IntKind.u64.wrap (IntKind.u64.wrap ((b.toNat : Int) + 1) * 11400714819323198485) = (c.toNat : Int) := by
    have h1 := b_add b 1#64
    have h2 := b_mul (b + 1#64) kA
    rw [show ((1#64).toNat : Int) = 1 from rfl] at h1
    rw [show (kA.toNat : Int) = 11400714819323198485 from rfl] at h2
    rw [h1, h2, hc]
  have e2 : IntKind.u64.wrap (bits .xor .u64 (c.toNat : Int) ((c.toNat : Int) / 1073741824) * 13787848793156543929) = (d.toNat : Int) := by
    have h := fold_int c 30 kB
    rw [show (kB.toNat : Int) = 13787848793156543929 from rfl] at h
    rw [hd]; exact h
  have e3 : IntKind.u64.wrap (bits .xor .u64 (d.toNat : Int) ((d.toNat : Int) / 134217728) * 10723151780598845931) = (f.toNat : Int) := by
    have h := fold_int d 27 kC
    rw [show (kC.toNat : Int) = 10723151780598845931 from rfl] at h
    rw [hf]; exact h
  have e4 : bits .xor .u64 (f.toNat : Int) ((f.toNat : Int) / 2147483648) = ((f ^^^ (f >>> 31)).toNat : Int) := last_int f 31
  clear hb hc hd hf
  go_enter Tryz.func40, Tryz.ntmps40
  go_wp2_with fail
  go_ret
  exact ⟨retW K.out, rfl⟩
end Go.Proofs.YtiligppdfldlfaaGreatDoor
