/- The conversion of a slice of one byte to a string. -/
import Derived.Test.YtomclohfppbegaaGreatDoorTxtA
import Derived.Laws.IdiomStrings
set_option maxRecDepth 100000
namespace Go.Proofs.YtomclohfppbegaaGreatDoor
open Go.ChangeShapes Go.WideShapes Go.ChangeAt Go.RowKit

/-- The string of one byte, out of a slice's only cell. -/
theorem conv_one {z : Int} (h0 : 0 ≤ z) (h1 : z ≤ 255) (g : Nat) (W : World) (hc : W.cell? ⟨g, 0, none⟩ = some (.int .u8 z)) :
    (convert 54 9 (.slice (some ⟨g, 0, none⟩) 1 1)).run Tryz.prog W = .ok (.string (str [UInt8.ofNat z.toNat])) W := by
  refine run_convert_bytes_back (P := Tryz.prog) W 54 9 5 ⟨g, 0, none⟩ 1 [UInt8.ofNat z.toNat] Tryz.underlying54 Tryz.underlying5 Tryz.underlying9 (fun j hj => ?_)
  obtain rfl : j = 0 := by simpa using hj
  rw [show (⟨g, 0, none⟩ : Addr).add 0 = ⟨g, 0, none⟩ from rfl, hc]
  have e3 : ((UInt8.ofNat z.toNat).toNat : Int) = z := by rw [UInt8.toNat_ofNat']; omega
  simp; omega
end Go.Proofs.YtomclohfppbegaaGreatDoor
