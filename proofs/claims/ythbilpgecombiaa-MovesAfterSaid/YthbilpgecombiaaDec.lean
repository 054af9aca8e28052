/- The reference's Dec: a number's decimal text. -/
import Derived.Test.YthbilpgecombiaaTxt
set_option maxRecDepth 100000
namespace Go.Proofs.Ythbilpgecombiaa
open Go.ChangeShapes Go.WideShapes Go.ChangeAt Go.RowKit

/-- A list of bytes as a string. -/
def str (l : List UInt8) : ByteArray := ⟨l.toArray⟩
theorem str_app (a b : List UInt8) : str a ++ str b = str (a ++ b) := by
  apply ByteArray.ext
  simp [str]
theorem str_size (a : List UInt8) : (str a).size = a.length := by simp [str, ByteArray.size]
def numS (n : Int) : ByteArray := str (num n)
theorem numS_size {n : Int} (h : -7 ≤ n) (h2 : n ≤ 200) : (numS n).size ≤ 3 := by rw [numS, str_size]; exact num_len h h2
end Go.Proofs.Ythbilpgecombiaa
