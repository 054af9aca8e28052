/- From what the row lists of the program's table of directions to the table's cells. -/
import Derived.Test.YtdhhdkbnlddnbaaGreatDoorRows
import Derived.Test.YtdhhdkbnlddnbaaGreatDoorEndA
import Derived.OpenShut
import Derived.LaidMore
import Derived.Lib.LaidTab
set_option maxRecDepth 100000
namespace Go.Proofs.YtdhhdkbnlddnbaaGreatDoor
open Go.ChangeShapes Go.WideShapes Go.ChangeAt Go.RowKit

def dirName : String := Rows.perftPartsRow.named.getLastD Rows.perftPartsRow.func
theorem gDir : Tryz.prog.globalNamed dirName = some 0 := by kernel_rfl
theorem gDirType : (Tryz.prog.globals[0]?).map (·.type) = some 165 := by kernel_rfl
def dirRows : List (List Int) := [[1, 0], [0, 1], [1, 1], [1, -1]]
theorem dir_of {W : World} (h : laidMet Tryz.prog ((dirName, Rows.laid_gamehall_ends_directions) :: []) W) : Dir W := by
  obtain ⟨ps, ⟨g', t', cs0, fuel, p, q, hg', ht', hvar, hd, _, _⟩, _⟩ := h
  obtain rfl := Option.some.inj (gDir.symm.trans hg')
  obtain rfl := Option.some.inj (gDirType.symm.trans ht')
  obtain ⟨xs, m, rfl, hx, hl, hxl, ha⟩ := DataW.trod_array Tryz.underlying165 hd
  obtain ⟨cs⟩ := cs0
  have hx1 : xs.map (·.1) = dirRows.map fun l => (Lib.tabData .i64 l : DataW Unit) := by
    have h1 := congrArg Prod.fst hx
    simp only [Rows.laid_gamehall_ends_directions, DataW.agg.injEq] at h1
    rw [← h1]; rfl
  have hce : Tryz.prog.cellsOf 164 = 2 := by kernel_rfl
  have hrow : ∀ (i : Nat) (l : List Int), dirRows[i]? = some l → (cs.drop (i * 2)).take 2 = l.map fun z => Value.int .i64 z := by
    intro i l hi
    have hi4 : i < 4 := (List.getElem?_eq_some_iff.1 hi).1
    have h1 := ha i hi4
    rw [hce] at h1
    have h2 : (xs.map (·.1))[i]? = some (Lib.tabData .i64 l) := by rw [hx1, List.getElem?_map, hi]; rfl
    rw [List.getElem?_map] at h2
    obtain ⟨⟨b, pb⟩, hb, hb2⟩ := Option.map_eq_some_iff.1 h2
    dsimp only at hb2
    subst hb2
    rw [hb] at h1
    exact Lib.cells_of_tab Tryz.underlying164 Tryz.underlying3 (by kernel_rfl) hce h1
  intro j z hz
  have hc : W.cell? ⟨0, j, none⟩ = cs[j]? := by
    have := World.var?_cell gDir hvar j
    rw [this]; simp
  rw [hc]
  have hget : ∀ (i k : Nat) (l : List Int) (u : Int), dirRows[i]? = some l → k < 2 → l[k]? = some u → cs[i * 2 + k]? = some (.int .i64 u) := by
    intro i k l u hi hk hu
    have h1 := congrArg (·[k]?) (hrow i l hi)
    simp only [List.getElem?_take, if_pos hk, List.getElem?_drop, List.getElem?_map, hu, Option.map_some] at h1
    exact h1
  have hj : j < 8 := (List.getElem?_eq_some_iff.1 hz).1
  match j, hj, hz with
  | 0, _, hz => exact hget 0 0 _ z rfl (by decide) hz
  | 1, _, hz => exact hget 0 1 _ z rfl (by decide) hz
  | 2, _, hz => exact hget 1 0 _ z rfl (by decide) hz
  | 3, _, hz => exact hget 1 1 _ z rfl (by decide) hz
  | 4, _, hz => exact hget 2 0 _ z rfl (by decide) hz
  | 5, _, hz => exact hget 2 1 _ z rfl (by decide) hz
  | 6, _, hz => exact hget 3 0 _ z rfl (by decide) hz
  | 7, _, hz => exact hget 3 1 _ z rfl (by decide) hz
end Go.Proofs.YtdhhdkbnlddnbaaGreatDoor
