/- The positions of three in a row with which the statements about results begin. -/
import Derived.Test.YtkficjpnflnjhaaGreatDoorEndA
import Derived.Test.YtkficjpnflnjhaaGreatDoorPlayD
import Derived.Test.YtkficjpnflnjhaaGreatDoorWonL
import Derived.Test.YtkficjpnflnjhaaGreatDoorPlcA
set_option maxRecDepth 100000
namespace Go.Proofs.YtkficjpnflnjhaaGreatDoor
open Go.ChangeShapes Go.WideShapes Go.ChangeAt Go.RowKit

/-- near, with a third piece in the row. -/
def won9 : PlaceD := ⟨[1, 1, 1, 2, 2, 0, 0, 0, 0], [3], [3], 1, 0⟩
theorem won9_ok : POkay three9 won9 := placeE_iff.1 (by decide +kernel)
theorem won9_res : resultD three9 won9 = 1 := by decide +kernel
theorem wonL_res : resultD three9 wonL = 1 := by decide +kernel
theorem near_res : resultD three9 nearD = 0 := by decide +kernel
theorem of_won9 (vp vs ve vc v0 v1 : Value) (w : World) (hr : RulesIn w three9 vp vs ve) (hp : PlaceIn w won9 vc v0 v1) (hT : Dir w) : Calls Tryz.prog 20 #[RulesV three9 vp vs ve, PlaceV won9 vc v0 v1] w (OfPost 1 0 w) := by
  have h := of_ok three9 won9 vp vs ve vc v0 v1 w hr hp won9_ok hT
  rwa [won9_res] at h
theorem of_wonL (vp vs ve vc v0 v1 : Value) (w : World) (hr : RulesIn w three9 vp vs ve) (hp : PlaceIn w wonL vc v0 v1) (hT : Dir w) : Calls Tryz.prog 20 #[RulesV three9 vp vs ve, PlaceV wonL vc v0 v1] w (OfPost 1 0 w) := by
  have h := of_ok three9 wonL vp vs ve vc v0 v1 w hr hp wonL_ok hT
  rwa [wonL_res] at h
theorem of_near (vp vs ve vc v0 v1 : Value) (w : World) (hr : RulesIn w three9 vp vs ve) (hp : PlaceIn w nearD vc v0 v1) (hT : Dir w) : Calls Tryz.prog 20 #[RulesV three9 vp vs ve, PlaceV nearD vc v0 v1] w (OfPost 0 0 w) := by
  have h := of_ok three9 nearD vp vs ve vc v0 v1 w hr hp near_ok hT
  rwa [near_res] at h
theorem isSl_block {W : World} {g n : Nat} {xs : List Int} {t : TypeId} (h : W.heap[g]? = some (.cells (xs.map (Value.int .i64)).toArray t (0, 0))) (hn : n = xs.length) (h1 : 1 ≤ n) (h2 : n ≤ 1000) : IsSl IntAt 1 W (.slice (some ⟨g, 0, none⟩) n n) xs := by
  subst hn
  refine .inr ⟨g, 0, xs.length, rfl, fun e => by rw [e] at h1; simp at h1, Nat.le_refl _, by unfold maxLen; omega, fun i x hx => ?_⟩
  rw [IntAt, cell_of_row W g _ _ t (0, 0) h, Nat.mul_one, Nat.zero_add, List.getElem?_toArray, List.getElem?_map, hx]; rfl
/-- Where the position near lies, and that it may be written. -/
structure Own3 (w w' : World) (g a b : Nat) : Prop where
  bel : Below w.heap.size w w'
  lg : w.heap.size ≤ g
  hg : w'.heap[g]? = some (.cells #[.int .i64 1, .int .i64 1, .int .i64 0, .int .i64 2, .int .i64 2, .int .i64 0, .int .i64 0, .int .i64 0, .int .i64 0] 3 (0, 0))
  ha : w'.heap[a]? = some (.cells #[.int .i64 3] 3 (0, 0))
  hb : w'.heap[b]? = some (.cells #[.int .i64 3] 3 (0, 0))
  ga : a ≠ g
  gb : b ≠ g
def NearOwn (w : World) (e : Ending) (w' : World) : Prop := ∃ g a b, e = .returned (.agg #[.slice (some ⟨g, 0, none⟩) 9 9, .slice (some ⟨a, 0, none⟩) 1 1, .slice (some ⟨b, 0, none⟩) 1 1, .int .i64 0, .int .i64 0]) ∧ Own3 w w' g a b
set_option maxHeartbeats 2000000 in
theorem near_own (w : World) : Calls Tryz.prog 19 #[] w (NearOwn w) := by
  go_enter Tryz.func19, Tryz.ntmps19
  go_wp2_with fail
  refine bodyPost_ret (v := PlaceV nearD (.slice (some ⟨w.heap.size + 1, 0, none⟩) 9 9) (.slice (some ⟨w.heap.size + 1 + 1, 0, none⟩) 1 1) (.slice (some ⟨w.heap.size + 1 + 1 + 1, 0, none⟩) 1 1)) (by simp [results, Tryz.results19, go_sem, PlaceV, PlaceCells, nearD]) rfl ⟨_, _, _, rfl, ?_⟩
  generalize hW0 : w.alloc (.cells #[.slice (some ⟨w.heap.size + 1, 0, none⟩) 9 9, .slice (some ⟨w.heap.size + 1 + 1, 0, none⟩) 1 1, .slice (some ⟨w.heap.size + 1 + 1 + 1, 0, none⟩) 1 1, .int .i64 0, .int .i64 0] 38) = W0
  have h0 : Below w.heap.size w W0 := by rw [← hW0]; exact (Below.refl _ _).alloc (Nat.le_refl _) _
  have s0 : W0.heap.size = w.heap.size + 1 := by rw [← hW0]; simp
  generalize hW1 : W0.alloc (.cells #[.int .i64 1, .int .i64 1, .int .i64 0, .int .i64 2, .int .i64 2, .int .i64 0, .int .i64 0, .int .i64 0, .int .i64 0] 3) = W1
  have k1 : W1.heap[w.heap.size + 1]? = some (.cells #[.int .i64 1, .int .i64 1, .int .i64 0, .int .i64 2, .int .i64 2, .int .i64 0, .int .i64 0, .int .i64 0, .int .i64 0] 3 (0, 0)) := by rw [← hW1, ← s0]; exact heap_alloc_new W0 _
  have h1 : Below W0.heap.size W0 W1 := by rw [← hW1]; exact (Below.refl _ _).alloc (Nat.le_refl _) _
  have s1 : W1.heap.size = w.heap.size + 1 + 1 := by rw [← hW1, World.size_alloc, s0]
  generalize hW2 : W1.alloc (.cells #[.int .i64 3] 3) = W2
  have k2 : W2.heap[w.heap.size + 1 + 1]? = some (.cells #[.int .i64 3] 3 (0, 0)) := by rw [← hW2, ← s1]; exact heap_alloc_new W1 _
  have h2 : Below W1.heap.size W1 W2 := by rw [← hW2]; exact (Below.refl _ _).alloc (Nat.le_refl _) _
  have s2 : W2.heap.size = w.heap.size + 1 + 1 + 1 := by rw [← hW2, World.size_alloc, s1]
  have k3 : (W2.alloc (.cells #[.int .i64 3] 3)).heap[w.heap.size + 1 + 1 + 1]? = some (.cells #[.int .i64 3] 3 (0, 0)) := by rw [← s2]; exact heap_alloc_new W2 _
  have h3 : Below W2.heap.size W2 (W2.alloc (.cells #[.int .i64 3] 3)) := (Below.refl _ _).alloc (Nat.le_refl _) _
  refine ⟨?_, by omega, ?_, ?_, k3, by omega, by omega⟩
  · exact h0.trans ((h1.trans ((h2.trans (h3.mono h2.size)).mono h1.size)).mono h0.size)
  · rw [h3.block _ (by omega), h2.block _ (by omega)]; exact k1
  · rw [h3.block _ (by omega)]; exact k2
/-- The position that the third piece makes. -/
theorem won_made {w w' : World} {g a b : Nat} (h : Own3 w w' g a b) {U : World} (hU : U = ((w'.alloc (.cells #[.slice (some ⟨g, 0, none⟩) 9 9, .slice (some ⟨a, 0, none⟩) 1 1, .slice (some ⟨b, 0, none⟩) 1 1, .int .i64 0, .int .i64 0] 38)).setCell ⟨g, 2, none⟩ (.int .i64 1)).setCell ⟨w'.heap.size, 3, none⟩ (.int .i64 1)) :
    Below w.heap.size w U ∧ BoxP U w'.heap.size won9 (.slice (some ⟨g, 0, none⟩) 9 9) (.slice (some ⟨a, 0, none⟩) 1 1) (.slice (some ⟨b, 0, none⟩) 1 1) ∧ PlaceIn U won9 (.slice (some ⟨g, 0, none⟩) 9 9) (.slice (some ⟨a, 0, none⟩) 1 1) (.slice (some ⟨b, 0, none⟩) 1 1) := by
  obtain ⟨bel, lg, hg, ha, hb, ga, gb⟩ := h
  have lg' : g < w'.heap.size := (Array.getElem?_eq_some_iff.1 hg).1
  have la' : a < w'.heap.size := (Array.getElem?_eq_some_iff.1 ha).1
  have lb' : b < w'.heap.size := (Array.getElem?_eq_some_iff.1 hb).1
  have hal := (Below.refl w'.heap.size w').alloc (Nat.le_refl _) (.cells #[.slice (some ⟨g, 0, none⟩) 9 9, .slice (some ⟨a, 0, none⟩) 1 1, .slice (some ⟨b, 0, none⟩) 1 1, .int .i64 0, .int .i64 0] 38)
  have hq := heap_alloc_new w' (.cells #[.slice (some ⟨g, 0, none⟩) 9 9, .slice (some ⟨a, 0, none⟩) 1 1, .slice (some ⟨b, 0, none⟩) 1 1, .int .i64 0, .int .i64 0] 38)
  generalize w'.alloc (.cells #[.slice (some ⟨g, 0, none⟩) 9 9, .slice (some ⟨a, 0, none⟩) 1 1, .slice (some ⟨b, 0, none⟩) 1 1, .int .i64 0, .int .i64 0] 38) = A at hal hq hU
  generalize w'.heap.size = q at lg' la' lb' hal hq hU bel ⊢
  have hg1 := (hal.block g lg').trans hg
  have ha1 := (hal.block a la').trans ha
  have hb1 := (hal.block b lb').trans hb
  have hg2 := heap_setCell_same A g 2 _ _ (.int .i64 1) hg1
  have hq2 := (heap_setCell_other A ⟨g, 2, none⟩ q (.int .i64 1) (by show q ≠ g; omega)).trans hq
  have hq3 := heap_setCell_same _ q 3 _ _ (.int .i64 1) hq2
  have e : ∀ k, k ≠ q → k ≠ g → U.heap[k]? = A.heap[k]? := fun k h1 h2 => by
    rw [hU, heap_setCell_other _ ⟨q, 3, none⟩ k _ h1, heap_setCell_other _ ⟨g, 2, none⟩ k _ h2]
  have hg3 : U.heap[g]? = some (.cells #[.int .i64 1, .int .i64 1, .int .i64 1, .int .i64 2, .int .i64 2, .int .i64 0, .int .i64 0, .int .i64 0, .int .i64 0] 3 (0, 0)) := by
    rw [hU, heap_setCell_other _ ⟨q, 3, none⟩ g _ (by show g ≠ q; omega)]; exact hg2
  have hq4 : U.heap[q]? = some (.cells #[.slice (some ⟨g, 0, none⟩) 9 9, .slice (some ⟨a, 0, none⟩) 1 1, .slice (some ⟨b, 0, none⟩) 1 1, .int .i64 1, .int .i64 0] 38 (0, 0)) := by rw [hU]; exact hq3
  refine ⟨?_, ?_, ?_, ?_, ?_⟩
  · rw [hU]
    exact ((bel.trans (hal.mono (by omega))).setCell (p := ⟨g, 2, none⟩) lg _).setCell (p := ⟨q, 3, none⟩) (by show _ ≤ q; omega) _
  · have hc : ∀ i, U.cell? ⟨q, i, none⟩ = (#[Value.slice (some ⟨g, 0, none⟩) 9 9, .slice (some ⟨a, 0, none⟩) 1 1, .slice (some ⟨b, 0, none⟩) 1 1, .int .i64 1, .int .i64 0] : Array Value)[i]? := fun i => cell_of_row U q i _ _ (0, 0) hq4
    exact ⟨hc 0, hc 1, hc 2, hc 3, hc 4⟩
  · exact isSl_block (xs := [1, 1, 1, 2, 2, 0, 0, 0, 0]) hg3 rfl (by decide) (by decide)
  · exact isSl_block (xs := [3]) ((e a (by omega) ga).trans ha1) rfl (by decide) (by decide)
  · exact isSl_block (xs := [3]) ((e b (by omega) gb).trans hb1) rfl (by decide) (by decide)
/-- The facts at which the third piece is put. -/
theorem won_store {w w' : World} {g a b : Nat} (h : Own3 w w' g a b) : let A := w'.alloc (.cells #[.slice (some ⟨g, 0, none⟩) 9 9, .slice (some ⟨a, 0, none⟩) 1 1, .slice (some ⟨b, 0, none⟩) 1 1, .int .i64 0, .int .i64 0] 38)
    A.cell? ⟨g, 2, none⟩ = some (.int .i64 0) ∧ A.frozen? ⟨g, 2, none⟩ = false ∧ (A.setCell ⟨g, 2, none⟩ (.int .i64 1)).cell? ⟨w'.heap.size, 3, none⟩ = some (.int .i64 0) ∧ (A.setCell ⟨g, 2, none⟩ (.int .i64 1)).frozen? ⟨w'.heap.size, 3, none⟩ = false := by
  have lg' : g < w'.heap.size := (Array.getElem?_eq_some_iff.1 h.hg).1
  have hal := (Below.refl w'.heap.size w').alloc (Nat.le_refl _) (.cells #[.slice (some ⟨g, 0, none⟩) 9 9, .slice (some ⟨a, 0, none⟩) 1 1, .slice (some ⟨b, 0, none⟩) 1 1, .int .i64 0, .int .i64 0] 38)
  have hq := heap_alloc_new w' (.cells #[.slice (some ⟨g, 0, none⟩) 9 9, .slice (some ⟨a, 0, none⟩) 1 1, .slice (some ⟨b, 0, none⟩) 1 1, .int .i64 0, .int .i64 0] 38)
  intro A
  have hg1 : A.heap[g]? = _ := (hal.block g lg').trans h.hg
  have hq1 : (A.setCell ⟨g, 2, none⟩ (.int .i64 1)).heap[w'.heap.size]? = _ := (heap_setCell_other A ⟨g, 2, none⟩ w'.heap.size (.int .i64 1) (by show w'.heap.size ≠ g; omega)).trans hq
  exact ⟨cell_of_row A g 2 _ _ (0, 0) hg1, frozen_of_row A g 2 _ _ hg1, cell_of_row _ w'.heap.size 3 _ _ (0, 0) hq1, frozen_of_row _ w'.heap.size 3 _ _ hq1⟩
end Go.Proofs.YtkficjpnflnjhaaGreatDoor
