/- place.Same of any two positions. -/
import Derived.Test.YtomclohfppbegaaGreatDoorSameP
set_option maxRecDepth 100000
namespace Go.Proofs.YtomclohfppbegaaGreatDoor
open Go.ChangeShapes Go.WideShapes Go.ChangeAt Go.RowKit

/-- Are the cells, the hands and the turn the same? -/
def sameB (p q : PlaceD) : Bool := decide (p.h0 = q.h0) && (decide (p.h1 = q.h1) && (decide (p.cells = q.cells) && decide (p.turn = q.turn)))
set_option maxHeartbeats 8000000 in
theorem Same_any (p q : PlaceD) (vc v0 v1 uc u0 u1 : Value) (w : World) (h1 : PlaceIn w p vc v0 v1) (h2 : PlaceIn w q uc u0 u1) (hs : Short p) :
    Calls Tryz.prog 33 #[PlaceV p vc v0 v1, PlaceV q uc u0 u1] w (BelPost (.bool (sameB p q)) w) := by
  obtain ⟨e0, he0⟩ : ∃ e, e = decide (p.h0 = q.h0) := ⟨_, rfl⟩
  obtain ⟨e1, he1⟩ : ∃ e, e = decide (p.h1 = q.h1) := ⟨_, rfl⟩
  obtain ⟨ec, hec⟩ : ∃ e, e = decide (p.cells = q.cells) := ⟨_, rfl⟩
  have HC : Hid (∀ W, Below w.heap.size w W → Calls Tryz.prog 67 #[vc, uc] W (BelPost (.bool ec) W)) := Lib.hid (fun W h => by rw [hec]; exact equal_any p.cells q.cells vc uc W (row_of (h1.below h (Nat.le_refl _)).c) (row_of (h2.below h (Nat.le_refl _)).c) (by have := hs.c; omega))
  have H0 : Hid (∀ W, Below w.heap.size w W → Calls Tryz.prog 67 #[v0, u0] W (BelPost (.bool e0) W)) := Lib.hid (fun W h => by rw [he0]; exact equal_any p.h0 q.h0 v0 u0 W (row_of (h1.below h (Nat.le_refl _)).a) (row_of (h2.below h (Nat.le_refl _)).a) (by have := hs.a; omega))
  have H1 : Hid (∀ W, Below w.heap.size w W → Calls Tryz.prog 67 #[v1, u1] W (BelPost (.bool e1) W)) := Lib.hid (fun W h => by rw [he1]; exact equal_any p.h1 q.h1 v1 u1 W (row_of (h1.below h (Nat.le_refl _)).b) (row_of (h2.below h (Nat.le_refl _)).b) (by have := hs.b; omega))
  have HK : Hid (sameB p q = (e0 && (e1 && (ec && decide (p.turn = q.turn))))) := Lib.hid (by rw [sameB, he0, he1, hec])
  obtain ⟨V, hV⟩ : ∃ V, V = (w.alloc (.cells (PlaceCells p vc v0 v1) 43)).alloc (.cells (PlaceCells q uc u0 u1) 43) := ⟨_, rfl⟩
  obtain ⟨hB, hX, hY⟩ := two_boxes w p q vc v0 v1 uc u0 u1 43
  rw [← hV] at hB hX hY
  have HB := Lib.hid hB
  have HX : Hid (∀ W, Below V.heap.size V W → BoxP W w.heap.size p vc v0 v1) := Lib.hid (fun W h => hX.below h (Nat.le_refl _))
  have HY : Hid (∀ W, Below V.heap.size V W → BoxP W (w.heap.size + 1) q uc u0 u1) := Lib.hid (fun W h => hY.below h (Nat.le_refl _))
  obtain ⟨x0, x1, x2, x3, x4⟩ := hX
  obtain ⟨y0, y1, y2, y3, y4⟩ := hY
  have hV' := hV
  unfold PlaceCells at hV'
  unfold PlaceV PlaceCells
  rw [hV] at x0 x1 x2 x3 x4 y0 y1 y2 y3 y4
  clear h1 h2 hB hs hV he0 he1 hec
  go_enter Tryz.func33, Tryz.ntmps33
  go_wp2_with fail
  rw [← hV']
  clear hV' x0 x1 x2 x3 x4 y0 y1 y2 y3 y4
  go_at_call 67; refine (H0.out _ HB.out).mono ?_; rintro e w1 ⟨rfl, hb⟩
  have HB1 := Lib.hid hb
  obtain ⟨x0, x1, x2, x3, x4⟩ := HX.out _ hb
  obtain ⟨y0, y1, y2, y3, y4⟩ := HY.out _ hb
  clear hb
  have HN : Hid (∀ W, Below V.heap.size V W → ∀ W2, Below W.heap.size W W2 → Below V.heap.size V W2) := Lib.hid (fun W h W2 h2 => h.trans (h2.mono h.size))
  cases e0
  · have K : Hid (∀ b : Bool, b = false → b = sameB p q) := Lib.hid (fun b hb => by rw [hb, HK.out]; rfl)
    go_wp2_with fail
    go_at_call 67; refine (HC.out _ (HB.out.trans (HB1.out.mono HB.out.size))).mono ?_; rintro e w2 ⟨rfl, hb⟩
    have HB2 := Lib.hid (HB.out.trans ((HN.out _ HB1.out _ hb).mono HB.out.size))
    clear hb HB1 x0 x1 x2 x3 x4 y0 y1 y2 y3 y4
    cases ec
    all_goals
      go_wp2_with fail
      go_ret
      exact ⟨ret_bool (K.out _ rfl), HB2.out⟩
  · go_wp2_with fail
    go_at_call 67; refine (H1.out _ (HB.out.trans (HB1.out.mono HB.out.size))).mono ?_; rintro e w2 ⟨rfl, hb⟩
    have hb2 := HN.out _ HB1.out _ hb
    have HB2 := Lib.hid hb2
    clear hb HB1 x0 x1 x2 x3 x4 y0 y1 y2 y3 y4
    obtain ⟨x0, x1, x2, x3, x4⟩ := HX.out _ hb2
    obtain ⟨y0, y1, y2, y3, y4⟩ := HY.out _ hb2
    clear hb2
    go_wp2_with fail
    go_at_call 67; refine (HC.out _ (HB.out.trans (HB2.out.mono HB.out.size))).mono ?_; rintro e w3 ⟨rfl, hb⟩
    have hb3 := HN.out _ HB2.out _ hb
    have HB3 := Lib.hid (HB.out.trans (hb3.mono HB.out.size))
    clear hb HB2 x0 x1 x2 x3 x4 y0 y1 y2 y3 y4
    obtain ⟨x0, x1, x2, x3, x4⟩ := HX.out _ hb3
    obtain ⟨y0, y1, y2, y3, y4⟩ := HY.out _ hb3
    clear hb3
    cases e1
    · have K : Hid (∀ b : Bool, b = false → b = sameB p q) := Lib.hid (fun b hb => by rw [hb, HK.out]; rfl)
      cases ec
      all_goals
        go_wp2_with fail
        go_ret
        exact ⟨ret_bool (K.out _ rfl), HB3.out⟩
    · cases ec
      · have K : Hid (∀ b : Bool, b = false → b = sameB p q) := Lib.hid (fun b hb => by rw [hb, HK.out]; rfl)
        go_wp2_with fail
        go_ret
        exact ⟨ret_bool (K.out _ rfl), HB3.out⟩
      · by_cases ht : p.turn = q.turn
        · have K : Hid (true = sameB p q) := Lib.hid (by rw [HK.out, decide_eq_true ht]; rfl)
          have htt : (p.turn == q.turn) = true := by simpa using ht
          clear ht
          go_wp2_with fail
          go_ret
          exact ⟨ret_bool K.out, HB3.out⟩
        · have K : Hid (false = sameB p q) := Lib.hid (by rw [HK.out, decide_eq_false ht]; rfl)
          have htt : (p.turn == q.turn) = false := by simpa using ht
          clear ht
          go_wp2_with fail
          go_ret
          exact ⟨ret_bool K.out, HB3.out⟩
end Go.Proofs.YtomclohfppbegaaGreatDoor
