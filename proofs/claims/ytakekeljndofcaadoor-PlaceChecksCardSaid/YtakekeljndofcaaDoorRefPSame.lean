/- The reference's SameInts and SamePlace, at the same position twice. -/
import Derived.Test.YtakekeljndofcaaDoorPlc
import Derived.Test.YtakekeljndofcaaDoorPFill
import Derived.BigQuiet
set_option maxRecDepth 100000
namespace Go.Proofs.YtakekeljndofcaaDoor
open Go.ChangeShapes Go.WideShapes Go.ChangeAt Go.RowKit

set_option maxHeartbeats 1000000 in
theorem sameInts_eq {xs : List Int} {v1 v2 : Value} {w : World} (h1 : IsSl IntAt 1 w v1 xs) (h2 : IsSl IntAt 1 w v2 xs) (hl : xs.length ≤ 100) : Calls Tryd.prog 26 #[v1, v2] w (BelPost (.bool true) w) := by
  obtain ⟨n, hn⟩ : ∃ n, n = xs.length := ⟨_, rfl⟩
  obtain ⟨a, c, rfl, hc, hat⟩ := h1.shape hn
  obtain ⟨b, d, rfl, hd, hbt⟩ := h2.shape hn
  have hgen : ∀ {a : Option Addr} (hat : ∀ j, j < n → ∃ g off x, a = some ⟨g, off, none⟩ ∧ xs[j]? = some x ∧ IntAt w g (off + j * 1) x), ∀ k, k < n → ∃ g off x, a = some ⟨g, off, none⟩ ∧ xs[k]? = some x ∧ ∀ V, Below w.heap.size w V → V.cell? ⟨g, off + k, none⟩ = some (.int .i64 x) := fun hat k hk => by
    obtain ⟨g, off, x, e, hx, hq⟩ := hat k hk
    refine ⟨g, off, x, e, hx, fun V hV => ?_⟩
    have := cell_keeps hV (Nat.le_refl _) hq
    rwa [Nat.mul_one] at this
  have HA := Lib.hid (hgen hat)
  have HB := Lib.hid (hgen hbt)
  have hn1 : n ≤ 100 := by omega
  clear hat hbt hgen h1 h2 hn hl
  go_enter Tryd.func26, Tryd.ntmps26
  go_wp2_with fail
  go_loopw [13] (fun i wr => ∃ k : Nat, k ≤ n ∧ i = .int .i64 (k : Int) ∧ Hid (Below w.heap.size w wr)) (fun i _ => n - (intOf i).toNat)
  case atStart => exact ⟨0, by omega, rfl, Lib.hid (Below.refl _ _)⟩
  case round =>
    obtain ⟨k, hk, rfl, hbel⟩ := hrel
    by_cases hlt : k < n
    · obtain ⟨g, o, x, rfl, hx, hcx⟩ := HA.out k hlt
      obtain ⟨g2, o2, y, rfl, hy, hcy⟩ := HB.out k hlt
      rw [hx] at hy
      obtain rfl := Option.some.inj hy
      have c1 := hcx _ hbel.out
      have c2 := hcy _ hbel.out
      clear hx hy hcx hcy
      go_wp2
      go_quiet (fail)
      go_wp2
      go_roundw
      case rel => exact ⟨k + 1, by omega, by go_num, Lib.hid (below_drewN hbel.out _)⟩
      case measure => simp [intOf]; omega
    · go_wp2
      go_ret
      exact ⟨rfl, hbel.out⟩
set_option maxHeartbeats 4000000 in
theorem samePlace_eq (p : PlaceD) (vc v0 v1 uc u0 u1 : Value) (w : World) (h1 : PlaceIn w p vc v0 v1) (h2 : PlaceIn w p uc u0 u1) (hs : Short p) :
    Calls Tryd.prog 11 #[PlaceV p vc v0 v1, PlaceV p uc u0 u1] w (BelPost (.bool true) w) := by
  have HC : Hid (∀ W, Below w.heap.size w W → Calls Tryd.prog 26 #[vc, uc] W (BelPost (.bool true) W)) := Lib.hid (fun W h => sameInts_eq (h1.below h (Nat.le_refl _)).c (h2.below h (Nat.le_refl _)).c hs.c)
  have H0 : Hid (∀ W, Below w.heap.size w W → Calls Tryd.prog 26 #[v0, u0] W (BelPost (.bool true) W)) := Lib.hid (fun W h => sameInts_eq (h1.below h (Nat.le_refl _)).a (h2.below h (Nat.le_refl _)).a hs.a)
  have H1 : Hid (∀ W, Below w.heap.size w W → Calls Tryd.prog 26 #[v1, u1] W (BelPost (.bool true) W)) := Lib.hid (fun W h => sameInts_eq (h1.below h (Nat.le_refl _)).b (h2.below h (Nat.le_refl _)).b hs.b)
  obtain ⟨hB, hX, hY⟩ := two_boxes w p p vc v0 v1 uc u0 u1 29
  have HB := Lib.hid hB
  have HX := Lib.hid hX
  have HY := Lib.hid hY
  unfold PlaceCells at HB HX HY
  unfold PlaceV PlaceCells
  clear h1 h2 hB hX hY hs
  go_enter Tryd.func11, Tryd.ntmps11
  go_wp2_with fail
  go_at_call 26; refine (HC.out _ HB.out).mono ?_; rintro e w1 ⟨rfl, hb⟩
  have HB1 := Lib.hid (HB.out.trans (hb.mono HB.out.size))
  have HX1 := Lib.hid (HX.out.below hb (Nat.le_refl _))
  have HY1 := Lib.hid (HY.out.below hb (Nat.le_refl _))
  clear hb HB HX HY
  obtain ⟨x0, x1, x2, x3, x4⟩ := HX1.out
  obtain ⟨y0, y1, y2, y3, y4⟩ := HY1.out
  go_wp2_with fail
  go_at_call 26; refine (H0.out _ HB1.out).mono ?_; rintro e w2 ⟨rfl, hb⟩
  have HB2 := Lib.hid (HB1.out.trans (hb.mono HB1.out.size))
  have HX2 := Lib.hid (HX1.out.below hb (Nat.le_refl _))
  have HY2 := Lib.hid (HY1.out.below hb (Nat.le_refl _))
  clear hb HB1 HX1 HY1 x0 x1 x2 x3 x4 y0 y1 y2 y3 y4
  obtain ⟨x0, x1, x2, x3, x4⟩ := HX2.out
  obtain ⟨y0, y1, y2, y3, y4⟩ := HY2.out
  go_wp2_with fail
  go_at_call 26; refine (H1.out _ HB2.out).mono ?_; rintro e w3 ⟨rfl, hb⟩
  have HB3 := Lib.hid (HB2.out.trans (hb.mono HB2.out.size))
  clear hb HB2 HX2 HY2 x0 x1 x2 x3 x4 y0 y1 y2 y3 y4
  go_wp2_with fail
  go_ret
  exact ⟨rfl, HB3.out⟩
end Go.Proofs.YtakekeljndofcaaDoor
