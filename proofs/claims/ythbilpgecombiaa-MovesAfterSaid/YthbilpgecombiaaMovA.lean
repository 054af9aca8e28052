/- moves.All. -/
import Derived.Test.YthbilpgecombiaaMovF
import Derived.Laws.AppendOwnNone
set_option maxRecDepth 100000
namespace Go.Proofs.Ythbilpgecombiaa
open Go.ChangeShapes Go.WideShapes Go.ChangeAt Go.RowKit

def ListBad (c : Int) (w : World) (e : Ending) (w' : World) : Prop := e = .returned (.tuple #[.slice none 0 0, .int .i64 c]) ∧ Below w.heap.size w w'
def ListPost (ms : List MoveD) (w : World) (e : Ending) (w' : World) : Prop := ∃ a n c, e = .returned (.tuple #[.slice a n c, .int .i64 0]) ∧ IsSl MoveAt 3 w' (.slice a n c) ms ∧ n = ms.length ∧ Below w.heap.size w w'
theorem IsSl.len {α : Type} {q : World → Nat → Nat → α → Prop} {k : Nat} {W : World} {a : Option Addr} {n c : Nat} {xs : List α} (h : IsSl q k W (.slice a n c) xs) : n = xs.length := by
  obtain ⟨a', c', e, _⟩ := h.shape rfl
  simp only [Value.slice.injEq] at e
  exact e.2.1
def allTo (r : RulesD) (p : PlaceD) : Nat → List MoveD
  | 0 => []
  | k + 1 => allTo r p k ++ movesOf r p ((k : Int) - 1)
theorem allTo_eq (r : RulesD) (p : PlaceD) : ∀ k, k ≤ p.cells.length → allTo r p (k + 1) = putsD r p ++ ((squares p).take k).flatMap (fromD r p)
  | 0, _ => by simp [allTo, movesOf]
  | k + 1, hk => by
    rw [allTo, allTo_eq r p k (by omega)]
    have h : (squares p)[k]? = some (k : Int) := by simp [squares, show k < p.cells.length by omega]
    rw [List.take_add_one, h, List.flatMap_append, show ((k + 1 : Nat) : Int) - 1 = (k : Int) by omega, movesOf, if_neg (by omega), List.append_assoc]
    simp
theorem allTo_all (r : RulesD) (p : PlaceD) : allTo r p (p.cells.length + 1) = allD r p := by
  rw [allTo_eq r p _ (Nat.le_refl _), List.take_of_length_le (by rw [squares_length]; exact Nat.le_refl _)]; rfl
theorem allTo_length {r : RulesD} {p : PlaceD} (h : POkay r p) : ∀ k, k ≤ p.cells.length + 1 → (allTo r p k).length ≤ 384 * k
  | 0, _ => Nat.le_refl _
  | k + 1, hk => by
    have ih := allTo_length h k (by omega)
    rw [allTo, List.length_append]
    have h1 : (movesOf r p ((k : Int) - 1)).length ≤ 384 := by
      unfold movesOf; split
      · exact putsD_length h
      · have := fromD_length h ((k : Int) - 1); omega
    omega
set_option maxHeartbeats 8000000 in
theorem all_bad (r : RulesD) (p : PlaceD) (vp vs ve vc v0 v1 : Value) (w : World) (hr : RulesIn w r vp vs ve) (hp : PlaceIn w p vc v0 v1) (hz : placeE r p ≠ 0) :
    Calls Try.prog 12 #[RulesV r vp vs ve, PlaceV p vc v0 v1] w (ListBad (placeE r p) w) := by
  obtain ⟨c, hc⟩ : ∃ c : Int, c = placeE r p := ⟨_, rfl⟩
  obtain ⟨hB, hY, hX⟩ := rp_boxes w r p vp vs ve vc v0 v1
  have HCK : Hid (Calls Try.prog 9 #[RulesV r vp vs ve, PlaceV p vc v0 v1] _ (BelPost (.int .i64 c) _)) := Lib.hid (by rw [hc]; exact pcheck_any r p vp vs ve vc v0 v1 _ (hr.below hB (Nat.le_refl _)) (hp.below hB (Nat.le_refl _)))
  rw [← hc] at hz ⊢
  have hne : (c != 0) = true := by simpa using hz
  have HB := Lib.hid hB
  unfold RulesCells PlaceCells at HB hY hX HCK
  unfold RulesV PlaceV PlaceCells at HCK ⊢
  obtain ⟨x0, x1, x2, x3, x4⟩ := hX
  obtain ⟨y0, y1, y2, y3, y4, y5, y6, y7, y8, y9, y10⟩ := hY
  clear hr hp hB hc hz
  go_enter Try.func12, Try.ntmps12
  go_wp2_with fail
  go_at_call 9; refine HCK.out.mono ?_; rintro e w1 ⟨rfl, hb⟩
  have HB1 := Lib.hid (HB.out.trans (hb.mono HB.out.size))
  clear hb HB HCK x0 x1 x2 x3 x4 y0 y1 y2 y3 y4 y5 y6 y7 y8 y9 y10
  go_wp2_with fail
  go_ret2
  exact ⟨rfl, HB1.out⟩
set_option maxHeartbeats 8000000 in
theorem all_ok (r : RulesD) (p : PlaceD) (vp vs ve vc v0 v1 : Value) (w : World) (hr : RulesIn w r vp vs ve) (hp : PlaceIn w p vc v0 v1) (hk : POkay r p) :
    Calls Try.prog 12 #[RulesV r vp vs ve, PlaceV p vc v0 v1] w (ListPost (allD r p) w) := by
  obtain ⟨i0, hi, hz0, hz1, hz2⟩ := info_parts infoMove
  obtain ⟨m, hm⟩ : ∃ m, m = p.cells.length := ⟨_, rfl⟩
  have hm64 := (cells_len hk).2
  obtain ⟨ca, cc, rfl, hcc, _⟩ := hp.c.shape hm
  obtain ⟨hB, hY, hX⟩ := rp_boxes w r p vp vs ve (.slice ca m cc) v0 v1
  have HCK : Hid (Calls Try.prog 9 #[RulesV r vp vs ve, PlaceV p (.slice ca m cc) v0 v1] _ (BelPost (.int .i64 0) _)) := Lib.hid (by
    have h := pcheck_any r p vp vs ve (.slice ca m cc) v0 v1 _ (hr.below hB (Nat.le_refl _)) (hp.below hB (Nat.le_refl _))
    rwa [placeE_iff.2 hk] at h)
  have HAF : Hid (∀ src : Int, -1 ≤ src → src < m → ∀ W, Below w.heap.size w W → Calls Try.prog 33 #[RulesV r vp vs ve, PlaceV p (.slice ca m cc) v0 v1, .int .i64 src] W (SlPost MoveAt 3 (movesOf r p src) W)) := Lib.hid (fun src h0 h1 W hb =>
    allFrom_any r p vp vs ve _ v0 v1 src W (hr.1.below hb (Nat.le_refl _)) (hp.below hb (Nat.le_refl _)) hk h0 (by omega))
  have HAL : Hid (∀ k, k ≤ m + 1 → (allTo r p k).length ≤ 384 * k) := Lib.hid (fun k h => allTo_length hk k (by omega))
  have HAA : Hid (allTo r p (m + 1) = allD r p) := Lib.hid (by rw [hm]; exact allTo_all r p)
  have HML : Hid (∀ src, (movesOf r p src).length ≤ 384) := Lib.hid (fun src => by
    unfold movesOf; split
    · exact putsD_length hk
    · have := fromD_length hk src; omega)
  rw [← hm] at hm64
  have HB := Lib.hid hB
  have HX := Lib.hid hX
  have HY := Lib.hid hY
  unfold RulesCells PlaceCells at HB hY hX HCK HX HY
  unfold RulesV PlaceV PlaceCells at HCK HAF ⊢
  obtain ⟨x0, x1, x2, x3, x4⟩ := hX
  obtain ⟨y0, y1, y2, y3, y4, y5, y6, y7, y8, y9, y10⟩ := hY
  clear hr hp hB hm hk
  go_enter Try.func12, Try.ntmps12
  go_wp2_with fail
  go_at_call 9; refine HCK.out.mono ?_; rintro e V ⟨rfl, hb⟩
  have HB1 := Lib.hid (HB.out.trans (hb.mono HB.out.size))
  have HX1 : Hid (∀ W, Below V.heap.size V W → BoxP W (w.heap.size + 1) p (.slice ca m cc) v0 v1) := Lib.hid (fun W h => (HX.out.below hb (Nat.le_refl _)).below h (Nat.le_refl _))
  have HY1 : Hid (∀ W, Below V.heap.size V W → BoxR W w.heap.size r vp vs ve) := Lib.hid (fun W h => (HY.out.below hb (Nat.le_refl _)).below h (Nat.le_refl _))
  clear hb HB HCK HX HY x0 x1 x2 x3 x4 y0 y1 y2 y3 y4 y5 y6 y7 y8 y9 y10
  go_wp2_with fail
  go_loopw [7, 8] (fun l v wr => ∃ k : Nat, k ≤ m + 1 ∧ v = .int .i64 ((k : Int) - 1) ∧ wr.ownsRow V.heap.size 31 3 l (allTo r p k).length (mcs (allTo r p k)) ∧ Hid (Below V.heap.size V wr)) (fun _ v _ => m + 1 - (intOf v + 1).toNat)
  case atStart => exact ⟨0, by omega, rfl, World.ownsRow_nil _ _ _ _, Lib.hid (Below.refl _ _)⟩
  case round =>
    obtain ⟨k, hkm, rfl, hown, hbel⟩ := hrel
    obtain ⟨la, lc, rfl⟩ := owns_form hown
    obtain ⟨x0, x1, x2, x3, x4⟩ := HX1.out wr hbel.out
    obtain ⟨y0, y1, y2, y3, y4, y5, y6, y7, y8, y9, y10⟩ := HY1.out wr hbel.out
    by_cases hlt : k < m + 1
    · have HBW : Hid (Below w.heap.size w wr) := Lib.hid (HB1.out.trans (hbel.out.mono HB1.out.size))
      have HAK := Lib.hid (HAF.out ((k : Int) - 1) (by omega) (by omega) wr HBW.out)
      have hll := HAL.out k hkm
      have hl2 := HML.out ((k : Int) - 1)
      have HO := Lib.hid hown
      have HAS : Hid (allTo r p (k + 1) = allTo r p k ++ movesOf r p ((k : Int) - 1)) := Lib.hid rfl
      have hd : decide ((k : Int) - 1 < (m : Int)) = true := by simp; omega
      clear hown
      go_wp2_with fail
      go_at_call 33; refine HAK.out.mono ?_; rintro e w2 ⟨ra, rn, rc, rfl, hI, hnil, hb2⟩
      have HB2 : Hid (Below V.heap.size V w2) := Lib.hid (hbel.out.trans (hb2.mono hbel.out.size))
      have hown2 := owns_below HO.out hb2
      have hrn := hI.len
      obtain ⟨ms, hms⟩ : ∃ ms, ms = movesOf r p ((k : Int) - 1) := ⟨_, rfl⟩
      rw [← hms] at hI hrn hl2 HAS
      generalize allTo r p k = pre at hown2 hll HAS ⊢
      have KL : Hid ((allTo r p (k + 1)).length = pre.length + rn) := Lib.hid (by rw [HAS.out, List.length_append, hrn])
      have KM : Hid (mcs (allTo r p (k + 1)) = mcs pre ++ mcs ms) := Lib.hid (by rw [HAS.out, mcs_append])
      have HI := Lib.hid hI
      have HRN := Lib.hid hrn
      have hrn4 : rn ≤ 384 := by rw [hrn]; exact hl2
      clear hms hb2 HO hbel HAK x0 x1 x2 x3 x4 y0 y1 y2 y3 y4 y5 y6 y7 y8 y9 y10 hI hrn HBW
      have HNI := Lib.hid hnil
      clear hnil
      cases ra with
      | none =>
        obtain ⟨rfl, rfl⟩ := HNI.out rfl
        have hms0 : ms = [] := List.eq_nil_of_length_eq_zero HRN.out.symm
        have KL0 : Hid ((allTo r p (k + 1)).length = pre.length ∧ mcs (allTo r p (k + 1)) = mcs pre) := Lib.hid (by rw [HAS.out, hms0]; simp)
        have HO2 := Lib.hid hown2
        clear hms0
        go_wp2_with (at_builtin; refine wpList_append_own_none rfl _ _ 37 rfl V.heap.size 31 i0 3 Try.underlying37 hi _ _ _ rfl hown2 rfl ?_)
        clear hown2
        go_wp2
        go_roundw
        case rel => exact ⟨k + 1, by omega, by go_num, by rw [KL0.out.1, KL0.out.2]; exact HO2.out, HB2⟩
        case measure => simp [intOf]; omega
      | some ad =>
        go_wp2_with (at_builtin; refine wpList_append_own _ rfl _ _ 37 rfl V.heap.size 31 i0 (.agg #[.int .i64 0, .int .i64 0, .int .i64 0]) 3 24 Try.underlying37 hi hz0 hz1 hz2 rfl (by decide) _ _ _ rfl hown2 ad rn rc (mcs ms) rfl (by rw [mcs_length, HRN.out]) HI.out.cells3 (mcs_one_cell ms) (by unfold maxLen; omega) (by omega) HB2.out.size ?_)
        intro v' w3 hown' hgrow _
        have HB3 : Hid (Below V.heap.size V w3) := Lib.hid (HB2.out.grown hgrow HB2.out.size (fun k e => (hown2.lt k e).1))
        rw [← KM.out, ← KL.out] at hown'
        have HO3 := Lib.hid hown'
        clear hgrow hown2 hown'
        go_wp2
        go_roundw
        case rel => exact ⟨k + 1, by omega, by go_num, HO3.out, HB3⟩
        case measure => simp [intOf]; omega
    · obtain rfl : k = m + 1 := by omega
      have HBE : Hid (Below w.heap.size w wr) := Lib.hid (HB1.out.trans (hbel.out.mono HB1.out.size))
      have HOW := Lib.hid hown
      have hll := HAL.out _ hkm
      rw [HAA.out] at HOW hll
      rw [HAA.out]
      have hd : decide (((m + 1 : Nat) : Int) - 1 < (m : Int)) = false := by simp
      clear hown hbel
      go_wp2
      go_ret2
      exact ⟨_, _, _, rfl, moves_of_owns HOW.out, rfl, HBE.out⟩
end Go.Proofs.Ythbilpgecombiaa
