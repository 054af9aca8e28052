/- The reference's lined: whether a player has so many pieces in a row. -/
import Derived.Test.YtdhhdkbnlddnbaaGreatDoorRefL
import Derived.Test.YtdhhdkbnlddnbaaGreatDoorEndA
import Derived.Deep.CutRange
set_option maxRecDepth 100000
namespace Go.Proofs.YtdhhdkbnlddnbaaGreatDoor
open Go.ChangeShapes Go.WideShapes Go.ChangeAt Go.RowKit

theorem mine_off (pl : Int) (w : World) :
    Calls Tryz.prog 59 #[.int .i64 (-1), .int .i64 pl] w fun e w' => e = .returned (.bool false) ∧ w' = w := by
  go_enter Tryz.func59, Tryz.ntmps59
  go_wp2
  go_ret
  exact ⟨rfl, rfl⟩
theorem mine_at {r : RulesD} {p : PlaceD} (hk : POkay r p) (pl x y : Int) (w : World) :
    Calls Tryz.prog 59 #[.int .i64 (atI r p x y), .int .i64 pl] w fun e w' => e = .returned (.bool (mineAt r p pl x y)) ∧ w = w' := by
  by_cases hb : onB r x y = true
  · have h1 := cell_in hk (y * r.width + x)
    have h2 := (pieces_len hk.e).2
    rw [atI, if_pos hb, mineAt, hb, Bool.true_and]
    exact turned (mine_any _ _ _ h1.1 (by omega))
  · rw [atI, if_neg hb, mineAt, show onB r x y = false by simpa using hb, Bool.false_and]
    exact turned (mine_off _ _)
theorem along_none (r : RulesD) (p : PlaceD) (pl x y dx dy : Int) : alongB r p pl x y dx dy 0 = true := rfl
theorem along_more {r : RulesD} {p : PlaceD} {pl x y dx dy : Int} {n : Nat} (h : alongB r p pl x y dx dy n = true) (hm : mineAt r p pl (x + (n : Int) * dx) (y + (n : Int) * dy) = true) : alongB r p pl x y dx dy (n + 1) = true := by
  rw [along_iff] at h ⊢
  intro i hi
  by_cases e : i = n
  · rw [e]; exact hm
  · exact h i (by omega)
theorem along_less {r : RulesD} {p : PlaceD} {pl x y dx dy : Int} {n c : Nat} (h : alongB r p pl x y dx dy n = true) (hc : c ≤ n) : alongB r p pl x y dx dy c = true := by
  rw [along_iff] at h ⊢
  exact fun i hi => h i (by omega)
theorem along_stop {r : RulesD} {p : PlaceD} {pl x y dx dy : Int} {n c : Nat} (hm : mineAt r p pl (x + (n : Int) * dx) (y + (n : Int) * dy) = false) (hc : n < c) : alongB r p pl x y dx dy c = false := by
  rw [Bool.eq_false_iff]
  intro h
  have := along_iff.1 h n hc
  rw [hm] at this; cases this
/-- No line begins at these squares, in these directions. -/
def NoD (r : RulesD) (p : PlaceD) (pl : Int) (c : Nat) (x y : Int) (k : Nat) : Prop := ∀ d ∈ lineDirs.take k, alongB r p pl x y d.1 d.2 c = false
def NoX (r : RulesD) (p : PlaceD) (pl : Int) (c : Nat) (y : Int) (n : Nat) : Prop := ∀ x : Nat, x < n → NoD r p pl c (x : Int) y 4
def NoY (r : RulesD) (p : PlaceD) (pl : Int) (c : Nat) (n : Nat) : Prop := ∀ y : Nat, y < n → NoX r p pl c (y : Int) r.width.toNat
theorem noD_succ {r : RulesD} {p : PlaceD} {pl : Int} {c : Nat} {x y dx dy : Int} {k : Nat} (h : NoD r p pl c x y k) (hd : lineDirs[k]? = some (dx, dy)) (ha : alongB r p pl x y dx dy c = false) : NoD r p pl c x y (k + 1) := by
  intro d hm
  rw [List.take_add_one, hd] at hm
  rcases List.mem_append.1 hm with hm | hm
  · exact h d hm
  · simp only [Option.toList_some, List.mem_singleton] at hm
    subst hm; exact ha
theorem noX_succ {r : RulesD} {p : PlaceD} {pl : Int} {c : Nat} {y : Int} {n : Nat} (h : NoX r p pl c y n) (hd : NoD r p pl c (n : Int) y 4) : NoX r p pl c y (n + 1) := by
  intro x hx
  by_cases e : x = n
  · rw [e]; exact hd
  · exact h x (by omega)
theorem noY_succ {r : RulesD} {p : PlaceD} {pl : Int} {c : Nat} {n : Nat} (h : NoY r p pl c n) (hd : NoX r p pl c (n : Int) r.width.toNat) : NoY r p pl c (n + 1) := by
  intro y hy
  by_cases e : y = n
  · rw [e]; exact hd
  · exact h y (by omega)
theorem noY_all {r : RulesD} {p : PlaceD} (hk : POkay r p) {pl : Int} {c : Nat} (hc : 1 ≤ c) (h : NoY r p pl c r.height.toNat) : linePl r p pl c = false := by
  obtain ⟨_, hw, hh, _⟩ := rulesE_ok hk.e
  rw [inB_iff] at hw hh
  rw [Bool.eq_false_iff]
  intro hl
  obtain ⟨x, y, d, hd, ha⟩ := (line_iff hw.2 hh.2 hc).1 hl
  have h0 := mine_on (along_iff.1 ha 0 (by omega))
  rw [onB_iff] at h0
  simp only [Int.natCast_zero, Int.zero_mul, Int.add_zero] at h0
  have h1 := h y.toNat (by omega) x.toNat (by omega) d hd
  rw [Int.toNat_of_nonneg h0.1, Int.toNat_of_nonneg h0.2.2.1, ha] at h1
  cases h1
theorem line_found {r : RulesD} {p : PlaceD} (hk : POkay r p) {pl x y dx dy : Int} {c k : Nat} (hc : 1 ≤ c) (hd : lineDirs[k]? = some (dx, dy)) (ha : alongB r p pl x y dx dy c = true) : linePl r p pl c = true := by
  obtain ⟨_, hw, hh, _⟩ := rulesE_ok hk.e
  rw [inB_iff] at hw hh
  exact (line_iff hw.2 hh.2 hc).2 ⟨x, y, (dx, dy), List.mem_of_getElem? hd, ha⟩
theorem along_eight {r : RulesD} {p : PlaceD} (hk : POkay r p) {pl x y dx dy : Int} {n k : Nat} (hd : lineDirs[k]? = some (dx, dy)) (ha : alongB r p pl x y dx dy n = true) : n ≤ 8 := by
  obtain ⟨_, hw, hh, _⟩ := rulesE_ok hk.e
  rw [inB_iff] at hw hh
  exact along_len (d := (dx, dy)) hw.2 hh.2 (List.mem_of_getElem? hd) ha
set_option maxHeartbeats 16000000 in
theorem lined_any (r : RulesD) (p : PlaceD) (vp vs ve vc v0 v1 : Value) (pl : Int) (c : Nat) (w : World) (hp : PlaceIn w p vc v0 v1) (hk : POkay r p) (hc : 1 ≤ c) :
    Calls Tryz.prog 42 #[RulesV r vp vs ve, PlaceV p vc v0 v1, .int .i64 pl, .int .i64 (c : Int)] w (BelPost (.bool (linePl r p pl c)) w) := by
  obtain ⟨_, hw, hh, _⟩ := rulesE_ok hk.e
  rw [inB_iff] at hw hh
  obtain ⟨hw1, hw2⟩ := hw
  obtain ⟨hh1, hh2⟩ := hh
  obtain ⟨hB, hY, hX⟩ := rp_boxes w r p vp vs ve vc v0 v1
  obtain ⟨V, hV⟩ : ∃ V, V = (w.alloc (.cells (RulesCells r vp vs ve) 26)).alloc (.cells (PlaceCells p vc v0 v1) 29) := ⟨_, rfl⟩
  rw [← hV] at hB hY hX
  have HB := Lib.hid hB
  have HX : Hid (∀ W, Below V.heap.size V W → BoxP W (w.heap.size + 1) p vc v0 v1) := Lib.hid (fun W hb => hX.below hb (Nat.le_refl _))
  have HY : Hid (∀ W, Below V.heap.size V W → BoxR W w.heap.size r vp vs ve) := Lib.hid (fun W hb => hY.below hb (Nat.le_refl _))
  have HAT : Hid (∀ x y W, Below V.heap.size V W → Calls Tryz.prog 60 #[RulesV r vp vs ve, PlaceV p vc v0 v1, .int .i64 x, .int .i64 y] W (BelPost (.int .i64 (atI r p x y)) W)) := Lib.hid (fun x y W h => at_any r p vp vs ve vc v0 v1 x y W ((hp.below hB (Nat.le_refl _)).below h (Nat.le_refl _)) hk)
  have HMI : Hid (∀ x y W, Calls Tryz.prog 59 #[.int .i64 (atI r p x y), .int .i64 pl] W fun e w' => e = .returned (.bool (mineAt r p pl x y)) ∧ W = w') := Lib.hid (fun x y W => mine_at hk pl x y W)
  have HK := Lib.hid hk
  have HLI : Hid (∃ B, B = linePl r p pl c) := Lib.hid ⟨_, rfl⟩
  obtain ⟨x0, x1, x2, x3, x4⟩ := HX.out V (Below.refl _ _)
  obtain ⟨y0, y1, y2, y3, y4, y5, y6, y7, y8, y9, y10⟩ := HY.out V (Below.refl _ _)
  have wy2 := y2
  rw [hV] at wy2
  unfold RulesCells PlaceCells at hV wy2
  unfold RulesV PlaceV PlaceCells at HAT
  unfold RulesV PlaceV PlaceCells
  clear hp hk hB hY hX x0 x1 x2 x3 x4 y0 y1 y2 y3 y4 y5 y6 y7 y8 y9 y10
  go_enter Tryz.func42, Tryz.ntmps42
  go_wp2_with fail
  rw [← hV]
  clear hV wy2
  go_loopw [8, 9, 10, 11, 12, 13, 14, 17, 22, 25] (fun _ _ _ _ _ _ _ i _ _ wr => ∃ n : Nat, (n : Int) ≤ r.height ∧ i = .int .i64 (n : Int) ∧ Hid (NoY r p pl c n) ∧ Hid (Below V.heap.size V wr)) (fun _ _ _ _ _ _ _ i _ _ _ => r.height.toNat - (intOf i).toNat)
  case atStart => exact ⟨0, by omega, rfl, Lib.hid (fun y hy => by omega), Lib.hid (Below.refl _ _)⟩
  case round =>
    obtain ⟨yn, hyn, rfl, hnoY, hbelY⟩ := hrel
    by_cases hylt : (yn : Int) < r.height
    · have hdy : decide ((yn : Int) < r.height) = true := by simpa using hylt
      obtain ⟨y0, y1, y2, y3, y4, y5, y6, y7, y8, y9, y10⟩ := HY.out _ hbelY.out
      go_wp2_with fail
      clear y0 y1 y2 y3 y4 y5 y6 y7 y8 y9 y10
      go_loopw [8, 10, 11, 12, 13, 14, 22, 25] (fun _ _ _ _ _ _ i _ wr => ∃ n : Nat, (n : Int) ≤ r.width ∧ i = .int .i64 (n : Int) ∧ Hid (NoX r p pl c (yn : Int) n) ∧ Hid (Below V.heap.size V wr)) (fun _ _ _ _ _ _ i _ _ => r.width.toNat - (intOf i).toNat)
      case atStart => exact ⟨0, by omega, rfl, Lib.hid (fun x hx => by omega), hbelY⟩
      case round =>
        clear hbelY
        obtain ⟨xn, hxn, rfl, hnoX, hbelX⟩ := hrel
        by_cases hxlt : (xn : Int) < r.width
        · have hdx : decide ((xn : Int) < r.width) = true := by simpa using hxlt
          go_wp2_with fail
          go_loopw [8, 11, 12, 13, 14, 25] (fun _ _ _ _ _ i wr => ∃ k : Nat, k ≤ 4 ∧ i = .int .i64 (k : Int) ∧ Hid (NoD r p pl c (xn : Int) (yn : Int) k) ∧ Hid (Below V.heap.size V wr)) (fun _ _ _ _ _ i _ => 4 - (intOf i).toNat)
          case atStart => exact ⟨0, by omega, rfl, Lib.hid (fun d hd => by simp at hd), hbelX⟩
          case round =>
            clear hbelX
            obtain ⟨k, hk4, rfl, hnoD, hbelD⟩ := hrel
            by_cases hklt : k < 4
            · have hdk : decide ((k : Int) < 4) = true := by simp; omega
              obtain ⟨dx, dy, hd, ⟨dx0, dx1⟩, ⟨dy0, dy1⟩⟩ : ∃ dx dy : Int, lineDirs[k]? = some (dx, dy) ∧ (-1 ≤ dx ∧ dx ≤ 1) ∧ (-1 ≤ dy ∧ dy ≤ 1) := by
                obtain rfl | rfl | rfl | rfl : k = 0 ∨ k = 1 ∨ k = 2 ∨ k = 3 := by omega
                · exact ⟨-1, 0, rfl, by decide, by decide⟩
                · exact ⟨0, -1, rfl, by decide, by decide⟩
                · exact ⟨-1, -1, rfl, by decide, by decide⟩
                · exact ⟨1, -1, rfl, by decide, by decide⟩
              have HD := Lib.hid hd
              clear hd
              go_wp2_with fail
              go_cut [12, 13] from 28 to 35 (fun s12 s13 wx => s12 = .int .i64 dx ∧ s13 = .int .i64 dy ∧ Hid (Below V.heap.size V wx))
              case first =>
                have hd := HD.out
                obtain rfl | rfl | rfl | rfl : k = 0 ∨ k = 1 ∨ k = 2 ∨ k = 3 := by omega
                all_goals
                  simp only [lineDirs, List.getElem?_cons_zero, List.getElem?_cons_succ, Option.some.injEq, Prod.mk.injEq] at hd
                  obtain ⟨rfl, rfl⟩ := hd
                  go_region
                  all_goals
                    go_wp2_with fail
                    go_meet
                    exact ⟨rfl, rfl, Lib.hid (hbelD.out.trans ((((Below.refl _ _).alloc (Nat.le_refl _) _).alloc (by simp) _).drew.mono hbelD.out.size))⟩
              case rest =>
                clear hbelD
                obtain ⟨rfl, rfl, hbc⟩ := hcut
                go_wp2_with fail
                go_loopw [14] (fun v wr => ∃ n : Nat, n ≤ 8 ∧ v = .int .i64 (n : Int) ∧ Hid (alongB r p pl (xn : Int) (yn : Int) dx dy n = true) ∧ Hid (Below V.heap.size V wr)) (fun v _ => 9 - (intOf v).toNat)
                case atStart => exact ⟨0, by omega, rfl, Lib.hid (along_none _ _ _ _ _ _ _), hbc⟩
                case round =>
                  obtain ⟨n, hn8, rfl, hal, hbel⟩ := hrel
                  obtain ⟨A, hA⟩ : ∃ A, (n : Int) * dx = A := ⟨_, rfl⟩
                  obtain ⟨B, hBB⟩ : ∃ B, (n : Int) * dy = B := ⟨_, rfl⟩
                  have hA8 : -8 ≤ A ∧ A ≤ 8 := by
                    rw [← hA]
                    obtain rfl | rfl | rfl : dx = -1 ∨ dx = 0 ∨ dx = 1 := by omega
                    all_goals omega
                  have hB8 : -8 ≤ B ∧ B ≤ 8 := by
                    rw [← hBB]
                    obtain rfl | rfl | rfl : dy = -1 ∨ dy = 0 ∨ dy = 1 := by omega
                    all_goals omega
                  obtain ⟨a1, a2⟩ := hA8
                  obtain ⟨b1, b2⟩ := hB8
                  obtain ⟨X, hXe⟩ : ∃ X, (xn : Int) + A = X := ⟨_, rfl⟩
                  obtain ⟨Y, hYe⟩ : ∃ Y, (yn : Int) + B = Y := ⟨_, rfl⟩
                  have HXY : Hid ((xn : Int) + (n : Int) * dx = X ∧ (yn : Int) + (n : Int) * dy = Y) := Lib.hid ⟨by rw [hA, hXe], by rw [hBB, hYe]⟩
                  have p1 : IntKind.i64.wrap ((n : Int) * dx) = A := by rw [hA]; exact IntWalk.i64_in _ (by omega)
                  have p2 : IntKind.i64.wrap ((xn : Int) + A) = X := by rw [hXe]; exact IntWalk.i64_in _ (by omega)
                  have p3 : IntKind.i64.wrap ((n : Int) * dy) = B := by rw [hBB]; exact IntWalk.i64_in _ (by omega)
                  have p4 : IntKind.i64.wrap ((yn : Int) + B) = Y := by rw [hYe]; exact IntWalk.i64_in _ (by omega)
                  have HA := Lib.hid (HAT.out X Y wr hbel.out)
                  obtain ⟨b, hb⟩ : ∃ b, mineAt r p pl X Y = b := ⟨_, rfl⟩
                  have HM := Lib.hid (HMI.out X Y)
                  rw [hb] at HM
                  have HMB : Hid (mineAt r p pl ((xn : Int) + (n : Int) * dx) ((yn : Int) + (n : Int) * dy) = b) := Lib.hid (by rw [HXY.out.1, HXY.out.2]; exact hb)
                  generalize atI r p X Y = av at HA HM
                  obtain ⟨x0, x1, x2, x3, x4⟩ := HX.out _ hbel.out
                  obtain ⟨y0, y1, y2, y3, y4, y5, y6, y7, y8, y9, y10⟩ := HY.out _ hbel.out
                  clear hA hBB hXe hYe hb
                  go_wp2_with fail
                  go_at_call 60; refine HA.out.mono ?_; rintro e w2 ⟨rfl, hb2⟩
                  have HB2 := Lib.hid (hbel.out.trans (hb2.mono hbel.out.size))
                  clear hb2 hbel HA x0 x1 x2 x3 x4 y0 y1 y2 y3 y4 y5 y6 y7 y8 y9 y10 p1 p2 p3 p4
                  go_wp2_with fail
                  go_at_call 59; refine (HM.out _).mono ?_; rintro e w3 ⟨rfl, rfl⟩
                  cases b with
                  | true =>
                    have KA : Hid (alongB r p pl (xn : Int) (yn : Int) dx dy (n + 1) = true) := Lib.hid (along_more hal.out HMB.out)
                    have h9 : n + 1 ≤ 8 := along_eight HK.out HD.out KA.out
                    go_wp2_with fail
                    go_roundw
                    case rel => exact ⟨n + 1, by omega, by go_num, KA, HB2⟩
                    case measure => simp [intOf]; omega
                  | false =>
                    by_cases hnc : c ≤ n
                    · have hd1 : decide ((n : Int) ≥ (c : Int)) = true := by simp; omega
                      have hd2 : decide (c ≤ n) = true := by simp; omega
                      have KL : Hid (true = linePl r p pl c) := Lib.hid (line_found HK.out hc HD.out (along_less hal.out hnc)).symm
                      have HBE := Lib.hid (HB.out.trans (HB2.out.mono HB.out.size))
                      go_wp2_with fail
                      go_ret
                      exact ⟨ret_bool KL.out, HBE.out⟩
                    · have hd1 : decide ((n : Int) ≥ (c : Int)) = false := by simp; omega
                      have hd2 : decide (c ≤ n) = false := by simp; omega
                      have KD : Hid (NoD r p pl c (xn : Int) (yn : Int) (k + 1)) := Lib.hid (noD_succ hnoD.out HD.out (along_stop HMB.out (by omega)))
                      go_wp2_with fail
                      go_roundw
                      case rel => first | exact ⟨k + 1, by omega, by go_num, KD, HB2⟩ | ((repeat apply Exists.intro); exact ⟨⟨k + 1, by omega, by go_num, KD, HB2⟩, rfl⟩)
                      case measure => simp [intOf]; omega
            · obtain rfl : k = 4 := by omega
              have KX : Hid (NoX r p pl c (yn : Int) (xn + 1)) := Lib.hid (noX_succ hnoX.out hnoD.out)
              go_wp2_with fail
              go_roundw
              case rel => first | exact ⟨xn + 1, by omega, by go_num, KX, hbelD⟩ | ((repeat apply Exists.intro); exact ⟨⟨xn + 1, by omega, by go_num, KX, hbelD⟩, rfl⟩)
              case measure => simp [intOf]; omega
        · have hxe : xn = r.width.toNat := by omega
          have KY : Hid (NoY r p pl c (yn + 1)) := Lib.hid (noY_succ hnoY.out (by rw [← hxe]; exact hnoX.out))
          have hdx : decide ((xn : Int) < r.width) = false := by simpa using hxlt
          clear hxe
          go_wp2_with fail
          go_roundw
          case rel => first | exact ⟨yn + 1, by omega, by go_num, KY, hbelX⟩ | ((repeat apply Exists.intro); exact ⟨⟨yn + 1, by omega, by go_num, KY, hbelX⟩, rfl⟩)
          case measure => simp [intOf]; omega
    · have hye : yn = r.height.toNat := by omega
      have KL : Hid (false = linePl r p pl c) := Lib.hid (noY_all HK.out hc (by rw [← hye]; exact hnoY.out)).symm
      have hdy : decide ((yn : Int) < r.height) = false := by simpa using hylt
      have HBE := Lib.hid (HB.out.trans (hbelY.out.mono HB.out.size))
      clear hye
      go_wp2_with fail
      go_ret
      exact ⟨ret_bool KL.out, HBE.out⟩
end Go.Proofs.YtdhhdkbnlddnbaaGreatDoor
