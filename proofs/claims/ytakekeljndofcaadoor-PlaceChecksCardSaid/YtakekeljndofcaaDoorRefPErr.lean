/- The reference's PlaceError: what is wrong with a position; its SameInts and SamePlace at equal positions. -/
import Derived.Test.YtakekeljndofcaaDoorRefRules
import Derived.Test.YtakekeljndofcaaDoorPlc
import Derived.Test.YtakekeljndofcaaDoorPFill
set_option maxRecDepth 100000
namespace Go.Proofs.YtakekeljndofcaaDoor
open Go.ChangeShapes Go.WideShapes Go.ChangeAt Go.RowKit

theorem all_take {p : Int → Bool} {l : List Int} {k : Nat} {x : Int} (h : l[k]? = some x) : (l.take (k + 1)).all p = ((l.take k).all p && p x) := by
  rw [List.take_add_one, h]; simp
set_option maxHeartbeats 4000000 in
theorem placeErr_form (r : RulesD) (p : PlaceD) (vp vs ve vc v0 v1 : Value) (w : World) (hr : RulesIn w r vp vs ve) (hf : LettersFit r.pieces) (hp : PlaceIn w p vc v0 v1) (h : rulesE r ≠ 0 ∨ formB r p = false) :
    Calls Tryd.prog 8 #[RulesV r vp vs ve, PlaceV p vc v0 v1] w (BelPost (.int .i64 (placeE r p)) w) := by
  obtain ⟨c, hc⟩ : ∃ c : Int, c = rulesE r := ⟨_, rfl⟩
  have HRE : Hid (∀ W, Below w.heap.size w W → Calls Tryd.prog 10 #[RulesV r vp vs ve] W (BelPost (.int .i64 c) W)) := Lib.hid (fun W h => by rw [hc]; exact rulesError_any r vp vs ve W (hr.below h (Nat.le_refl _)) hf)
  obtain ⟨n, hn⟩ : ∃ n : Nat, n = r.pieces.length := ⟨_, rfl⟩
  obtain ⟨m, hm⟩ : ∃ m : Nat, m = p.cells.length := ⟨_, rfl⟩
  obtain ⟨k0, hk0⟩ : ∃ m : Nat, m = p.h0.length := ⟨_, rfl⟩
  obtain ⟨k1, hk1⟩ : ∃ m : Nat, m = p.h1.length := ⟨_, rfl⟩
  obtain ⟨ap, cp, rfl, _, _⟩ := hr.1.1.shape hn
  obtain ⟨ca, cc, rfl, _, _⟩ := hp.c.shape hm
  obtain ⟨a0, c0, rfl, _, _⟩ := hp.a.shape hk0
  obtain ⟨a1, c1, rfl, _, _⟩ := hp.b.shape hk1
  have hB : Below w.heap.size w ((w.alloc (.cells (RulesCells r (.slice ap n cp) vs ve) 26)).alloc (.cells (PlaceCells p (.slice ca m cc) (.slice a0 k0 c0) (.slice a1 k1 c1)) 29)) := ((Below.refl _ _).alloc (Nat.le_refl _) _).alloc (by simp) _
  have HB : Hid _ := Lib.hid hB
  have hX : BoxP ((w.alloc (.cells (RulesCells r (.slice ap n cp) vs ve) 26)).alloc (.cells (PlaceCells p (.slice ca m cc) (.slice a0 k0 c0) (.slice a1 k1 c1)) 29)) (w.heap.size + 1) p (.slice ca m cc) (.slice a0 k0 c0) (.slice a1 k1 c1) := by
    have h := boxP_new (w.alloc (.cells (RulesCells r (.slice ap n cp) vs ve) 26)) p (.slice ca m cc) (.slice a0 k0 c0) (.slice a1 k1 c1) 29
    rwa [World.size_alloc] at h
  have HX : Hid _ := Lib.hid hX
  have HY : Hid (BoxR ((w.alloc (.cells (RulesCells r (.slice ap n cp) vs ve) 26)).alloc (.cells (PlaceCells p (.slice ca m cc) (.slice a0 k0 c0) (.slice a1 k1 c1)) 29)) w.heap.size r (.slice ap n cp) vs ve) :=
    Lib.hid ((boxR_new w r (.slice ap n cp) vs ve 26).below ((Below.refl _ _).alloc (Nat.le_refl _) _) (Nat.le_refl _))
  have hn6 : n ≤ 9223372036854775807 := by rw [hn]; exact hr.1.1.fit
  have hm6 : m ≤ 9223372036854775807 := by rw [hm]; exact hp.c.fit
  have hk06 : k0 ≤ 9223372036854775807 := by rw [hk0]; exact hp.a.fit
  have hk16 : k1 ≤ 9223372036854775807 := by rw [hk1]; exact hp.b.fit
  by_cases hz : c = 0
  · have hz0 : rulesE r = 0 := by rw [← hc]; exact hz
    have hff : formB r p = false := h.resolve_left (fun h => h hz0)
    obtain ⟨A, hA⟩ : ∃ A : Int, A = r.width * r.height := ⟨_, rfl⟩
    obtain ⟨_, hw, hh, _⟩ := rulesE_ok hz0
    rw [inB_iff] at hw hh
    have hA1 : 1 ≤ A := by rw [hA]; have := Int.mul_le_mul hw.1 hh.1 (by omega) (by omega); simpa using this
    have hA2 : A ≤ 64 := by rw [hA]; have := Int.mul_le_mul hw.2 hh.2 (by omega) (by omega); simpa using this
    have K : Hid ((3 : Int) = placeE r p) := Lib.hid (placeE_form hz0 hff).symm
    have hmul : r.width * r.height = A := hA.symm
    rw [formB, ← hm, ← hk0, ← hk1, ← hn, ← hA] at hff
    obtain ⟨hw1, hw2⟩ := hw
    obtain ⟨hh1, hh2⟩ := hh
    subst hz
    unfold RulesCells PlaceCells at HB HX HY
    unfold RulesV at HRE ⊢
    unfold PlaceV PlaceCells
    clear hr hp hn hm hk0 hk1 hA hB hX h hf hc hz0
    go_enter Tryd.func8, Tryd.ntmps8
    go_wp2_with fail
    go_at_call 10; refine (HRE.out _ HB.out).mono ?_; rintro e w1 ⟨rfl, hb⟩
    have HB1 := Lib.hid (HB.out.trans (hb.mono HB.out.size))
    obtain ⟨x0, x1, x2, x3, x4⟩ := HX.out.below hb (Nat.le_refl _)
    obtain ⟨y0, y1, y2, y3, y4, y5, y6, y7, y8, y9, y10⟩ := HY.out.below hb (Nat.le_refl _)
    clear hb HB HX HY HRE
    by_cases h1 : (m : Int) = A
    · have e1 : ((m : Int) != A) = false := by simpa using h1
      by_cases h2 : k0 = n
      · have e2 : ((k0 : Int) != (n : Int)) = false := by rw [h2]; simp
        have h3 : ¬ k1 = n := fun h3 => by simp [h1, h2, h3] at hff
        have e3 : ((k1 : Int) != (n : Int)) = true := by simp; omega
        clear h1 h2 h3 hff
        go_wp2_with fail
        go_ret
        exact ⟨ret_i64 K.out, HB1.out⟩
      · have e2 : ((k0 : Int) != (n : Int)) = true := by simp; omega
        clear h1 h2 hff
        go_wp2_with fail
        go_ret
        exact ⟨ret_i64 K.out, HB1.out⟩
    · have e1 : ((m : Int) != A) = true := by simpa using h1
      clear h1 hff
      go_wp2_with fail
      go_ret
      exact ⟨ret_i64 K.out, HB1.out⟩
  · have K : Hid (c = placeE r p) := Lib.hid (by rw [placeE_rules (by rw [← hc]; exact hz), hc])
    have hne : (c != 0) = true := by simpa using hz
    unfold RulesCells PlaceCells at HB HX HY
    unfold RulesV at HRE ⊢
    unfold PlaceV PlaceCells
    clear hr hp hn hm hk0 hk1 hB hX h hf hc hz
    go_enter Tryd.func8, Tryd.ntmps8
    go_wp2_with fail
    go_at_call 10; refine (HRE.out _ HB.out).mono ?_; rintro e w1 ⟨rfl, hb⟩
    have HB1 := Lib.hid (HB.out.trans (hb.mono HB.out.size))
    clear hb HB HX HY HRE
    go_wp2_with fail
    go_ret
    exact ⟨ret_i64 K.out, HB1.out⟩
/-! ### The numbers -/
theorem idx_two0 (a b : Option Addr) (n c m d : Nat) : ∀ w, Sem.run Tryd.prog (Instr.index 27 (.agg #[.slice a n c, .slice b m d]) (.int .i64 0)) w = .ok (.slice a n c) w := fun _ => by kernel_rfl
theorem idx_two1 (a b : Option Addr) (n c m d : Nat) : ∀ w, Sem.run Tryd.prog (Instr.index 27 (.agg #[.slice a n c, .slice b m d]) (.int .i64 1)) w = .ok (.slice b m d) w := fun _ => by kernel_rfl
set_option maxHeartbeats 16000000 in
theorem placeErr_num (r : RulesD) (p : PlaceD) (vp vs ve vc v0 v1 : Value) (w : World) (hr : RulesIn w r vp vs ve) (hf : LettersFit r.pieces) (hp : PlaceIn w p vc v0 v1) (hz : rulesE r = 0) (hff : formB r p = true) :
    Calls Tryd.prog 8 #[RulesV r vp vs ve, PlaceV p vc v0 v1] w (BelPost (.int .i64 (placeE r p)) w) := by
  have HRE : Hid (∀ W, Below w.heap.size w W → Calls Tryd.prog 10 #[RulesV r vp vs ve] W (BelPost (.int .i64 0) W)) := Lib.hid (fun W h => by have := rulesError_any r vp vs ve W (hr.below h (Nat.le_refl _)) hf; rwa [hz] at this)
  have HPE : Hid (placeE r p = if rangeB r p = false then 4 else 0) := Lib.hid (by rw [placeE, if_neg (by simpa using hz), if_neg (by simp [hff])])
  simp only [formB, Bool.and_eq_true, decide_eq_true_eq] at hff
  obtain ⟨f0, f1, f2⟩ := hff
  obtain ⟨_, hw, hh, hps, _⟩ := rulesE_ok hz
  rw [inB_iff] at hw hh
  obtain ⟨n, hn⟩ : ∃ n : Nat, n = r.pieces.length := ⟨_, rfl⟩
  obtain ⟨m, hm⟩ : ∃ m : Nat, m = p.cells.length := ⟨_, rfl⟩
  have hn6 : n ≤ 6 := by rw [hn]; exact (piecesE_ok hps).2
  have hmA : (m : Int) = r.width * r.height := by rw [hm]; exact f0
  have hA2 : r.width * r.height ≤ 64 := by have := Int.mul_le_mul hw.2 hh.2 (by omega) (by omega); simpa using this
  have hm64 : m ≤ 64 := by omega
  have hmul : r.width * r.height = (m : Int) := hmA.symm
  have hl0 : n = p.h0.length := by rw [hn, f1]
  have hl1 : n = p.h1.length := by rw [hn, f2]
  obtain ⟨ap, cp, rfl, _, _⟩ := hr.1.1.shape hn
  obtain ⟨ac, cc, rfl, hcp, hac⟩ := hp.c.shape hm
  obtain ⟨a0, c0', rfl, hcp0, ha0⟩ := hp.a.shape hl0
  obtain ⟨a1, c1', rfl, hcp1, ha1⟩ := hp.b.shape hl1
  have hgen : ∀ {a : Option Addr} {N : Nat} {xs : List Int} (hat : ∀ j, j < N → ∃ g off x, a = some ⟨g, off, none⟩ ∧ xs[j]? = some x ∧ IntAt w g (off + j * 1) x), ∀ k, k < N → ∃ g off x, a = some ⟨g, off, none⟩ ∧ xs[k]? = some x ∧ ∀ V, Below w.heap.size w V → V.cell? ⟨g, off + k, none⟩ = some (.int .i64 x) := fun hat k hk => by
    obtain ⟨g, off, x, e, hx, hq⟩ := hat k hk
    refine ⟨g, off, x, e, hx, fun V hV => ?_⟩
    have := cell_keeps hV (Nat.le_refl _) hq
    rwa [Nat.mul_one] at this
  have HAC := Lib.hid (hgen hac)
  have HA0 := Lib.hid (hgen ha0)
  have HA1 := Lib.hid (hgen ha1)
  have HLC := Lib.hid hm.symm
  have HL0 := Lib.hid hl0.symm
  have HL1 := Lib.hid hl1.symm
  obtain ⟨tq, htq⟩ : ∃ t, t = (inN 1 p.turn && inN 200 p.quiet) := ⟨_, rfl⟩
  obtain ⟨ca, hca⟩ : ∃ t, t = p.cells.all (inN (2 * (n : Int))) := ⟨_, rfl⟩
  obtain ⟨h0, hh0⟩ : ∃ t, t = p.h0.all (inN 1000) := ⟨_, rfl⟩
  obtain ⟨h1, hh1⟩ : ∃ t, t = p.h1.all (inN 1000) := ⟨_, rfl⟩
  have HRG : Hid (rangeB r p = (((tq && ca) && h0) && h1)) := Lib.hid (by
    rw [rangeB, ← hn, ← hca, ← hh0, ← hh1, htq]
    show (ca && (h0 && (h1 && (inN 1 p.turn && inN 200 p.quiet)))) = _
    cases ca <;> cases h0 <;> cases h1 <;> simp)
  have HCA := Lib.hid hca.symm
  have HH0 := Lib.hid hh0.symm
  have HH1 := Lib.hid hh1.symm
  have HTQ0 := Lib.hid htq
  have hX : BoxP ((w.alloc (.cells (RulesCells r (.slice ap n cp) vs ve) 26)).alloc (.cells (PlaceCells p (.slice ac m cc) (.slice a0 n c0') (.slice a1 n c1')) 29)) (w.heap.size + 1) p (.slice ac m cc) (.slice a0 n c0') (.slice a1 n c1') := by
    have h := boxP_new (w.alloc (.cells (RulesCells r (.slice ap n cp) vs ve) 26)) p (.slice ac m cc) (.slice a0 n c0') (.slice a1 n c1') 29
    rwa [World.size_alloc] at h
  obtain ⟨W1, hW1⟩ : ∃ W1, W1 = (w.alloc (.cells (RulesCells r (.slice ap n cp) vs ve) 26)).alloc (.cells (PlaceCells p (.slice ac m cc) (.slice a0 n c0') (.slice a1 n c1')) 29) := ⟨_, rfl⟩
  have HB : Hid (Below w.heap.size w W1) := Lib.hid (by rw [hW1]; exact ((Below.refl _ _).alloc (Nat.le_refl _) _).alloc (by simp) _)
  rw [← hW1] at hX
  have HX : Hid _ := Lib.hid hX
  have HY : Hid (BoxR W1 w.heap.size r (.slice ap n cp) vs ve) := Lib.hid (by rw [hW1]; exact (boxR_new w r (.slice ap n cp) vs ve 26).below ((Below.refl _ _).alloc (Nat.le_refl _) _) (Nat.le_refl _))
  have HW1 : Hid ((w.alloc (.cells #[.string r.name, .int .i64 r.width, .int .i64 r.height, .slice ap n cp, vs, .bool r.falls, .bool r.keeps, ve, .int .i64 r.blocked, .int .i64 r.quiet, .int .i64 r.rep] 26)).alloc (.cells #[.slice ac m cc, .slice a0 n c0', .slice a1 n c1', .int .i64 p.turn, .int .i64 p.quiet] 29) = W1) := Lib.hid (by rw [hW1]; rfl)
  obtain ⟨hw1, hw2⟩ := hw
  obtain ⟨hh1', hh2'⟩ := hh
  unfold RulesV at HRE ⊢
  unfold PlaceV PlaceCells
  clear hr hp hn hm hX hf hz f0 f1 f2 hps hac ha0 ha1 hl0 hl1 htq hca hh0 hh1 hA2 hmA hW1 hgen
  go_enter Tryd.func8, Tryd.ntmps8
  go_wp2_with fail
  rw [HW1.out]
  clear HW1
  go_at_call 10; refine (HRE.out _ HB.out).mono ?_; rintro e w1 ⟨rfl, hb⟩
  have HB1 := Lib.hid (HB.out.trans (hb.mono HB.out.size))
  have hxx := HX.out.below hb (Nat.le_refl _)
  have hyy := HY.out.below hb (Nat.le_refl _)
  obtain ⟨x0, x1, x2, x3, x4⟩ := hxx
  obtain ⟨y0, y1, y2, y3, y4, y5, y6, y7, y8, y9, y10⟩ := hyy
  clear hb HB HX HY HRE y0 y4 y5 y6 y7 y8 y9 y10
  obtain ⟨b3, hb3⟩ : ∃ b, b = inN 1 p.turn := ⟨_, rfl⟩
  obtain ⟨b4, hb4⟩ : ∃ b, b = inN 200 p.quiet := ⟨_, rfl⟩
  rw [← hb3, ← hb4] at HTQ0
  have C3 : Hid (∀ W, Calls Tryd.prog 21 #[.int .i64 p.turn, .int .i64 0, .int .i64 1] W fun e w' => e = .returned (.bool b3) ∧ W = w') := Lib.hid (fun W => by rw [hb3]; exact turned (in_any _ _ _ _))
  have C4 : Hid (∀ W, Calls Tryd.prog 21 #[.int .i64 p.quiet, .int .i64 0, .int .i64 200] W fun e w' => e = .returned (.bool b4) ∧ W = w') := Lib.hid (fun W => by rw [hb4]; exact turned (in_any _ _ _ _))
  clear hb3 hb4
  go_wp2_with fail
  go_at_call 21; refine (C3.out _).mono ?_; rintro e w' ⟨rfl, rfl⟩
  cases b3
  · have HTQ : Hid (false = tq) := Lib.hid (by rw [HTQ0.out]; rfl)
    clear HTQ0
    go_wp2_with fail
    go_loopw [7, 9, 58] (fun v _ j V => ∃ (k : Nat) (T : Bool), k ≤ m ∧ j = .int .i64 (k : Int) ∧ v = .bool T ∧ Hid (T = (tq && (p.cells.take k).all (inN (2 * (n : Int))))) ∧ w1 = V) (fun _ _ j _ => m - (intOf j).toNat)
    case atStart => exact ⟨0, _, by omega, rfl, rfl, Lib.hid (by rw [← HTQ.out]; simp), by first | rfl | trivial⟩
    case round =>
      obtain ⟨k, T, hk, rfl, rfl, hT, rfl⟩ := hrel
      by_cases hlt : k < m
      · obtain ⟨g, o, x, rfl, hx, hcx⟩ := HAC.out k hlt
        have c0 := hcx _ HB1.out
        have HXX := Lib.hid hx
        clear hx hcx
        cases T
        · go_wp2_with fail
          go_roundw
          case rel => exact ⟨k + 1, false, by omega, by go_num, rfl, Lib.hid (by rw [all_take HXX.out, ← Bool.and_assoc, ← hT.out]; rfl), by first | rfl | trivial⟩
          case measure => simp [intOf]; omega
        · obtain ⟨b, hb⟩ : ∃ b, b = inN (2 * (n : Int)) x := ⟨_, rfl⟩
          have HIN : Hid (∀ W, Calls Tryd.prog 21 #[.int .i64 x, .int .i64 0, .int .i64 (2 * (n : Int))] W fun e w' => e = .returned (.bool b) ∧ W = w') := Lib.hid (fun W => by rw [hb]; exact turned (in_any _ _ _ _))
          have HT1 : Hid (b = (tq && (p.cells.take (k + 1)).all (inN (2 * (n : Int))))) := Lib.hid (by rw [all_take HXX.out, ← Bool.and_assoc, ← hT.out, hb]; rfl)
          clear hb
          go_wp2_with fail
          go_at_call 21; refine (HIN.out _).mono ?_; rintro e w' ⟨rfl, rfl⟩
          go_wp2_with fail
          go_roundw
          case rel => exact ⟨k + 1, b, by omega, by go_num, rfl, HT1, by first | rfl | trivial⟩
          case measure => simp [intOf]; omega
      · obtain rfl : k = m := by omega
        have HTC : Hid (T = (tq && ca)) := Lib.hid (by rw [hT.out, List.take_of_length_le (by rw [HLC.out]; exact Nat.le_refl _), HCA.out])
        clear hT
        go_wp2_with fail
        go_loopw [7, 11, 72] (fun v _ j V => ∃ (i : Nat) (T : Bool), i ≤ 2 ∧ j = .int .i64 (i : Int) ∧ v = .bool T ∧ Hid (T = (if i = 0 then (tq && ca) else if i = 1 then ((tq && ca) && h0) else (((tq && ca) && h0) && h1))) ∧ w1 = V) (fun _ _ j _ => 2 - (intOf j).toNat)
        case atStart => exact ⟨0, T, by omega, rfl, rfl, HTC, by first | rfl | trivial⟩
        case round =>
          clear HTC
          obtain ⟨i, T, hi, rfl, rfl, hT, rfl⟩ := hrel
          obtain rfl | rfl | rfl : i = 0 ∨ i = 1 ∨ i = 2 := by omega
          · have hT : Hid (T = (tq && ca)) := hT
            have hix := idx_two0 a0 a1 n c0' n c1'
            go_wp2_with fail
            go_loopw [7, 13, 77] (fun v _ j V => ∃ (k : Nat) (T : Bool), k ≤ n ∧ j = .int .i64 (k : Int) ∧ v = .bool T ∧ Hid (T = ((tq && ca) && (p.h0.take k).all (inN 1000))) ∧ w1 = V) (fun _ _ j _ => n - (intOf j).toNat)
            case atStart => exact ⟨0, T, by omega, rfl, rfl, Lib.hid (by rw [hT.out]; simp), by first | rfl | trivial⟩
            case round =>
              clear hT
              obtain ⟨k, T, hk, rfl, rfl, hT, rfl⟩ := hrel
              by_cases hlt : k < n
              · obtain ⟨g, o, x, rfl, hx, hcx⟩ := HA0.out k hlt
                have c0 := hcx _ HB1.out
                have HXX := Lib.hid hx
                clear hx hcx
                cases T
                · go_wp2_with fail
                  go_roundw
                  case rel => exact ⟨k + 1, false, by omega, by go_num, rfl, Lib.hid (by rw [all_take HXX.out, ← Bool.and_assoc, ← hT.out]; rfl), by first | rfl | trivial⟩
                  case measure => simp [intOf]; omega
                · obtain ⟨b, hb⟩ : ∃ b, b = inN 1000 x := ⟨_, rfl⟩
                  have HIN : Hid (∀ W, Calls Tryd.prog 21 #[.int .i64 x, .int .i64 0, .int .i64 1000] W fun e w' => e = .returned (.bool b) ∧ W = w') := Lib.hid (fun W => by rw [hb]; exact turned (in_any _ _ _ _))
                  have HT1 : Hid (b = ((tq && ca) && (p.h0.take (k + 1)).all (inN 1000))) := Lib.hid (by rw [all_take HXX.out, ← Bool.and_assoc, ← hT.out, hb]; rfl)
                  clear hb
                  go_wp2_with fail
                  go_at_call 21; refine (HIN.out _).mono ?_; rintro e w' ⟨rfl, rfl⟩
                  go_wp2_with fail
                  go_roundw
                  case rel => exact ⟨k + 1, b, by omega, by go_num, rfl, HT1, by first | rfl | trivial⟩
                  case measure => simp [intOf]; omega
              · obtain rfl : k = n := by omega
                have HTE : Hid (T = ((tq && ca) && p.h0.all (inN 1000))) := Lib.hid (by rw [hT.out, List.take_of_length_le (by rw [HL0.out]; exact Nat.le_refl _)])
                clear hT
                go_wp2_with fail
                go_roundw
                case rel => exact ⟨1, T, by omega, by go_num, rfl, Lib.hid (by rw [HTE.out, HH0.out]; rfl), by first | rfl | trivial⟩
                case measure => simp [intOf]
          · have hT : Hid (T = ((tq && ca) && h0)) := hT
            have hix := idx_two1 a0 a1 n c0' n c1'
            go_wp2_with fail
            go_loopw [7, 13, 77] (fun v _ j V => ∃ (k : Nat) (T : Bool), k ≤ n ∧ j = .int .i64 (k : Int) ∧ v = .bool T ∧ Hid (T = (((tq && ca) && h0) && (p.h1.take k).all (inN 1000))) ∧ w1 = V) (fun _ _ j _ => n - (intOf j).toNat)
            case atStart => exact ⟨0, T, by omega, rfl, rfl, Lib.hid (by rw [hT.out]; simp), by first | rfl | trivial⟩
            case round =>
              clear hT
              obtain ⟨k, T, hk, rfl, rfl, hT, rfl⟩ := hrel
              by_cases hlt : k < n
              · obtain ⟨g, o, x, rfl, hx, hcx⟩ := HA1.out k hlt
                have c0 := hcx _ HB1.out
                have HXX := Lib.hid hx
                clear hx hcx
                cases T
                · go_wp2_with fail
                  go_roundw
                  case rel => exact ⟨k + 1, false, by omega, by go_num, rfl, Lib.hid (by rw [all_take HXX.out, ← Bool.and_assoc, ← hT.out]; rfl), by first | rfl | trivial⟩
                  case measure => simp [intOf]; omega
                · obtain ⟨b, hb⟩ : ∃ b, b = inN 1000 x := ⟨_, rfl⟩
                  have HIN : Hid (∀ W, Calls Tryd.prog 21 #[.int .i64 x, .int .i64 0, .int .i64 1000] W fun e w' => e = .returned (.bool b) ∧ W = w') := Lib.hid (fun W => by rw [hb]; exact turned (in_any _ _ _ _))
                  have HT1 : Hid (b = (((tq && ca) && h0) && (p.h1.take (k + 1)).all (inN 1000))) := Lib.hid (by rw [all_take HXX.out, ← Bool.and_assoc, ← hT.out, hb]; rfl)
                  clear hb
                  go_wp2_with fail
                  go_at_call 21; refine (HIN.out _).mono ?_; rintro e w' ⟨rfl, rfl⟩
                  go_wp2_with fail
                  go_roundw
                  case rel => exact ⟨k + 1, b, by omega, by go_num, rfl, HT1, by first | rfl | trivial⟩
                  case measure => simp [intOf]; omega
              · obtain rfl : k = n := by omega
                have HTE : Hid (T = (((tq && ca) && h0) && p.h1.all (inN 1000))) := Lib.hid (by rw [hT.out, List.take_of_length_le (by rw [HL1.out]; exact Nat.le_refl _)])
                clear hT
                go_wp2_with fail
                go_roundw
                case rel => exact ⟨2, T, by omega, by go_num, rfl, Lib.hid (by rw [HTE.out, HH1.out]; rfl), by first | rfl | trivial⟩
                case measure => simp [intOf]
          · have hT : Hid (T = (((tq && ca) && h0) && h1)) := hT
            cases T
            · have K : Hid ((4 : Int) = placeE r p) := Lib.hid (by rw [HPE.out, HRG.out, ← hT.out]; rfl)
              go_wp2_with fail
              go_ret
              exact ⟨ret_i64 K.out, HB1.out⟩
            · have K : Hid ((0 : Int) = placeE r p) := Lib.hid (by rw [HPE.out, HRG.out, ← hT.out]; rfl)
              go_wp2_with fail
              go_ret
              exact ⟨ret_i64 K.out, HB1.out⟩
  · go_wp2_with fail
    go_at_call 21; refine (C4.out _).mono ?_; rintro e w' ⟨rfl, rfl⟩
    have HTQ : Hid (b4 = tq) := Lib.hid (by rw [HTQ0.out]; cases b4 <;> rfl)
    clear HTQ0
    go_wp2_with fail
    go_loopw [7, 9, 58] (fun v _ j V => ∃ (k : Nat) (T : Bool), k ≤ m ∧ j = .int .i64 (k : Int) ∧ v = .bool T ∧ Hid (T = (tq && (p.cells.take k).all (inN (2 * (n : Int))))) ∧ w1 = V) (fun _ _ j _ => m - (intOf j).toNat)
    case atStart => exact ⟨0, _, by omega, rfl, rfl, Lib.hid (by rw [← HTQ.out]; simp), by first | rfl | trivial⟩
    case round =>
      obtain ⟨k, T, hk, rfl, rfl, hT, rfl⟩ := hrel
      by_cases hlt : k < m
      · obtain ⟨g, o, x, rfl, hx, hcx⟩ := HAC.out k hlt
        have c0 := hcx _ HB1.out
        have HXX := Lib.hid hx
        clear hx hcx
        cases T
        · go_wp2_with fail
          go_roundw
          case rel => exact ⟨k + 1, false, by omega, by go_num, rfl, Lib.hid (by rw [all_take HXX.out, ← Bool.and_assoc, ← hT.out]; rfl), by first | rfl | trivial⟩
          case measure => simp [intOf]; omega
        · obtain ⟨b, hb⟩ : ∃ b, b = inN (2 * (n : Int)) x := ⟨_, rfl⟩
          have HIN : Hid (∀ W, Calls Tryd.prog 21 #[.int .i64 x, .int .i64 0, .int .i64 (2 * (n : Int))] W fun e w' => e = .returned (.bool b) ∧ W = w') := Lib.hid (fun W => by rw [hb]; exact turned (in_any _ _ _ _))
          have HT1 : Hid (b = (tq && (p.cells.take (k + 1)).all (inN (2 * (n : Int))))) := Lib.hid (by rw [all_take HXX.out, ← Bool.and_assoc, ← hT.out, hb]; rfl)
          clear hb
          go_wp2_with fail
          go_at_call 21; refine (HIN.out _).mono ?_; rintro e w' ⟨rfl, rfl⟩
          go_wp2_with fail
          go_roundw
          case rel => exact ⟨k + 1, b, by omega, by go_num, rfl, HT1, by first | rfl | trivial⟩
          case measure => simp [intOf]; omega
      · obtain rfl : k = m := by omega
        have HTC : Hid (T = (tq && ca)) := Lib.hid (by rw [hT.out, List.take_of_length_le (by rw [HLC.out]; exact Nat.le_refl _), HCA.out])
        clear hT
        go_wp2_with fail
        go_loopw [7, 11, 72] (fun v _ j V => ∃ (i : Nat) (T : Bool), i ≤ 2 ∧ j = .int .i64 (i : Int) ∧ v = .bool T ∧ Hid (T = (if i = 0 then (tq && ca) else if i = 1 then ((tq && ca) && h0) else (((tq && ca) && h0) && h1))) ∧ w1 = V) (fun _ _ j _ => 2 - (intOf j).toNat)
        case atStart => exact ⟨0, T, by omega, rfl, rfl, HTC, by first | rfl | trivial⟩
        case round =>
          clear HTC
          obtain ⟨i, T, hi, rfl, rfl, hT, rfl⟩ := hrel
          obtain rfl | rfl | rfl : i = 0 ∨ i = 1 ∨ i = 2 := by omega
          · have hT : Hid (T = (tq && ca)) := hT
            have hix := idx_two0 a0 a1 n c0' n c1'
            go_wp2_with fail
            go_loopw [7, 13, 77] (fun v _ j V => ∃ (k : Nat) (T : Bool), k ≤ n ∧ j = .int .i64 (k : Int) ∧ v = .bool T ∧ Hid (T = ((tq && ca) && (p.h0.take k).all (inN 1000))) ∧ w1 = V) (fun _ _ j _ => n - (intOf j).toNat)
            case atStart => exact ⟨0, T, by omega, rfl, rfl, Lib.hid (by rw [hT.out]; simp), by first | rfl | trivial⟩
            case round =>
              clear hT
              obtain ⟨k, T, hk, rfl, rfl, hT, rfl⟩ := hrel
              by_cases hlt : k < n
              · obtain ⟨g, o, x, rfl, hx, hcx⟩ := HA0.out k hlt
                have c0 := hcx _ HB1.out
                have HXX := Lib.hid hx
                clear hx hcx
                cases T
                · go_wp2_with fail
                  go_roundw
                  case rel => exact ⟨k + 1, false, by omega, by go_num, rfl, Lib.hid (by rw [all_take HXX.out, ← Bool.and_assoc, ← hT.out]; rfl), by first | rfl | trivial⟩
                  case measure => simp [intOf]; omega
                · obtain ⟨b, hb⟩ : ∃ b, b = inN 1000 x := ⟨_, rfl⟩
                  have HIN : Hid (∀ W, Calls Tryd.prog 21 #[.int .i64 x, .int .i64 0, .int .i64 1000] W fun e w' => e = .returned (.bool b) ∧ W = w') := Lib.hid (fun W => by rw [hb]; exact turned (in_any _ _ _ _))
                  have HT1 : Hid (b = ((tq && ca) && (p.h0.take (k + 1)).all (inN 1000))) := Lib.hid (by rw [all_take HXX.out, ← Bool.and_assoc, ← hT.out, hb]; rfl)
                  clear hb
                  go_wp2_with fail
                  go_at_call 21; refine (HIN.out _).mono ?_; rintro e w' ⟨rfl, rfl⟩
                  go_wp2_with fail
                  go_roundw
                  case rel => exact ⟨k + 1, b, by omega, by go_num, rfl, HT1, by first | rfl | trivial⟩
                  case measure => simp [intOf]; omega
              · obtain rfl : k = n := by omega
                have HTE : Hid (T = ((tq && ca) && p.h0.all (inN 1000))) := Lib.hid (by rw [hT.out, List.take_of_length_le (by rw [HL0.out]; exact Nat.le_refl _)])
                clear hT
                go_wp2_with fail
                go_roundw
                case rel => exact ⟨1, T, by omega, by go_num, rfl, Lib.hid (by rw [HTE.out, HH0.out]; rfl), by first | rfl | trivial⟩
                case measure => simp [intOf]
          · have hT : Hid (T = ((tq && ca) && h0)) := hT
            have hix := idx_two1 a0 a1 n c0' n c1'
            go_wp2_with fail
            go_loopw [7, 13, 77] (fun v _ j V => ∃ (k : Nat) (T : Bool), k ≤ n ∧ j = .int .i64 (k : Int) ∧ v = .bool T ∧ Hid (T = (((tq && ca) && h0) && (p.h1.take k).all (inN 1000))) ∧ w1 = V) (fun _ _ j _ => n - (intOf j).toNat)
            case atStart => exact ⟨0, T, by omega, rfl, rfl, Lib.hid (by rw [hT.out]; simp), by first | rfl | trivial⟩
            case round =>
              clear hT
              obtain ⟨k, T, hk, rfl, rfl, hT, rfl⟩ := hrel
              by_cases hlt : k < n
              · obtain ⟨g, o, x, rfl, hx, hcx⟩ := HA1.out k hlt
                have c0 := hcx _ HB1.out
                have HXX := Lib.hid hx
                clear hx hcx
                cases T
                · go_wp2_with fail
                  go_roundw
                  case rel => exact ⟨k + 1, false, by omega, by go_num, rfl, Lib.hid (by rw [all_take HXX.out, ← Bool.and_assoc, ← hT.out]; rfl), by first | rfl | trivial⟩
                  case measure => simp [intOf]; omega
                · obtain ⟨b, hb⟩ : ∃ b, b = inN 1000 x := ⟨_, rfl⟩
                  have HIN : Hid (∀ W, Calls Tryd.prog 21 #[.int .i64 x, .int .i64 0, .int .i64 1000] W fun e w' => e = .returned (.bool b) ∧ W = w') := Lib.hid (fun W => by rw [hb]; exact turned (in_any _ _ _ _))
                  have HT1 : Hid (b = (((tq && ca) && h0) && (p.h1.take (k + 1)).all (inN 1000))) := Lib.hid (by rw [all_take HXX.out, ← Bool.and_assoc, ← hT.out, hb]; rfl)
                  clear hb
                  go_wp2_with fail
                  go_at_call 21; refine (HIN.out _).mono ?_; rintro e w' ⟨rfl, rfl⟩
                  go_wp2_with fail
                  go_roundw
                  case rel => exact ⟨k + 1, b, by omega, by go_num, rfl, HT1, by first | rfl | trivial⟩
                  case measure => simp [intOf]; omega
              · obtain rfl : k = n := by omega
                have HTE : Hid (T = (((tq && ca) && h0) && p.h1.all (inN 1000))) := Lib.hid (by rw [hT.out, List.take_of_length_le (by rw [HL1.out]; exact Nat.le_refl _)])
                clear hT
                go_wp2_with fail
                go_roundw
                case rel => exact ⟨2, T, by omega, by go_num, rfl, Lib.hid (by rw [HTE.out, HH1.out]; rfl), by first | rfl | trivial⟩
                case measure => simp [intOf]
          · have hT : Hid (T = (((tq && ca) && h0) && h1)) := hT
            cases T
            · have K : Hid ((4 : Int) = placeE r p) := Lib.hid (by rw [HPE.out, HRG.out, ← hT.out]; rfl)
              go_wp2_with fail
              go_ret
              exact ⟨ret_i64 K.out, HB1.out⟩
            · have K : Hid ((0 : Int) = placeE r p) := Lib.hid (by rw [HPE.out, HRG.out, ← hT.out]; rfl)
              go_wp2_with fail
              go_ret
              exact ⟨ret_i64 K.out, HB1.out⟩

theorem placeErr_any (r : RulesD) (p : PlaceD) (vp vs ve vc v0 v1 : Value) (w : World) (hr : RulesIn w r vp vs ve) (hf : LettersFit r.pieces) (hp : PlaceIn w p vc v0 v1) :
    Calls Tryd.prog 8 #[RulesV r vp vs ve, PlaceV p vc v0 v1] w (BelPost (.int .i64 (placeE r p)) w) := by
  by_cases hz : rulesE r = 0
  · cases hff : formB r p
    · exact placeErr_form r p vp vs ve vc v0 v1 w hr hf hp (.inr hff)
    · exact placeErr_num r p vp vs ve vc v0 v1 w hr hf hp hz hff
  · exact placeErr_form r p vp vs ve vc v0 v1 w hr hf hp (.inl hz)
end Go.Proofs.YtakekeljndofcaaDoor
