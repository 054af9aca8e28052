/- BitsSets: the walk of the law. -/
import Derived.Test.YtffnnpjgfjkmjaaDoorCuts
import Derived.Test.YtffnnpjgfjkmjaaDoorArg
namespace Go.Proofs.YtffnnpjgfjkmjaaDoor
open Go.RowKit Go.Shelf

theorem in_yes (x lo hi : Int) (w : World) (h0 : lo ≤ x) (h1 : x ≤ hi) :
    Calls Tryd.prog 18 #[.int .i64 x, .int .i64 lo, .int .i64 hi] w fun e w' => e = .returned (.bool true) ∧ w' = w :=
  (in_any x lo hi w).mono fun _ _ h => ⟨by rw [h.1, decide_eq_true h0, decide_eq_true h1]; rfl, h.2⟩
theorem in_no (x lo hi : Int) (w : World) (h : ¬ (lo ≤ x ∧ x ≤ hi)) :
    Calls Tryd.prog 18 #[.int .i64 x, .int .i64 lo, .int .i64 hi] w fun e w' => e = .returned (.bool false) ∧ w' = w :=
  (in_any x lo hi w).mono fun _ _ g => ⟨by rw [g.1, ← Bool.decide_and, decide_eq_false h], g.2⟩
theorem of_09 (w : World) : Calls Tryd.prog 9 #[.slice (some ⟨w.heap.size, 0, none⟩) 2 2] (w.alloc (.cells #[.int .i64 0, .int .i64 9] 3)) fun e w' => e = .returned (.tuple #[.int .u64 513, .int .i64 0]) ∧ w.alloc (.cells #[.int .i64 0, .int .i64 9] 3) = w' := by
  have h := of_any [0, 9] _ _ (row_two w 0 9) (by simp)
  have e : ofGo [0, 9] 0#64 = (513#64, 0) := by decide +kernel
  rw [e] at h
  exact h
theorem first_512 (w : World) (hT : Tab w) : Calls Tryd.prog 17 #[.int .u64 512] w fun e w' => e = .returned (.tuple #[.int .i64 9, .int .i64 0]) ∧ Below w.heap.size w w' := by
  have h := first_any 512#64 w hT
  have e : firstV 512#64 = (9, 0) := by decide +kernel
  exact h.mono fun e1 w' ⟨h1, h2⟩ => ⟨by rw [h1, e], h2⟩
/-- The law's own marks of the squares met so far. -/
def metV (acc : BitVec 64) : List Value := (List.range 64).map fun s => .int .i64 (if acc.getLsbD s then 1 else 0)
theorem metV_at (acc : BitVec 64) (s : Nat) (hs : s < 64) : (metV acc)[s]? = some (.int .i64 (if acc.getLsbD s then 1 else 0)) := by simp [metV, hs]
theorem metV_zero : metV 0#64 = List.replicate 64 (.int .i64 0) := by
  apply List.ext_getElem?; intro i
  by_cases h : i < 64
  · rw [metV_at _ _ h, List.getElem?_replicate, if_pos h]; simp
  · rw [List.getElem?_eq_none (by simp [metV]; omega), List.getElem?_eq_none (by simp; omega)]
theorem metV_set (acc : BitVec 64) (s : Nat) (hs : s < 64) : (metV acc).set s (.int .i64 1) = metV (acc ||| bitW s) := by
  apply List.ext_getElem?; intro i
  by_cases h : i < 64
  · rw [metV_at _ _ h, BitVec.getLsbD_or, bitW_at _ _ hs, List.getElem?_set]
    by_cases e : i = s
    · subst e; simp [metV, hs]
    · rw [if_neg (fun h => e h.symm), metV_at _ _ h]; simp [e]
  · rw [List.getElem?_eq_none (by simp [metV]; omega), List.getElem?_eq_none (by simp [metV]; omega)]
theorem add_bitW (acc : BitVec 64) (s : Nat) (hs : s < 64) (h : acc.getLsbD s = false) : acc + bitW s = acc ||| bitW s := by
  rw [BitVec.add_eq_or_of_and_eq_zero _ _ (and_bitW_no acc s hs h)]
/-- What the law's first loop keeps: the set so far, and the error. -/
def SetsRel (zs : List Int) (k : Nat) (acc : BitVec 64) (e : Int) : Prop := (e = 0 → ofGo (zs.drop k) acc = ofGo zs 0#64) ∧ (e ≠ 0 → ofGo zs 0#64 = (0#64, e))
/-- The squares below k. -/
def sqTo (b : BitVec 64) (k : Nat) : List Nat := (List.range k).filter fun t => b.getLsbD t
theorem sqTo_succ (b : BitVec 64) (k : Nat) : sqTo b (k + 1) = if b.getLsbD k then sqTo b k ++ [k] else sqTo b k := by
  rw [sqTo, List.range_succ, List.filter_append, List.filter_cons]
  cases b.getLsbD k <;> simp [sqTo]
theorem sqTo_le (b : BitVec 64) (k : Nat) : (sqTo b k).length ≤ k := by
  have := List.length_filter_le (fun t => b.getLsbD t) (List.range k); simpa [sqTo] using this
theorem div_bit (b : BitVec 64) (k : Nat) : ((IntKind.u64.wrap ((b.toNat : Int) / ((2 ^ k : Nat) : Int))).tmod 2 == 1) = b.getLsbD k := by
  have e1 : (b.toNat : Int) / ((2 ^ k : Nat) : Int) = ((b.toNat / 2 ^ k : Nat) : Int) := by norm_cast
  have h1 : b.toNat / 2 ^ k < 2 ^ 64 := Nat.lt_of_le_of_lt (Nat.div_le_self _ _) b.isLt
  have e : (IntKind.u64.wrap ((b.toNat : Int) / ((2 ^ k : Nat) : Int))).tmod 2 = ((b.toNat / 2 ^ k % 2 : Nat) : Int) := by
    rw [e1, wrap_u64_mod, Int.tmod_eq_emod_of_nonneg (by omega)]; omega
  rw [e, ← BitVec.testBit_toNat, Nat.testBit_eq_decide_div_mod_eq]
  by_cases h : b.toNat / 2 ^ k % 2 = 1
  · simp [h]
  · have : b.toNat / 2 ^ k % 2 = 0 := by omega
    simp [this]

set_option maxRecDepth 100000 in
set_option maxHeartbeats 8000000 in
theorem sets_walk (zs : List Int) (a0 : Option Addr) (cap0 n : Nat) (b : BitVec 64) (w : World) (hT : Tab w) (hn : n = zs.length) (hr : Row w (.slice a0 n cap0) (vals zs)) (hb8 : n * 8 ≤ 140737488351232) :
    Calls Tryd.prog 5 #[.slice a0 n cap0, .int .u64 (b.toNat : Int)] w fun e w' => e = .returned (.bool true) ∧ Below w.heap.size w w' := by
  obtain ⟨i0, hi, hz0, hz1, hz2⟩ := info_parts Tryd.infoInt
  have HT : Hid (Tab w) := Lib.hid hT
  have HR : Hid _ := Lib.hid hr
  have HN : Hid _ := Lib.hid hn
  have h0lt : 0 < w.heap.size := hT.size
  have hnb : n ≤ 140737488355328 := by omega
  have HX : Hid (∀ k, k < n → ∃ g off, a0 = some ⟨g, off, none⟩ ∧ ∀ W, Below w.heap.size w W → W.cell? ⟨g, off + k, none⟩ = some (.int .i64 (zs[k]?.getD 0))) := Lib.hid (fun k hk => by
    rcases hr with ⟨e, _⟩ | ⟨g, off, cap, e, _, _, _, hcell⟩
    · have : zs = [] := by simpa [vals] using e
      rw [hn, this] at hk; simp at hk
    · cases e
      refine ⟨g, off, rfl, fun W hb => ?_⟩
      have h1 := hcell k _ (vals_at zs k (by omega))
      rw [← h1]
      exact hb.cell (p := ⟨g, off + k, none⟩) (World.block_lt_of_cell? _ _ h1))
  clear hT hr hn hb8
  go_enter Tryd.func5, Tryd.ntmps5
  go_wp2_with fail
  go_at_call 9; refine (of_09 w).mono ?_; rintro e w' ⟨rfl, rfl⟩
  have HB1 : Hid (Below w.heap.size w (w.alloc (.cells #[.int .i64 0, .int .i64 9] 3))) := Lib.hid ((Below.refl _ w).alloc (Nat.le_refl _) _)
  go_wp2_with fail
  go_at_call 6; refine (turned (count_513 _)).mono ?_; rintro e w' ⟨rfl, rfl⟩
  go_wp2_with fail
  go_at_call 8; refine (list_513 _ (HT.out.below HB1.out h0lt)).mono ?_; rintro e W1 ⟨v1, rfl, hr1, hB1⟩
  have HB2 : Hid (Below w.heap.size w W1) := Lib.hid (HB1.out.trans (hB1.mono HB1.out.size))
  have HR1 : Hid _ := Lib.hid hr1
  clear hB1 hr1 HB1
  go_wp2_with fail
  go_at_call 16
  refine (same_any [0, 9] [0, 9] v1 _ _ (HR1.out.below ((Below.refl W1.heap.size W1).alloc (Nat.le_refl _) _) (Nat.le_refl _)) (row_two W1 0 9) (by simp)).mono ?_
  rintro e W2 ⟨rfl, hB2⟩
  have HB3 : Hid (Below w.heap.size w W2) := Lib.hid ((HB2.out.alloc HB2.out.size _).trans (hB2.mono (by have := HB2.out.size; simp; omega)))
  clear hB2 HB2 HR1
  go_wp2_with fail
  go_at_call 17; refine (first_512 _ (HT.out.below HB3.out h0lt)).mono ?_; rintro e W3 ⟨rfl, hB3⟩
  have HB4 : Hid (Below w.heap.size w W3) := Lib.hid (HB3.out.trans (hB3.mono HB3.out.size))
  have hs3 : w.heap.size ≤ W3.heap.size := HB4.out.size
  clear hB3 HB3
  go_wp2_with (at_make; refine wpList_make_full _ rfl _ _ 25 rfl w.heap.size 3 i0 (.int .i64 0) 1 Tryd.underlying25 hi hz0 hz1 .i64 .i64 64 64 64 rfl rfl rfl rfl (by rw [hz2]; omega) (by decide) hs3 ?_; intro wm hownm hgrowm)
  have hown0 : wm.ownsRow w.heap.size 3 1 (.slice (some ⟨W3.heap.size, 0, none⟩) 64 64) 64 (metV 0#64) := by
    rw [metV_zero, ← toList_madeCells_one]; exact hownm
  have HBm : Hid (Below w.heap.size w wm) := Lib.hid (HB4.out.grown hgrowm hs3 (fun k e => by cases e))
  clear hownm hgrowm HB4
  go_loopw [10, 11, 54] (fun d s i wr => ∃ (k : Nat) (acc : BitVec 64) (e : Int), k ≤ n ∧ i = .int .i64 (k : Int) ∧ s = .int .u64 (acc.toNat : Int) ∧ d = .int .i64 e ∧ Hid (SetsRel zs k acc e) ∧ wr.ownsRow w.heap.size 3 1 (.slice (some ⟨W3.heap.size, 0, none⟩) 64 64) 64 (metV acc) ∧ Hid (Below w.heap.size w wr)) (fun _ _ i _ => n - (intOf i).toNat)
  case atStart => exact ⟨0, 0#64, 0, by omega, rfl, rfl, rfl, Lib.hid ⟨fun _ => rfl, fun h => absurd rfl h⟩, hown0, HBm⟩
  case round =>
    clear hown0 HBm
    obtain ⟨k, acc, e, hk, rfl, rfl, rfl, hrel, hown, hbel⟩ := hrel
    by_cases hlt : k < n
    · obtain ⟨g, off, rfl, hcell⟩ := HX.out k hlt
      have hc1 := hcell wr hbel.out
      obtain ⟨x, hx⟩ : ∃ x : Int, x = zs[k]?.getD 0 := ⟨_, rfl⟩
      rw [← hx] at hc1
      have hdrop : Hid (zs.drop k = x :: zs.drop (k + 1)) := Lib.hid (by
        have hk' : k < zs.length := by have := HN.out; omega
        rw [List.drop_eq_getElem_cons hk', hx]; simp [hk'])
      clear hx hcell
      by_cases he : e = 0
      · subst he
        by_cases hin : 0 ≤ x ∧ x ≤ 63
        · obtain ⟨s, rfl⟩ : ∃ s : Nat, x = (s : Int) := ⟨x.toNat, by omega⟩
          obtain ⟨hx0, hx1⟩ := hin
          have hs : s < 64 := by omega
          have hmc := hown.cellAt s (by omega)
          have hmf := hown.frozenAt s
          rw [metV_at _ _ hs] at hmc
          cases hbit : acc.getLsbD s
          · rw [hbit] at hmc
            simp only [Bool.false_eq_true, if_false] at hmc
            have hnext : Hid (SetsRel zs (k + 1) (acc ||| bitW s) 0) := Lib.hid ⟨fun _ => by
              rw [← hrel.out.1 rfl, hdrop.out, ofGo, if_pos (by omega), Int.toNat_natCast, hbit]; simp, fun h => absurd rfl h⟩
            have hsum : Hid (IntKind.u64.wrap ((acc.toNat : Int) + IntKind.u64.wrap (2 ^ s)) = ((acc ||| bitW s).toNat : Int)) := Lib.hid (by rw [bitW_int, b_add, add_bitW acc s hs hbit])
            have hst := (hown.stored s (.int .i64 1)).1
            rw [metV_set acc s hs] at hst
            have HST : Hid _ := Lib.hid hst
            clear hbit hst
            go_wp2_with (go_at_call 18; refine (turned (in_yes (s : Int) 0 63 _ hx0 hx1)).mono ?_; rintro e w' ⟨rfl, rfl⟩)
            go_roundw
            case rel => exact ⟨k + 1, acc ||| bitW s, 0, by omega, by go_num, by rw [hsum.out], rfl, hnext, HST.out, Lib.hid (hbel.out.setCell (p := ⟨W3.heap.size, s, none⟩) hs3 _)⟩
            case measure => simp [intOf]; omega
          · rw [hbit] at hmc
            simp only [if_true] at hmc
            have hnext : Hid (SetsRel zs (k + 1) acc 7) := Lib.hid ⟨fun h => absurd h (by decide), fun _ => by
              rw [← hrel.out.1 rfl, hdrop.out, ofGo, if_pos (by omega), Int.toNat_natCast, hbit]; simp⟩
            clear hbit
            go_wp2_with (go_at_call 18; refine (turned (in_yes (s : Int) 0 63 _ hx0 hx1)).mono ?_; rintro e w' ⟨rfl, rfl⟩)
            go_roundw
            case rel => exact ⟨k + 1, acc, 7, by omega, by go_num, rfl, rfl, hnext, hown, hbel⟩
            case measure => simp [intOf]; omega
        · have hnext : Hid (SetsRel zs (k + 1) acc 4) := Lib.hid ⟨fun h => absurd h (by decide), fun _ => by
            rw [← hrel.out.1 rfl, hdrop.out, ofGo, if_neg (by omega)]⟩
          have HI : Hid _ := Lib.hid hin
          clear hin
          go_wp2_with (go_at_call 18; refine (turned (in_no x 0 63 _ HI.out)).mono ?_; rintro e w' ⟨rfl, rfl⟩)
          go_roundw
          case rel => exact ⟨k + 1, acc, 4, by omega, by go_num, rfl, rfl, hnext, hown, hbel⟩
          case measure => simp [intOf]; omega
      · have hnext : Hid (SetsRel zs (k + 1) acc e) := Lib.hid ⟨fun h => absurd h he, hrel.out.2⟩
        have he0 : (e == 0) = false := by simpa using he
        clear he
        go_wp2
        go_roundw
        case rel => exact ⟨k + 1, acc, e, by omega, by go_num, rfl, rfl, hnext, hown, hbel⟩
        case measure => simp [intOf]; omega
    · obtain ⟨R, hR⟩ : ∃ R : BitVec 64, R = (ofGo zs 0#64).1 := ⟨_, rfl⟩
      have hfin : ((e = 0 ∧ R = acc) ∨ (e ≠ 0 ∧ R = 0#64)) ∧ (ofGo zs 0#64).2 = e := by
        have hkn : k = zs.length := by have := HN.out; omega
        by_cases he : e = 0
        · have h1 := hrel.out.1 he
          rw [hkn, List.drop_length, ofGo] at h1
          rw [hR, ← h1]; exact ⟨.inl ⟨he, rfl⟩, he.symm⟩
        · have h1 := hrel.out.2 he
          rw [hR, h1]; exact ⟨.inr ⟨he, rfl⟩, rfl⟩
      have HOF : Hid (Calls Tryd.prog 9 #[.slice a0 n cap0] wr fun en w' => en = .returned (.tuple #[.int .u64 (R.toNat : Int), .int .i64 e]) ∧ wr = w') := Lib.hid (by
        have h := of_any zs (.slice a0 n cap0) wr (HR.out.below hbel.out (Nat.le_refl _)) (by have := HN.out; omega)
        rw [← hR, hfin.2] at h; exact h)
      have hbk := hfin.1
      clear hfin hR hrel hown
      rcases hbk with ⟨rfl, rfl⟩ | ⟨he, rfl⟩
      rotate_left
      have he0 : (e != 0) = true := by simpa using he
      clear he
      all_goals
        go_wp2_with (go_at_call 9; refine HOF.out.mono ?_; rintro e w' ⟨rfl, rfl⟩)
        clear HOF hk hlt
        go_loopw [16, 94] (fun v i wi => ∃ j : Nat, j ≤ 64 ∧ i = .int .i64 (j : Int) ∧ wi.ownsRow w.heap.size 3 1 v (sqTo b j).length (ints (sqTo b j)) ∧ Hid (Below w.heap.size w wi)) (fun _ i _ => 64 - (intOf i).toNat)
        case atStart => exact ⟨0, by omega, rfl, World.ownsRow_nil _ _ _ _, hbel⟩
        case round =>
          clear hbel
          obtain ⟨j, hj, rfl, hown2, hbel2⟩ := hrel
          by_cases hlt : j < 64
          · obtain ⟨q, hq⟩ : ∃ q : Nat, q = 2 ^ j := ⟨_, rfl⟩
            have hq1 : 1 ≤ q := by rw [hq]; exact Nat.one_le_two_pow
            have hpw : IntKind.u64.wrap (2 ^ j) = (q : Int) := by
              rw [wrap_u64_mod, hq]
              have h1 : (2 : Nat) ^ j < 2 ^ 64 := Nat.pow_lt_pow_right (by omega) hlt
              have h2 : ((2 : Int) ^ j) = ((2 ^ j : Nat) : Int) := by norm_cast
              rw [h2]; omega
            have hdiv := div_bit b j
            rw [← hq] at hdiv
            have hle := sqTo_le b j
            have hsucc := sqTo_succ b j
            cases hb : b.getLsbD j
            · rw [hb] at hdiv hsucc
              have HSC : Hid (sqTo b (j + 1) = sqTo b j) := Lib.hid (by rw [hsucc]; rfl)
              clear hq hsucc hb
              go_wp2
              go_roundw
              case rel => exact ⟨j + 1, by omega, by go_num, by rw [HSC.out]; exact hown2, hbel2⟩
              case measure => simp [intOf]; omega
            · rw [hb] at hdiv hsucc
              have HSC : Hid (sqTo b (j + 1) = sqTo b j ++ [j]) := Lib.hid (by rw [hsucc]; rfl)
              clear hq hsucc hb
              obtain ⟨m, hm⟩ : ∃ m : Nat, m = (sqTo b j).length := ⟨_, rfl⟩
              rw [← hm] at hown2 hle
              have HM : Hid _ := Lib.hid hm
              clear hm
              go_wp2_with (at_builtin; refine wpList_append_own _ rfl _ _ 25 rfl w.heap.size 3 i0 (.int .i64 0) 1 8 Tryd.underlying25 hi hz0 hz1 hz2 rfl (by decide) _ _ _ rfl (hown2.alloc _) ⟨wr.heap.size, 0, none⟩ 1 1 [.int .i64 (j : Int)] rfl rfl (cell_one_new _ _ _) (by simp [Value.oneCell']) (by unfold maxLen; omega) (by omega) (by have := hbel2.out.size; simp; omega) ?_; intro v' w1 hown' hgrow _)
              have hg' : (wr.alloc (.cells #[.int .i64 (j : Int)] 3)).grownBy w1 u16.ownBlock := hgrow
              go_roundw
              case rel =>
                refine ⟨j + 1, by omega, by go_num, ?_, Lib.hid ((hbel2.out.alloc hbel2.out.size _).grown hg' (by have := hbel2.out.size; simp; omega) (fun k e => (hown2.lt k e).1))⟩
                have := HM.out
                rw [HSC.out, ints_snoc, List.length_append, ← this]; exact hown'
              case measure => simp [intOf]; omega
          · obtain rfl : j = 64 := by omega
            have hsq : sqTo b 64 = squares b := rfl
            rw [hsq] at hown2
            obtain ⟨c, hc⟩ : ∃ c : Nat, c = (squares b).length := ⟨_, rfl⟩
            rw [← hc] at hown2
            obtain ⟨av, cv, rfl⟩ : ∃ a cap, u16 = .slice a c cap := by
              rcases hown2.2 with ⟨e1, h0⟩ | ⟨g, cap, cur, e1, _⟩
              · exact ⟨none, 0, by rw [e1, h0]⟩
              · exact ⟨_, _, e1⟩
            have HRW : Hid (Row wr (.slice av c cv) (ints (squares b))) := Lib.hid (Row.of_owns hown2)
            have KC : Hid (∀ w, Calls Tryd.prog 6 #[.int .u64 (b.toNat : Int)] w fun e w' => e = .returned (.int .i64 (c : Int)) ∧ w' = w) := Lib.hid (fun w => by rw [hc, squares_length]; exact count_any b w)
            have hc64 : c ≤ 64 := by rw [hc]; exact squares_le b
            have HTR : Hid (Tab wr) := Lib.hid (HT.out.below hbel2.out h0lt)
            clear hown2 hsq
            by_cases h0 : c = 0
            · have hnil : squares b = [] := List.eq_nil_of_length_eq_zero (by omega)
              have KF : Hid (Calls Tryd.prog 17 #[.int .u64 (b.toNat : Int)] wr fun e w' => e = .returned (.tuple #[.int .i64 0, .int .i64 8]) ∧ Below wr.heap.size wr w') := Lib.hid (by
                have h := first_any b wr HTR.out
                have e1 : firstV b = (0, 8) := by rw [firstV, hnil]
                exact h.mono fun e w' ⟨g1, g2⟩ => ⟨by rw [g1, e1], g2⟩)
              have KL : Hid (∀ W, Tab W → Calls Tryd.prog 8 #[.int .u64 (b.toNat : Int)] W fun e w' => ∃ a cap, e = .returned (.slice a 0 cap) ∧ Below W.heap.size W w') := Lib.hid (fun W ht =>
                (list_any b W ht).mono fun e w' ⟨v, g1, g2, g3⟩ => by
                  obtain ⟨a, cap, e1, _⟩ := g2.shape 0 (by rw [ints_length, hnil]; rfl)
                  exact ⟨a, cap, by rw [g1, e1], g3⟩)
              subst h0
              clear hc hnil
              go_wp2_with fail
              go_at_call 17; refine KF.out.mono ?_; rintro e W5 ⟨rfl, hB5⟩
              have HB5 : Hid (Below w.heap.size w W5) := Lib.hid (hbel2.out.trans (hB5.mono hbel2.out.size))
              clear hB5
              go_wp2_with fail
              go_at_call 6; refine (turned (KC.out _)).mono ?_; rintro e w' ⟨rfl, rfl⟩
              go_wp2_with fail
              go_at_call 8; refine (KL.out _ (HT.out.below HB5.out h0lt)).mono ?_; rintro e W6 ⟨a6, cap6, rfl, hB6⟩
              have HB6 : Hid (Below w.heap.size w W6) := Lib.hid (HB5.out.trans (hB6.mono HB5.out.size))
              clear hB6
              go_wp2_with fail
              go_ret
              exact ⟨rfl, HB6.out⟩
            · obtain ⟨x, r, hx⟩ : ∃ x r, squares b = x :: r := by
                cases e1 : squares b with
                | nil => rw [e1] at hc; exact absurd hc h0
                | cons x r => exact ⟨x, r, rfl⟩
              have KF : Hid (Calls Tryd.prog 17 #[.int .u64 (b.toNat : Int)] wr fun e w' => e = .returned (.tuple #[.int .i64 (x : Int), .int .i64 0]) ∧ Below wr.heap.size wr w') := Lib.hid (by
                have h := first_any b wr HTR.out
                have e1 : firstV b = ((x : Int), 0) := by rw [firstV, hx]
                exact h.mono fun e w' ⟨g1, g2⟩ => ⟨by rw [g1, e1], g2⟩)
              obtain ⟨g, off, rfl, hcell⟩ : ∃ g off, av = some ⟨g, off, none⟩ ∧ ∀ W, Below wr.heap.size wr W → W.cell? ⟨g, off, none⟩ = some (.int .i64 (x : Int)) := by
                rcases HRW.out with ⟨e1, _⟩ | ⟨g, off, cap, e1, _, _, _, hcl⟩
                · rw [hx] at e1; simp [ints] at e1
                · cases e1
                  refine ⟨g, off, rfl, fun W hb => ?_⟩
                  have h1 := hcl 0 (.int .i64 (x : Int)) (by rw [hx]; rfl)
                  rw [Nat.add_zero] at h1
                  rw [← h1]
                  exact hb.cell (p := ⟨g, off, none⟩) (World.block_lt_of_cell? _ _ h1)
              have HCELL : Hid _ := Lib.hid hcell
              have hne : ((c : Int) == 0) = false := by simp; omega
              have hpos : 0 < c := by omega
              clear hc hx h0 hcell
              go_wp2_with fail
              go_at_call 17; refine KF.out.mono ?_; rintro e W5 ⟨rfl, hB5⟩
              have HB5 : Hid (Below w.heap.size w W5) := Lib.hid (hbel2.out.trans (hB5.mono hbel2.out.size))
              have hcell := HCELL.out W5 hB5
              have HR5 : Hid (Row W5 (.slice (some ⟨g, off, none⟩) c cv) (ints (squares b))) := Lib.hid (HRW.out.below hB5 (Nat.le_refl _))
              clear hB5
              go_wp2_with fail
              go_at_call 6; refine (turned (KC.out _)).mono ?_; rintro e w' ⟨rfl, rfl⟩
              go_wp2_with fail
              go_at_call 8; refine (list_any b _ (HT.out.below HB5.out h0lt)).mono ?_; rintro e W6 ⟨v6, rfl, hr6, hB6⟩
              have HB6 : Hid (Below w.heap.size w W6) := Lib.hid (HB5.out.trans (hB6.mono HB5.out.size))
              have KS : Hid (Calls Tryd.prog 16 #[v6, .slice (some ⟨g, off, none⟩) c cv] W6 (BoolPost W6 true)) := Lib.hid (by
                have hr5 := HR5.out.below hB6 (Nat.le_refl _)
                rw [ints_vals] at hr5 hr6
                have h := same_any _ _ v6 _ W6 hr6 hr5 (by rw [List.length_map]; have := squares_le b; omega)
                rwa [decide_eq_true rfl] at h)
              clear hB6 hr6 hcell
              go_wp2_with fail
              go_at_call 16; refine KS.out.mono ?_; rintro e W7 ⟨rfl, hB7⟩
              have HB7 : Hid (Below w.heap.size w W7) := Lib.hid (HB6.out.trans (hB7.mono HB6.out.size))
              clear hB7
              go_wp2_with fail
              go_ret
              exact ⟨rfl, HB7.out⟩
theorem sets_full (a0 : Option Addr) (len0 cap0 : Nat) (z0 : List Int) (a1 : Int) (w : World) (w0 : IsRow .i64 w a0 len0 cap0 z0) (s0 : len0 * 8 ≤ 140737488351232) (w1 : (Lit.int .u64 a1).wf = true) (hT : Tab w) :
    Calls Tryd.prog 5 #[.slice a0 len0 cap0, .int .u64 a1] w fun e w' => e = .returned (.bool true) ∧ Below w.heap.size w w' := by
  obtain ⟨b, rfl⟩ := word_of w1
  exact sets_walk (z0.take len0) a0 cap0 len0 b w hT w0.row.2 w0.row.1 (by omega)
end Go.Proofs.YtffnnpjgfjkmjaaDoor
