/- BitsBack: the walk of the law. -/
import Derived.Test.YtffnnpjgfjkmjaaDoorFirst
import Derived.StillTailTactics
namespace Go.Proofs.YtffnnpjgfjkmjaaDoor
open Go.RowKit Go.Shelf
attribute [local go_sem] Oper.semAt_some

theorem Row.shape {W : World} {v : Value} {cs : List Value} (h : Row W v cs) (n : Nat) (hn : n = cs.length) : ∃ a cap, v = .slice a n cap ∧ n ≤ cap := by
  subst hn
  rcases h with ⟨rfl, a, cap, rfl⟩ | ⟨g, off, cap, rfl, _, h, _, _⟩
  · exact ⟨a, cap, rfl, Nat.zero_le _⟩
  · exact ⟨_, cap, rfl, h⟩
theorem Row.take_ints {W : World} {a : Option Addr} {c cap : Nat} {l : List Nat} (h : Row W (.slice a c cap) (ints l)) (hc : c = l.length) (k : Nat) : Row W (.slice a (min k c) cap) (ints (l.take k)) := by
  rcases h with ⟨e, a1, cap1, ev⟩ | ⟨g, off, cap1, ev, hne, hle, hm, hcell⟩
  · cases ev
    have : l = [] := by simpa [ints] using e
    subst this
    exact .inl ⟨by simp [ints], a, cap, by simp⟩
  · cases ev
    rw [ints_length] at hle
    by_cases hk : min k (ints l).length = 0
    · left
      refine ⟨?_, some ⟨g, off, none⟩, cap, by rw [hk]⟩
      rw [ints_length] at hk
      have : l.take k = [] := List.eq_nil_of_length_eq_zero (by rw [List.length_take]; exact hk)
      rw [this]; rfl
    · right
      refine ⟨g, off, cap, by rw [ints_length, ints_length, List.length_take], ?_, ?_, hm, ?_⟩
      · intro e
        have : (ints (l.take k)).length = 0 := by rw [e]; rfl
        rw [ints_length, List.length_take] at this
        rw [ints_length] at hk; omega
      · rw [ints_length, List.length_take]; omega
      · intro i u hu
        have e : ints (l.take k) = (ints l).take k := by simp [ints, List.map_take]
        rw [e, List.getElem?_take] at hu
        split at hu
        · exact hcell i u hu
        · cases hu
theorem squares_513 : squares 513#64 = [0, 9] := by decide +kernel
theorem list_513 (w : World) (hT : Tab w) : Calls Tryd.prog 8 #[.int .u64 513] w fun e w' => ∃ v, e = .returned v ∧ Row w' v (vals [0, 9]) ∧ Below w.heap.size w w' :=
  (list_any 513#64 w hT).mono fun e w' ⟨v, h1, h2, h3⟩ => ⟨v, h1, by rw [ints_vals, squares_513] at h2; exact h2, h3⟩
theorem row_two (w : World) (x y : Int) : Row (w.alloc (.cells #[.int .i64 x, .int .i64 y] 3)) (.slice (some ⟨w.heap.size, 0, none⟩) 2 2) (vals [x, y]) :=
  .inr ⟨w.heap.size, 0, 2, rfl, by simp [vals], by simp [vals], by decide, fun i u hu => by
    rw [Nat.zero_add]
    have := cell_two_new w (.int .i64 x) (.int .i64 y) 3 i u hu
    have e2 : (⟨w.heap.size, 0, none⟩ : Addr).add i = ⟨w.heap.size, i, none⟩ := by cases i <;> simp [Addr.add]
    rwa [e2] at this⟩
/-- The squares of a set make that set. -/
theorem of_squares (n : Nat) : ∀ (r acc : BitVec 64), r.toNat ≤ n → acc &&& r = 0#64 → ofGo ((squares r).map fun x : Nat => (x : Int)) acc = (acc ||| r, 0) := by
  induction n with
  | zero =>
    intro r acc hr _
    obtain rfl : r = 0#64 := BitVec.eq_of_toNat_eq (by simpa using hr)
    rw [squares_zero]; simp [ofGo]
  | succ n ih =>
    intro r acc hr hd
    by_cases h0 : r = 0#64
    · rw [h0, squares_zero]; simp [ofGo]
    · obtain ⟨h1, h2⟩ := leastW_bit r h0
      have hb : acc.getLsbD (tzW r) = false := by
        have e : (acc &&& r).getLsbD (tzW r) = (0#64).getLsbD (tzW r) := by rw [hd]
        rw [BitVec.getLsbD_and, tz_in r h0] at e
        simpa using e
      have hlt := dropW_toNat r h0
      rw [squares_cons r h0, List.map_cons, ofGo, if_pos (by omega), Int.toNat_natCast, hb]
      simp only [Bool.false_eq_true, if_false]
      rw [ih (dropW r) (acc ||| bitW (tzW r)) (by omega) ?_]
      · congr 1
        apply BitVec.eq_of_getLsbD_eq
        intro t ht
        rw [BitVec.getLsbD_or, BitVec.getLsbD_or, BitVec.getLsbD_or, dropW_at r h0 t ht, bitW_at _ _ h2]
        by_cases e : t = tzW r
        · subst e; rw [tz_in r h0]; simp
        · simp [e]
      · apply BitVec.eq_of_getLsbD_eq
        intro t ht
        have e : (acc &&& r).getLsbD t = (0#64).getLsbD t := by rw [hd]
        rw [BitVec.getLsbD_and] at e
        rw [BitVec.getLsbD_and, BitVec.getLsbD_or, dropW_at r h0 t ht, bitW_at _ _ h2]
        by_cases e2 : t = tzW r
        · simp [e2]
        · simp only [e2, decide_false, Bool.or_false, Bool.not_false, Bool.and_true]; exact e
theorem of_squares_all (b : BitVec 64) : ofGo ((squares b).map fun x : Nat => (x : Int)) 0#64 = (b, 0) := by
  rw [of_squares b.toNat b 0#64 (Nat.le_refl _) BitVec.zero_and]; simp

set_option maxRecDepth 100000 in
set_option maxHeartbeats 4000000 in
theorem back_in (b : BitVec 64) (w : World) (hT : Tab w) : CallsIn Fence.wide 6 Tryd.prog 3 #[.int .u64 (b.toNat : Int)] w (fun e w' => e = .returned (.bool true) ∧ Below w.heap.size w w') := by
  have HT : Hid (Tab w) := Lib.hid hT
  have h0lt : 0 < w.heap.size := hT.size
  clear hT
  refine callsIn_of_wp_marks Tryd.func3 rfl trivial ?_ rfl
  simp only [Tryd.ntmps3, List.size_toArray, List.length_cons, List.length_nil, Nat.reduceAdd, Nat.reduceSub, Array.replicate_succ, Array.replicate_zero, List.push_toArray, List.append_toArray, List.nil_append, List.cons_append]
  gi_wp2_with fail
  refine ⟨trivial, ?_⟩; gi_at_call 6; refine (callsIn_wide.2 (turned (count_513 _))).mono ?_; rintro e w' ⟨rfl, rfl⟩
  gi_wp2_with fail
  refine ⟨trivial, ?_⟩; gi_at_call 8; refine (callsIn_wide.2 (list_513 _ HT.out)).mono ?_; rintro e W1 ⟨v1, rfl, hr1, hB1⟩
  have HR1 : Hid _ := Lib.hid hr1
  have HB1 : Hid _ := Lib.hid hB1
  clear hr1 hB1
  gi_wp2_with fail
  refine ⟨trivial, ?_⟩; gi_at_call 7
  refine (callsIn_wide.2 (equal_any [0, 9] [0, 9] v1 _ _ (HR1.out.below ((Below.refl W1.heap.size W1).alloc (Nat.le_refl _) _) (Nat.le_refl _)) (row_two W1 0 9) (by simp))).mono ?_
  rintro e W2 ⟨rfl, hB2⟩
  have HB2 : Hid (Below w.heap.size w W2) := Lib.hid ((HB1.out.alloc HB1.out.size _).trans (hB2.mono (by have := HB1.out.size; simp; omega)))
  clear hB2
  gi_wp2_with fail
  refine ⟨trivial, ?_⟩; gi_at_call 8; refine (callsIn_wide.2 (list_any b _ (HT.out.below HB2.out h0lt))).mono ?_; rintro e W3 ⟨v3, rfl, hr3, hB3⟩
  have HB3 : Hid (Below w.heap.size w W3) := Lib.hid (HB2.out.trans (hB3.mono HB2.out.size))
  have HT3 : Hid (Tab W3) := Lib.hid (HT.out.below HB3.out h0lt)
  obtain ⟨c, hc⟩ : ∃ c : Nat, c = cnt b := ⟨_, rfl⟩
  have h64 : c ≤ 64 := by rw [hc]; exact cnt_le b
  have hN : Hid (c = (squares b).length) := Lib.hid (by rw [squares_length, hc])
  have KC : Hid (∀ w, Calls Tryd.prog 6 #[.int .u64 (b.toNat : Int)] w fun e w' => e = .returned (.int .i64 (c : Int)) ∧ w' = w) := Lib.hid (fun w => by rw [hc]; exact count_any b w)
  obtain ⟨a3, cap3, rfl, hcap3⟩ := hr3.shape c (by rw [ints_length]; exact hN.out)
  have HR3 : Hid (Row W3 (.slice a3 c cap3) (ints (squares b))) := Lib.hid hr3
  have KO : Hid (Calls Tryd.prog 9 #[.slice a3 c cap3] W3 fun e w' => e = .returned (.tuple #[.int .u64 (b.toNat : Int), .int .i64 0]) ∧ W3 = w') := Lib.hid (by
    have h := of_any ((squares b).map fun x : Nat => (x : Int)) (.slice a3 c cap3) W3 (by rw [← ints_vals]; exact hr3) (by rw [List.length_map, ← hN.out]; omega)
    rw [of_squares_all] at h
    exact h)
  clear hr3 hB3 hc
  gi_wp2_with fail
  refine ⟨trivial, ?_⟩; gi_at_call 9; refine (callsIn_wide.2 KO.out).mono ?_; rintro e w' ⟨rfl, rfl⟩
  clear KO
  gi_wp2_with fail
  refine ⟨trivial, ?_⟩; gi_at_call 6; refine (callsIn_wide.2 (turned (KC.out _))).mono ?_; rintro e w' ⟨rfl, rfl⟩
  gi_wp2_with (refine ⟨trivial, ?_⟩; gi_at_call 10; refine (all_in _ b _).mono ?_; rintro e w' ⟨rfl, rfl⟩)
  obtain ⟨i0, hi, hz0, hz1, hz2⟩ := info_parts Tryd.infoInt
  have bO := Boxed.new W3 25 (.slice none 0 0)
  have bN := Boxed.new (W3.alloc (.cells #[.slice none 0 0] 25)) 22 (.int .u64 (b.toNat : Int))
  rw [World.size_alloc] at bN
  have hB0 : Below W3.heap.size W3 ((W3.alloc (.cells #[.slice none 0 0] 25)).alloc (.cells #[.int .u64 (b.toNat : Int)] 22)) := ((Below.refl _ W3).alloc (Nat.le_refl _) _).alloc (by simp) _
  have h3lt : 0 < W3.heap.size := HT3.out.size
  clear HR1 HB1 HB2 HT
  refine wpIn_rangeFunc_ownG rfl (by omega) (gf := 22) (lb := #[.pointer (some ⟨W3.heap.size + 1, 0, none⟩)]) rfl trivial (enters_of Tryd.func22 (by kernel_rfl) rfl)
    (all_stops _ (by omega) (W3.heap.size + 1) c b hN _ (HT3.out.below hB0 h3lt) (by simp) bN.cell) keepsTab_t (fun W l o o' _ h hc _ => keepsTab_b W l o o' h hc) (Below.refl _ _) (fun _ => rfl)
    (fun pre W => (∃ v, Boxed W W3.heap.size 25 v ∧ W.ownsRow W3.heap.size 3 1 v pre.length (ints pre) ∧ pre.length ≤ 3) ∧ Below W3.heap.size W3 W)
    (fun e pre W => (∃ v, Boxed W W3.heap.size 25 v ∧ W.ownsRow W3.heap.size 3 1 v 3 (ints (pre.take 3)) ∧ (e = .exit 0 ∧ 3 < pre.length)) ∧ Below W3.heap.size W3 W)
    (OwnFrom.and (Own.from (holdsRow_own W3.heap.size W3.heap.size 25 3 1 (fun pre => pre.length) (fun pre => ints pre) (fun pre _ => pre.length ≤ 3)) _) (ownFrom_below (Nat.le_refl _) (by simp; omega)))
    (fun e => OwnFrom.and (Own.from (holdsRow_own W3.heap.size W3.heap.size 25 3 1 (fun _ => 3) (fun pre : List Nat => ints (pre.take 3)) (fun (pre : List Nat) _ => e = .exit 0 ∧ 3 < pre.length)) _) (ownFrom_below (Nat.le_refl _) (by simp; omega)))
    ⟨⟨_, bO.alloc _, World.ownsRow_nil _ _ _ _, by simp⟩, hB0⟩
    (fun x => { tmps := #[.int .u64 (b.toNat : Int), undef, .bool false, .slice a3 c cap3, .int .u64 (b.toNat : Int), .int .i64 0, .pointer (some ⟨W3.heap.size, 0, none⟩), .int .i64 (x : Int),
        .int .i64 2, .bool false, .bool false, v1, .slice (some ⟨W1.heap.size, 0, none⟩) 2 2, .bool true, .bool false, .bool false, .int .u64 (b.toNat : Int), .slice a3 c cap3,
        .tuple #[.int .u64 (b.toNat : Int), .int .i64 0], .slice a3 c cap3, .tuple #[.int .u64 (b.toNat : Int), .int .i64 0], .int .u64 (b.toNat : Int), .int .i64 0, .int .i64 0, .bool false, .bool false,
        .int .u64 (b.toNat : Int), .int .u64 (b.toNat : Int), .bool false, .bool false, .bool false, .slice a3 c cap3, .int .i64 (c : Int), .int .u64 (b.toNat : Int), .int .i64 (c : Int), .bool false, .bool false, .int .u64 (b.toNat : Int),
        .func (.func 22) #[] #[.pointer (some ⟨W3.heap.size + 1, 0, none⟩)], .int .i64 (x : Int), undef, undef, undef, undef, undef, undef, undef, undef, undef, undef, undef, undef, undef, undef], defers := [] }) ?assign ?body ?done ?stop
  case assign =>
    intro l x W K hK
    gi_wp2
    exact hK
  case body =>
    rintro l pre x W ⟨⟨v, hv, hrow, h3⟩, hB⟩ hlt
    obtain ⟨av, cv, rfl⟩ : ∃ a cap, v = .slice a pre.length cap := by
      rcases hrow.2 with ⟨e, h0⟩ | ⟨g, cap, cur, e, _⟩
      · exact ⟨none, 0, by rw [e, h0]⟩
      · exact ⟨_, _, e⟩
    have hc := hv.cell
    obtain ⟨m, hm⟩ : ∃ m : Nat, m = pre.length := ⟨_, rfl⟩
    rw [← hm] at hv hrow h3 hc hlt
    have HM : Hid _ := Lib.hid hm
    clear hm
    by_cases hm3 : m = 3
    · have h33 : ((m : Int) == 3) = true := by simp [hm3]
      have HX : Hid (ints ((pre ++ [x]).take 3) = ints pre ∧ 3 < (pre ++ [x]).length) := Lib.hid (by
        have := HM.out
        rw [List.take_append_of_le_length (by omega), List.take_of_length_le (by omega), List.length_append]
        exact ⟨rfl, by simp; omega⟩)
      have H3 : Hid _ := Lib.hid hm3
      clear hm3
      gi_wp2
      have e3 := H3.out
      subst e3
      exact ⟨KeepsFrom.refl _ _, ⟨_, hv, by rw [HX.out.1]; exact hrow, rfl, HX.out.2⟩, hB⟩
    · have h33 : ((m : Int) == 3) = false := by simp; omega
      have HX : Hid ((pre ++ [x]).length = m + 1 ∧ ints (pre ++ [x]) = ints pre ++ [.int .i64 (x : Int)]) := Lib.hid (by
        have := HM.out
        exact ⟨by rw [List.length_append]; simp; omega, ints_snoc _ _⟩)
      gi_wp2_with (gi_at_builtin; refine wpListIn_append_own _ rfl _ _ 25 rfl W3.heap.size 3 i0 (.int .i64 0) 1 8 Tryd.underlying25 hi hz0 hz1 hz2 rfl (by decide) _ _ _ rfl (hrow.alloc _) ⟨W.heap.size, 0, none⟩ 1 1 [.int .i64 (x : Int)] rfl rfl (cell_one_new _ _ _) (by simp [Value.oneCell']) (by unfold maxLen; omega) (by omega) (by have := hB.size; simp; omega) ?_; intro v' w1 hown' hgrow _; obtain ⟨g', cap', rfl⟩ := ownsRow_succ hown'; obtain ⟨hv1, hv2, hr2, hk2, hb2⟩ := hv.appended (by decide) hrow hB.size (Nat.le_refl _) hown' hgrow; have hc1 := hv1.cell; have hf1 := hv1.frozen)
      exact ⟨hk2.from _, keepsTab_below hb2 h3lt, ⟨_, hv2, by rw [HX.out.1, HX.out.2]; exact hr2, by rw [HX.out.1]; omega⟩, hB.trans hb2⟩
  case done =>
    rintro D ys W hD rfl ⟨⟨v, hv, hrow, h3⟩, hB⟩ hK
    have hA : Row W v (vals (((squares b).take 3).map fun x : Nat => (x : Int))) := by
      rw [List.take_of_length_le h3, ← ints_vals]; exact Row.of_owns hrow
    obtain ⟨m3, hm3⟩ : ∃ m : Nat, m = min 3 c := ⟨_, rfl⟩
    have hmin : (if (c : Int) < 3 then (c : Int) else 3) = (m3 : Int) := by rw [hm3]; split <;> omega
    have hmc : m3 ≤ cap3 := by omega
    have hL : Row W (.slice a3 m3 cap3) (vals (((squares b).take 3).map fun x : Nat => (x : Int))) := by
      rw [hm3, ← ints_vals]; exact Row.take_ints (HR3.out.below hB (Nat.le_refl _)) hN.out 3
    clear hm3
    have hc := hv.cell
    have HA : Hid _ := Lib.hid hA
    have HL : Hid _ := Lib.hid hL
    have HK : Hid _ := Lib.hid hK
    have HB : Hid _ := Lib.hid hB
    have HV : Hid _ := Lib.hid hv
    clear hA hL hK hB hv hrow h3 hN
    gi_wp2_with fail
    refine wpIn_wide.2 ?_
    refine wp_region_still_tail 6 (by kernel_rfl) (by kernel_rfl) ?_
    simp only [List.take_succ_cons, List.take_zero, List.drop_succ_cons, List.drop_zero]
    still_step
    still_step
    still_step
    still_step
    still_step
    still_step
    refine wpStill_nil ?_
    change wpList _ _ _ _ _ W.drew
    have KE : Hid (Calls Tryd.prog 7 #[v, .slice a3 m3 cap3] W.drew (BoolPost W.drew true)) := Lib.hid (by
      have h := equal_any _ _ v (.slice a3 m3 cap3) W.drew HA.out HL.out (by simp; omega)
      rwa [decide_eq_true rfl] at h)
    go_wp2_with (go_at_call 7; refine KE.out.mono ?_; rintro e W5 ⟨rfl, hB5⟩)
    have hK5 : W5.heap[D]? = some (.deferred (some [])) := (hB5.block D (Array.getElem?_eq_some_iff.1 HK.out).1).trans HK.out
    have hBB : Below w.heap.size w W5 := (HB3.out.trans (HB.out.mono HB3.out.size)).trans ((Below.refl _ W).drew.trans (hB5.mono (Nat.le_trans HB3.out.size HB.out.size)))
    have hDw : w.heap.size ≤ D := by have := HB3.out.size; simp at hD; omega
    have HZ : Hid _ := Lib.hid (And.intro hK5 (And.intro hBB hDw))
    clear hK5 hBB hDw hB5
    gi_wp2
    obtain ⟨hK5, hBB, hDw⟩ := HZ.out
    refine ⟨by simp, .inl ⟨_, _, rfl, run_takeDeferred hK5, ?_⟩⟩
    exact ⟨_, results_tmp rfl _ _ _, rfl, hBB.trans (belowK_b (w := w) (Nat.le_refl _) W5 D _ _ hDw hK5 rfl rfl)⟩
  case stop =>
    rintro D e pre W hD hpre ⟨⟨v, hv, hrow, rfl, h3⟩, hB⟩ hK
    have hA : Row W v (vals (((squares b).take 3).map fun x : Nat => (x : Int))) := by
      obtain ⟨r, hr⟩ := hpre
      rw [← hr, List.take_append_of_le_length (by omega), ← ints_vals]; exact Row.of_owns hrow
    clear hpre
    obtain ⟨m3, hm3⟩ : ∃ m : Nat, m = min 3 c := ⟨_, rfl⟩
    have hmin : (if (c : Int) < 3 then (c : Int) else 3) = (m3 : Int) := by rw [hm3]; split <;> omega
    have hmc : m3 ≤ cap3 := by omega
    have hL : Row W (.slice a3 m3 cap3) (vals (((squares b).take 3).map fun x : Nat => (x : Int))) := by
      rw [hm3, ← ints_vals]; exact Row.take_ints (HR3.out.below hB (Nat.le_refl _)) hN.out 3
    clear hm3
    have hc := hv.cell
    have HA : Hid _ := Lib.hid hA
    have HL : Hid _ := Lib.hid hL
    have HK : Hid _ := Lib.hid hK
    have HB : Hid _ := Lib.hid hB
    have HV : Hid _ := Lib.hid hv
    clear hA hL hK hB hv hrow h3 hN
    gi_wp2_with fail
    refine wpIn_wide.2 ?_
    refine wp_region_still_tail 6 (by kernel_rfl) (by kernel_rfl) ?_
    simp only [List.take_succ_cons, List.take_zero, List.drop_succ_cons, List.drop_zero]
    still_step
    still_step
    still_step
    still_step
    still_step
    still_step
    refine wpStill_nil ?_
    change wpList _ _ _ _ _ W.drew
    have KE : Hid (Calls Tryd.prog 7 #[v, .slice a3 m3 cap3] W.drew (BoolPost W.drew true)) := Lib.hid (by
      have h := equal_any _ _ v (.slice a3 m3 cap3) W.drew HA.out HL.out (by simp; omega)
      rwa [decide_eq_true rfl] at h)
    go_wp2_with (go_at_call 7; refine KE.out.mono ?_; rintro e W5 ⟨rfl, hB5⟩)
    have hK5 : W5.heap[D]? = some (.deferred (some [])) := (hB5.block D (Array.getElem?_eq_some_iff.1 HK.out).1).trans HK.out
    have hBB : Below w.heap.size w W5 := (HB3.out.trans (HB.out.mono HB3.out.size)).trans ((Below.refl _ W).drew.trans (hB5.mono (Nat.le_trans HB3.out.size HB.out.size)))
    have hDw : w.heap.size ≤ D := by have := HB3.out.size; simp at hD; omega
    have HZ : Hid _ := Lib.hid (And.intro hK5 (And.intro hBB hDw))
    clear hK5 hBB hDw hB5
    gi_wp2
    obtain ⟨hK5, hBB, hDw⟩ := HZ.out
    refine ⟨by simp, .inl ⟨_, _, rfl, run_takeDeferred hK5, ?_⟩⟩
    exact ⟨_, results_tmp rfl _ _ _, rfl, hBB.trans (belowK_b (w := w) (Nat.le_refl _) W5 D _ _ hDw hK5 rfl rfl)⟩
theorem back_full (a0 : Int) (w0 : (Lit.int .u64 a0).wf = true) (w : World) (hT : Tab w) :
    Calls Tryd.prog 3 #[.int .u64 a0] w fun e w' => e = .returned (.bool true) ∧ Below w.heap.size w w' := by
  obtain ⟨b, rfl⟩ := word_of w0
  exact callsIn_wide.1 (back_in b w hT)
end Go.Proofs.YtffnnpjgfjkmjaaDoor
