/- The law ZobQuiet: the key does not depend on Quiet, and changes with the turn by a fixed number. -/
import Derived.Test.YtlnapegbhfphgaaKeyed
import Derived.Test.YtlnapegbhfphgaaOpnA
set_option maxRecDepth 100000
namespace Go.Proofs.Ytlnapegbhfphgaa
open Go.ChangeShapes Go.WideShapes Go.ChangeAt Go.RowKit

/-- The position with the other turn, and no quiet moves. -/
def flipD (p : PlaceD) : PlaceD := { p with turn := 1 - p.turn, quiet := 0 }
theorem flip_ok {r : RulesD} {p : PlaceD} (h : POkay r p) : POkay r (flipD p) :=
  ⟨h.e, h.cl, h.l0, h.l1, h.cs, h.n0, h.n1, by show 0 ≤ 1 - p.turn; have := h.t1; omega, by show 1 - p.turn ≤ 1; have := h.t0; omega, by show (0 : Int) ≤ 0; omega, by show (0 : Int) ≤ 200; omega⟩
theorem turnK_zero : turnK 0 = 0#64 := if_neg (by decide)
theorem turnK_one : turnK 1 = mixZ 3000 := if_pos rfl
theorem sum_less (A B : BitVec 64) : A + 0#64 - (A + B) = - B := by
  apply BitVec.eq_of_toNat_eq
  have hA := A.isLt
  have hB := B.isLt
  simp only [BitVec.toNat_sub, BitVec.toNat_add, BitVec.toNat_neg, BitVec.add_zero]
  omega
theorem sum_more (A B : BitVec 64) : A + B - (A + 0#64) = B := by rw [BitVec.add_zero, BitVec.add_comm, BitVec.add_sub_cancel]
theorem hands_flip (p : PlaceD) : handsK (flipD p) 2 = handsK p 2 := rfl
theorem turn_flip (p : PlaceD) : (flipD p).turn = 1 - p.turn := rfl
theorem flip_key {r : RulesD} {p : PlaceD} (h : POkay r p) : keyZ (flipD p) - keyZ p = if p.turn = 1 then - mixZ 3000 else mixZ 3000 := by
  have t0 := h.t0
  have t1 := h.t1
  rw [keyZ, keyZ, hands_flip, turn_flip]
  by_cases ht : p.turn = 1
  · rw [if_pos ht, ht, Int.sub_self, turnK_zero, turnK_one, sum_less]
  · have h0 : p.turn = 0 := by omega
    rw [if_neg ht, h0, Int.sub_zero, turnK_zero, turnK_one, sum_more]
theorem b_neg (a : BitVec 64) : IntKind.u64.wrap (-(a.toNat : Int)) = ((-a).toNat : Int) := by
  rw [wrap_u64_mod, BitVec.toNat_neg]; have := a.isLt; omega
set_option maxHeartbeats 8000000 in
theorem zobQuiet_full (r : RulesD) (vp vs ve : Value) (p : PlaceD) (vc v0 v1 : Value) (w : World) (hr : RulesIn w r vp vs ve) (hp : PlaceIn w p vc v0 v1) :
    Calls Try.prog 4 #[RulesV r vp vs ve, PlaceV p vc v0 v1] w fun e w' => e = .returned (.bool true) ∧ Below w.heap.size w w' := by
  obtain ⟨ca, cn, cc, rfl⟩ := hp.c.form
  obtain ⟨a0, n0, c0, rfl⟩ := hp.a.form
  obtain ⟨a1, n1, c1, rfl⟩ := hp.b.form
  obtain ⟨V, hV⟩ : ∃ V, V = (w.alloc (.cells (RulesCells r vp vs ve) 26)).alloc (.cells (PlaceCells p (.slice ca cn cc) (.slice a0 n0 c0) (.slice a1 n1 c1)) 29) := ⟨_, rfl⟩
  obtain ⟨hB, hY, hX⟩ := rp_boxes w r p vp vs ve (.slice ca cn cc) (.slice a0 n0 c0) (.slice a1 n1 c1)
  rw [← hV] at hB hY hX
  have HB := Lib.hid hB
  have HIR : Hid (∀ W, Below V.heap.size V W → RulesIn W r vp vs ve) := Lib.hid (fun W h => (hr.below hB (Nat.le_refl _)).below h (Nat.le_refl _))
  have HIP : Hid (∀ W, Below V.heap.size V W → PlaceIn W p (.slice ca cn cc) (.slice a0 n0 c0) (.slice a1 n1 c1)) := Lib.hid (fun W h => (hp.below hB (Nat.le_refl _)).below h (Nat.le_refl _))
  obtain ⟨c, hc⟩ : ∃ c, c = placeE r p := ⟨_, rfl⟩
  obtain ⟨K, hK⟩ : ∃ K, K = keyI r p := ⟨_, rfl⟩
  obtain ⟨k0, hk0⟩ : ∃ k, k = keyZ p := ⟨_, rfl⟩
  obtain ⟨k1, hk1⟩ : ∃ k, k = keyZ (flipD p) := ⟨_, rfl⟩
  obtain ⟨M, hM⟩ : ∃ M, M = mixZ 3000 := ⟨_, rfl⟩
  obtain ⟨N, hN⟩ : ∃ N, N = - M := ⟨_, rfl⟩
  have HOK : Hid (c = 0 → POkay r p) := Lib.hid (fun h => placeE_iff.1 (by rw [← hc]; exact h))
  have HK0 : Hid (c ≠ 0 → K = 0) := Lib.hid (fun h => by rw [hK, keyI, if_neg (by rw [← hc]; exact h)])
  have HK1 : Hid (c = 0 → K = (k0.toNat : Int)) := Lib.hid (fun h => by rw [hK, keyI, if_pos (by rw [← hc]; exact h), hk0])
  have HKY : Hid (∀ W, Below V.heap.size V W → Calls Try.prog 11 #[RulesV r vp vs ve, PlaceV p (.slice ca cn cc) (.slice a0 n0 c0) (.slice a1 n1 c1)] W (KPost K c W)) := Lib.hid (fun W h => by rw [hK, hc]; exact key_any r p vp vs ve (.slice ca cn cc) (.slice a0 n0 c0) (.slice a1 n1 c1) W (HIR.out W h) (HIP.out W h))
  have HKQ : Hid (c = 0 → ∀ W, Below V.heap.size V W → Calls Try.prog 11 #[RulesV r vp vs ve, PlaceV (flipD p) (.slice ca cn cc) (.slice a0 n0 c0) (.slice a1 n1 c1)] W (KPost (k1.toNat : Int) 0 W)) := Lib.hid (fun hz W h => by
    have hf := placeE_iff.2 (flip_ok (HOK.out hz))
    have h1 := key_any r (flipD p) vp vs ve (.slice ca cn cc) (.slice a0 n0 c0) (.slice a1 n1 c1) W (HIR.out W h) ⟨(HIP.out W h).c, (HIP.out W h).a, (HIP.out W h).b⟩
    rwa [keyI, if_pos hf, hf, ← hk1] at h1)
  have HM : Hid (∀ W, Calls Try.prog 14 #[.int .i64 3000] W fun e w' => e = .returned (.int .u64 (M.toNat : Int)) ∧ W = w') := Lib.hid (fun W => by rw [hM]; exact turned (mix_any _ W))
  have HD : Hid (c = 0 → k1 - k0 = if p.turn = 1 then N else M) := Lib.hid (fun hz => by rw [hk1, hk0, hN, hM]; exact flip_key (HOK.out hz))
  have eN : IntKind.u64.wrap (-(M.toNat : Int)) = (N.toNat : Int) := by rw [b_neg, hN]
  have HT : Hid (c = 0 → 0 ≤ p.turn ∧ p.turn ≤ 1) := Lib.hid (fun hz => ⟨(HOK.out hz).t0, (HOK.out hz).t1⟩)
  have HX : Hid (∀ W, Below V.heap.size V W → BoxP W (w.heap.size + 1) p (.slice ca cn cc) (.slice a0 n0 c0) (.slice a1 n1 c1)) := Lib.hid (fun W hb => hX.below hb (Nat.le_refl _))
  have HY : Hid (∀ W, Below V.heap.size V W → BoxR W w.heap.size r vp vs ve) := Lib.hid (fun W hb => hY.below hb (Nat.le_refl _))
  unfold RulesCells PlaceCells at hV
  unfold RulesV PlaceV PlaceCells at HKY HKQ
  unfold flipD at HKQ
  dsimp only at HKQ
  unfold RulesV PlaceV PlaceCells
  clear hr hp hc hK hk0 hk1 hM hN hB hX hY
  go_enter Try.func4, Try.ntmps4
  go_wp2_with fail
  rw [← hV]
  clear hV
  go_at_call 6; refine (keyed_any _).mono ?_; rintro e w1 ⟨rfl, hb⟩
  have HB1 := Lib.hid hb
  clear hb
  obtain ⟨x0, x1, x2, x3, x4⟩ := HX.out _ HB1.out
  obtain ⟨y0, y1, y2, y3, y4, y5, y6, y7, y8, y9, y10⟩ := HY.out _ HB1.out
  go_wp2_with fail
  go_at_call 11; refine (HKY.out _ HB1.out).mono ?_; rintro e w2 ⟨rfl, hb⟩
  have HB2 := Lib.hid (HB1.out.trans (hb.mono HB1.out.size))
  clear hb HB1 HKY x0 x1 x2 x3 x4 y0 y1 y2 y3 y4 y5 y6 y7 y8 y9 y10
  by_cases hz : c = 0
  · obtain rfl := HK1.out hz
    have HKQ1 := Lib.hid (HKQ.out hz)
    have HD1 := Lib.hid (HD.out hz)
    obtain ⟨t0, t1⟩ := HT.out hz
    subst hz
    clear HK0 HK1 HOK HKQ HD HT
    obtain ⟨x0, x1, x2, x3, x4⟩ := HX.out _ HB2.out
    have hal := (Below.refl w2.heap.size w2).alloc (Nat.le_refl _) (.cells #[.slice ca cn cc, .slice a0 n0 c0, .slice a1 n1 c1, .int .i64 p.turn, .int .i64 p.quiet] 29)
    have HQ : Hid (PBox (w2.alloc (.cells #[.slice ca cn cc, .slice a0 n0 c0, .slice a1 n1 c1, .int .i64 p.turn, .int .i64 p.quiet] 29)) w2.heap.size 29 p (.slice ca cn cc) (.slice a0 n0 c0) (.slice a1 n1 c1)) := Lib.hid (PBox.new w2 _ p (.slice ca cn cc) (.slice a0 n0 c0) (.slice a1 n1 c1))
    have HA := Lib.hid (HB2.out.trans (hal.mono HB2.out.size))
    have HQL := Lib.hid HB2.out.size
    clear hal
    go_wp2_with fail
    clear x0 x1 x2 x3 x4
    generalize w2.alloc (.cells #[.slice ca cn cc, .slice a0 n0 c0, .slice a1 n1 c1, .int .i64 p.turn, .int .i64 p.quiet] 29) = w3 at HQ HA ⊢
    generalize w2.heap.size = qb at HQ HQL ⊢
    obtain ⟨x0, x1, x2, x3, x4⟩ := HX.out _ HA.out
    obtain ⟨⟨q0, q1, q2, q3, q4⟩, f0, f1, f2, f3, f4⟩ := HQ.out.facts
    have hw : IntKind.i64.wrap (1 - p.turn) = 1 - p.turn := IntWalk.i64_in _ (by omega)
    go_region
    have hU : PBox (((w3.setCell ⟨qb, 4, none⟩ (.int .i64 0)).setCell ⟨qb, 3, none⟩ (.int .i64 (1 - p.turn))).drew) qb 29 (flipD p) (.slice ca cn cc) (.slice a0 n0 c0) (.slice a1 n1 c1) := by
      have h0 : (w3.setCell ⟨qb, 4, none⟩ (.int .i64 0)).heap[qb]? = some (.cells #[.slice ca cn cc, .slice a0 n0 c0, .slice a1 n1 c1, .int .i64 p.turn, .int .i64 0] 29 (0, 0)) := heap_setCell_same _ qb 4 _ _ _ HQ.out
      exact heap_setCell_same _ qb 3 _ _ _ h0
    have HBU : Hid (Below V.heap.size V (((w3.setCell ⟨qb, 4, none⟩ (.int .i64 0)).setCell ⟨qb, 3, none⟩ (.int .i64 (1 - p.turn))).drew)) := Lib.hid ((HA.out.setCell HQL.out _).setCell HQL.out _).drew
    have HQU := Lib.hid hU.facts.1
    clear hU HQ HA HQL x0 x1 x2 x3 x4 q0 q1 q2 q3 q4 f0 f1 f2 f3 f4
    generalize ((w3.setCell ⟨qb, 4, none⟩ (.int .i64 0)).setCell ⟨qb, 3, none⟩ (.int .i64 (1 - p.turn))).drew = w4 at HBU HQU ⊢
    obtain ⟨x0, x1, x2, x3, x4⟩ := HX.out _ HBU.out
    obtain ⟨y0, y1, y2, y3, y4, y5, y6, y7, y8, y9, y10⟩ := HY.out _ HBU.out
    obtain ⟨q0, q1, q2, q3, q4⟩ := HQU.out
    unfold flipD at q3 q4
    dsimp only at q3 q4
    go_wp2_with fail
    go_at_call 11; refine (HKQ1.out _ HBU.out).mono ?_; rintro e w5 ⟨rfl, hb⟩
    have HB5 := Lib.hid (HBU.out.trans (hb.mono HBU.out.size))
    have HBE := Lib.hid (HB.out.trans (HB5.out.mono HB.out.size))
    clear hb HBU HQU HKQ1 x0 x1 x2 x3 x4 y0 y1 y2 y3 y4 y5 y6 y7 y8 y9 y10 q0 q1 q2 q3 q4
    obtain ⟨x0, x1, x2, x3, x4⟩ := HX.out _ HB5.out
    go_wp2_with fail
    go_at_call 14; refine (HM.out _).mono ?_; rintro e w' ⟨rfl, rfl⟩
    by_cases ht : p.turn = 1
    · have hte : (p.turn == 1) = true := by simpa using ht
      have hd : IntKind.u64.wrap ((k1.toNat : Int) - (k0.toNat : Int)) = (N.toNat : Int) := by rw [b_sub, HD1.out, if_pos ht]
      have hNN : ((N.toNat : Int) == (N.toNat : Int)) = true := by simp
      clear ht HD1
      go_wp2_with fail
      go_ret
      exact ⟨rfl, HBE.out⟩
    · have hte : (p.turn == 1) = false := by simpa using ht
      have hd : IntKind.u64.wrap ((k1.toNat : Int) - (k0.toNat : Int)) = (M.toNat : Int) := by rw [b_sub, HD1.out, if_neg ht]
      have hMM : ((M.toNat : Int) == (M.toNat : Int)) = true := by simp
      clear ht HD1
      go_wp2_with fail
      go_ret
      exact ⟨rfl, HBE.out⟩
  · have HZ := HK0.out hz
    subst HZ
    have hne : (c != 0) = true := by simpa using hz
    have HBE := Lib.hid (HB.out.trans (HB2.out.mono HB.out.size))
    clear HK0 HK1 HOK HKQ HD HT
    go_wp2_with fail
    go_ret
    exact ⟨rfl, HBE.out⟩
end Go.Proofs.Ytlnapegbhfphgaa
