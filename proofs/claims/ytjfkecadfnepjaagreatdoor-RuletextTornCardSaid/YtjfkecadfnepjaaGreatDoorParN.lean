/- ruletext's parser: number, side, choice, flag. -/
import Derived.Test.YtjfkecadfnepjaaGreatDoorParL
set_option maxRecDepth 100000
namespace Go.Proofs.YtjfkecadfnepjaaGreatDoor
open Go.ChangeShapes Go.WideShapes Go.ChangeAt Go.RowKit

theorem data_str (x : List UInt8) : (str x).data.toList = x := by simp [str]
def AtoiP (n : Int) (W : World) (e : Ending) (w' : World) : Prop := e = .returned (.tuple #[.int .i64 n, .nilIface]) ∧ Below W.heap.size W w'
def AtoiB (W : World) (e : Ending) (w' : World) : Prop := ∃ z t p, e = .returned (.tuple #[.int .i64 z, .iface t p]) ∧ Below W.heap.size W w'
theorem atoi_ok {x : List UInt8} {v : Int} (hx : x.length ≤ 8192) (h : Lib.atoiAll x = .ok v) (w : World) : Calls Tryz.prog 74 #[.string (str x)] w (AtoiP v w) := by
  refine (Tryz.strconv_Atoi_ok (str x) (by rw [str_size]; omega) v (by rw [data_str]; exact h) w).mono ?_
  rintro e w' ⟨rfl, rfl | ⟨t, rfl⟩⟩
  · exact ⟨rfl, Below.refl _ _⟩
  · exact ⟨rfl, Lib.bytesWorld_below _ _ _⟩
theorem atoi_bad {B : Nat} {x : List UInt8} (hx : x.length ≤ 8192) (h : ∀ v, Lib.atoiAll x ≠ .ok v) (w : World) (hE : Env B w) : Calls Tryz.prog 74 #[.string (str x)] w (AtoiB w) := by
  obtain ⟨_, _, ⟨t1, p1, _, h1⟩, t2, p2, _, h2⟩ := hE
  cases hq : Lib.atoiAll x
  · exact absurd hq (h _)
  · refine (Tryz.strconv_Atoi_syntax (str x) (by rw [str_size]; omega) (by rw [data_str]; exact hq) _ w h1 (.inr ⟨t1, p1, rfl⟩)).mono ?_
    rintro e w' ⟨N, rfl, _, _, hb⟩
    exact ⟨_, _, _, rfl, hb⟩
  · refine (Tryz.strconv_Atoi_range (str x) (by rw [str_size]; omega) (by rw [data_str]; exact hq) _ w h2 (.inr ⟨t2, p2, rfl⟩)).mono ?_
    rintro e w' ⟨N, rfl, _, _, hb⟩
    exact ⟨_, _, _, rfl, hb⟩
theorem itoa_all {B : Nat} (n : Int) (h0 : -9223372036854775808 ≤ n) (h1 : n ≤ 9223372036854775807) (w : World) (hE : Env B w) :
    Calls Tryz.prog 17 #[.int .i64 n] w fun e w' => e = .returned (.string (numS n)) ∧ Below w.heap.size w w' := by
  refine (Tryz.strconv_Itoa n h0 h1 w hE.1.here).mono ?_
  rintro e w' ⟨rfl, k, os, rfl⟩
  exact ⟨rfl, Lib.below_grow _ _ (Nat.le_refl _) k os⟩
theorem PAt.keepB {B b : Nat} {s : PS} {W W' : World} (h : PAt W b s) (hB : B ≤ b) (hb : Below W.heap.size W W') : PAt W' b s ∧ Fr B b W W' := ⟨h.below hb, Fr.of hb (by have := h.lt; omega)⟩
/-- Behind a failure. -/
theorem par_fail {B b : Nat} {s : PS} {W W1 : World} {v : Value} (hB : B ≤ b) (h : PAt W1 b s) (hf : Fr B b W W1) : ParPost B b v (failS s) W (.returned v) (W1.setCell ⟨b, 1, none⟩ (.bool true)) := ⟨rfl, h.fail, hf.set hB 1 _⟩
theorem bad_at {W : World} {b : Nat} {s : PS} (h : PAt W b s) : ∃ u bad, W.cell? ⟨b, 0, none⟩ = some u ∧ W.cell? ⟨b, 1, none⟩ = some (.bool bad) ∧ W.frozen? ⟨b, 1, none⟩ = false := by
  obtain ⟨a, c, h1, _⟩ := h
  obtain ⟨c0, c1, _, f1⟩ := h1.facts
  exact ⟨_, _, c0, c1, f1⟩
theorem numV_ok {x : List UInt8} {v : Int} (h : Lib.atoiAll x = .ok v) : numV x = if num v = x then some v else none := by rw [numV, h]
theorem numV_bad {x : List UInt8} (h : ∀ v, Lib.atoiAll x ≠ .ok v) : numV x = none := by
  unfold numV
  split
  · rename_i v hv; exact absurd hv (h v)
  · rfl
theorem str_inj {x y : List UInt8} (h : str x = str y) : x = y := by rw [← data_str x, h, data_str]
set_option maxHeartbeats 1000000 in
theorem number_par (B b : Nat) (x : List UInt8) (s : PS) (w : World) (h : PAt w b s) (hx : x.length ≤ 8192) (hB : B ≤ b) (hE : Env B w) :
    Calls Tryz.prog 53 #[.pointer (some ⟨b, 0, none⟩), .string (str x)] w (ParPost B b (.int .i64 (numM x s).1) (numM x s).2 w) := by
  have HP := Lib.hid h
  have HE := Lib.hid hE
  obtain ⟨X, hX⟩ : ∃ X, X = str x := ⟨_, rfl⟩
  by_cases hv : ∃ v, Lib.atoiAll x = .ok v
  · obtain ⟨v, hv⟩ := hv
    obtain ⟨v0, v1⟩ := Lib.atoiAll_bounds hv
    have HA : Hid (Calls Tryz.prog 74 #[.string X] w (AtoiP v w)) := Lib.hid (by rw [hX]; exact atoi_ok hx hv w)
    have HN := Lib.hid (numV_ok hv)
    have HX := Lib.hid hX
    rw [← hX]
    obtain ⟨V, hV⟩ : ∃ V, V = numS v := ⟨_, rfl⟩
    have HV := Lib.hid hV
    have HI : Hid (∀ W, Below w.heap.size w W → Calls Tryz.prog 17 #[.int .i64 v] W fun e w' => e = .returned (.string V) ∧ Below W.heap.size W w') := Lib.hid (fun W hb => by
      rw [hV]; exact itoa_all v v0 v1 W (HE.out.below (hb.mono (by have := h.lt; omega))))
    clear hX hv h hx hE hV
    go_enter Tryz.func53, Tryz.ntmps53
    go_wp2_with fail
    go_at_call 74; refine HA.out.mono ?_; rintro e w1 ⟨rfl, hb1⟩
    have HB1 := Lib.hid hb1
    clear hb1
    go_wp2_with fail
    go_at_call 17; refine (HI.out _ HB1.out).mono ?_; rintro e w2 ⟨rfl, hb2⟩
    have HB2 : Hid (Below w.heap.size w w2) := Lib.hid (HB1.out.trans (hb2.mono HB1.out.size))
    clear hb2
    have HP2 := Lib.hid (HP.out.keepB hB HB2.out)
    obtain ⟨u, bad, c0, c1, f1⟩ := bad_at HP2.out.1
    rcases Bool.eq_false_or_eq_true (V.toList == X.toList) with hne | hne
    · have HM : Hid (numM x s = (v, s)) := Lib.hid (by
        have e : num v = x := by
          have e := beq_iff_eq.1 hne
          rw [HV.out, HX.out, Lib.toList_data, Lib.toList_data, numS, data_str, data_str] at e
          exact e
        rw [numM, HN.out, if_pos e]; rfl)
      go_wp2_with fail
      go_ret
      rw [HM.out]
      exact ⟨rfl, HP2.out.1, HP2.out.2⟩
    · have HM : Hid (numM x s = (0, failS s)) := Lib.hid (by
        have e : num v ≠ x := fun e => by
          refine beq_eq_false_iff_ne.1 hne ?_
          rw [HV.out, HX.out, numS, e]
        rw [numM, HN.out, if_neg e]; rfl)
      go_wp2_with fail
      go_ret
      rw [HM.out]
      exact par_fail hB HP2.out.1 HP2.out.2
  · have hv2 : ∀ v, Lib.atoiAll x ≠ .ok v := fun v e => hv ⟨v, e⟩
    have HA : Hid (Calls Tryz.prog 74 #[.string X] w (AtoiB w)) := Lib.hid (by rw [hX]; exact atoi_bad hx hv2 w hE)
    have HM : Hid (numM x s = (0, failS s)) := Lib.hid (by rw [numM, numV_bad hv2]; rfl)
    rw [← hX]
    clear hX hv hv2 h hx hE
    go_enter Tryz.func53, Tryz.ntmps53
    go_wp2_with fail
    go_at_call 74; refine HA.out.mono ?_; rintro e w1 ⟨z, t, p, rfl, hb1⟩
    have HP2 := Lib.hid (HP.out.keepB hB hb1)
    clear hb1
    obtain ⟨u, bad, c0, c1, f1⟩ := bad_at HP2.out.1
    go_wp2_with fail
    go_ret
    rw [HM.out]
    exact par_fail hB HP2.out.1 HP2.out.2
set_option maxHeartbeats 1000000 in
theorem side_par (B b : Nat) (x : List UInt8) (s : PS) (w : World) (h : PAt w b s) (hx : x.length ≤ 8192) (hB : B ≤ b) (hE : Env B w) :
    Calls Tryz.prog 47 #[.pointer (some ⟨b, 0, none⟩), .string (str x)] w (ParPost B b (.int .i64 (sideM x s).1) (sideM x s).2 w) := by
  have HN : Hid (Calls Tryz.prog 53 #[.pointer (some ⟨b, 0, none⟩), .string (str x)] w (ParPost B b (.int .i64 (numM x s).1) (numM x s).2 w)) := Lib.hid (number_par B b x s w h hx hB hE)
  have HM : Hid (sideM x s = if inB (numM x s).1 1 8 = true then numM x s else (0, failS (numM x s).2)) := Lib.hid rfl
  obtain ⟨n, hn⟩ : ∃ n, n = (numM x s).1 := ⟨_, rfl⟩
  have HQ := Lib.hid hn
  obtain ⟨X, hX⟩ : ∃ X, X = str x := ⟨_, rfl⟩
  rw [← hn, ← hX] at HN
  rw [← hX]
  clear h hx hE hn hX
  go_enter Tryz.func47, Tryz.ntmps47
  go_wp2_with fail
  go_at_call 53; refine HN.out.mono ?_; rintro e w1 ⟨rfl, hp1, hf1⟩
  have HP := Lib.hid hp1
  have HF := Lib.hid hf1
  obtain ⟨u, bad, c0, c1, f1⟩ := bad_at hp1
  clear hp1 hf1
  rcases hc : inB n 1 8 with _ | _
  · have HM2 : Hid (sideM x s = (0, failS (numM x s).2)) := Lib.hid (by rw [HM.out, ← HQ.out, if_neg (by rw [hc]; decide)])
    rw [inB_no] at hc
    go_wp2_with fail
    all_goals
      go_ret
      rw [HM2.out]
      exact par_fail hB HP.out HF.out
  · have HM2 : Hid (sideM x s = numM x s) := Lib.hid (by rw [HM.out, ← HQ.out, if_pos hc])
    rw [inB_iff] at hc
    obtain ⟨hc1, hc2⟩ := hc
    go_wp2_with fail
    go_ret
    rw [HM2.out, ← HQ.out]
    exact ⟨rfl, HP.out, HF.out⟩
set_option maxHeartbeats 1000000 in
theorem flag_par (B b : Nat) (k : List UInt8) (s : PS) (w : World) (h : PAt w b s) (hk : k.length ≤ 100) (hB : B ≤ b) (hE : Env B w) :
    Calls Tryz.prog 50 #[.pointer (some ⟨b, 0, none⟩), .string (str k)] w (ParPost B b (.bool (flagM k s).1) (flagM k s).2 w) := by
  have HBG : Hid (Calls Tryz.prog 68 #[.pointer (some ⟨b, 0, none⟩), .string (str k)] w fun e w' => e = .returned (.bool (begM k s)) ∧ w = w') := Lib.hid (turned (begins_any b k s w h hk))
  have HL : Hid (Calls Tryz.prog 46 #[.pointer (some ⟨b, 0, none⟩), .string (str k), .int .i64 (0 : Nat)] w (WordsP B b (lineM k 0 s).1 (lineM k 0 s).2 w)) := Lib.hid (line_par B b k 0 s w h hk (by decide) hB hE)
  have HP := Lib.hid h
  obtain ⟨X, hX⟩ : ∃ X, X = str k := ⟨_, rfl⟩
  rw [← hX] at HBG HL ⊢
  cases hb : begM k s with
  | false =>
    have HM : Hid (flagM k s = (false, s)) := Lib.hid (by rw [flagM, if_neg (by rw [hb]; decide)])
    rw [hb] at HBG
    clear h hk hE hX hb
    go_enter Tryz.func50, Tryz.ntmps50
    go_wp2_with fail
    go_at_call 68; refine HBG.out.mono ?_; rintro e w' ⟨rfl, rfl⟩
    go_wp2_with fail
    go_ret
    rw [HM.out]
    exact ⟨rfl, HP.out, Fr.refl _ _ _⟩
  | true =>
    have HM : Hid (flagM k s = (true, (lineM k 0 s).2)) := Lib.hid (by rw [flagM, if_pos hb])
    rw [hb] at HBG
    clear h hk hE hX hb
    go_enter Tryz.func50, Tryz.ntmps50
    go_wp2_with fail
    go_at_call 68; refine HBG.out.mono ?_; rintro e w' ⟨rfl, rfl⟩
    go_wp2_with fail
    go_at_call 46; refine HL.out.mono ?_; rintro e w1 ⟨a, c, rfl, -, hp1, hf1⟩
    go_wp2_with fail
    go_ret
    rw [HM.out]
    exact ⟨rfl, hp1, hf1⟩
end Go.Proofs.YtjfkecadfnepjaaGreatDoor
