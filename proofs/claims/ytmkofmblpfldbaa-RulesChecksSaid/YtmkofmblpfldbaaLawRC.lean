/- gamehalllaw1.RulesChecks: the law's own walk. -/
import Derived.Test.YtmkofmblpfldbaaThreeR
import Derived.Test.YtmkofmblpfldbaaRefRules
namespace Go.Proofs.Ytmkofmblpfldbaa
open Go.ChangeShapes Go.WideShapes Go.ChangeAt Go.RowKit

def zeroD : RulesD := { name := ⟨#[]⟩, width := 0, height := 0, pieces := [], start := [], falls := false, keeps := false, ends := [], blocked := 0, quiet := 0, rep := 0 }
theorem zero_in (w : World) : RulesIn w zeroD (.slice none 0 0) (.slice none 0 0) (.slice none 0 0) := ⟨⟨.inl ⟨rfl, _, _, rfl⟩, .inl ⟨rfl, _, _, rfl⟩, .inl ⟨rfl, _, _, rfl⟩⟩, by decide⟩
theorem zero_E : rulesE zeroD = 6 := by decide +kernel
theorem three_E : rulesE (threeD [0, 0, 0, 0, 0, 0, 0, 0, 0]) = 0 := by decide +kernel
theorem three_last : lastE (threeD [0, 0, 0, 0, 0, 0, 0, 0, 0]) 0 7 = 0 ∧ lastV (threeD [0, 0, 0, 0, 0, 0, 0, 0, 0]) 0 7 = true := by decide +kernel
theorem name_A1 : nameB (⟨#[65, 49]⟩ : ByteArray).data.toList = true := by decide +kernel
theorem checkZero (w : World) : Calls Try.prog 8 #[.agg #[.string ⟨#[]⟩, .int .i64 0, .int .i64 0, .slice none 0 0, .slice none 0 0, .bool false, .bool false, .slice none 0 0, .int .i64 0, .int .i64 0, .int .i64 0]] w (BelPost (.int .i64 6) w) := by
  have h := check_any zeroD _ _ _ w (zero_in w)
  rw [zero_E] at h
  exact h
theorem lastThree {vp vs ve : Value} {w : World} (hr : RulesIn w (threeD [0, 0, 0, 0, 0, 0, 0, 0, 0]) vp vs ve) : Calls Try.prog 10 #[RulesV (threeD [0, 0, 0, 0, 0, 0, 0, 0, 0]) vp vs ve, .int .i64 0, .int .i64 7] w (BelPost (.tuple #[.bool true, .int .i64 0]) w) := by
  have h := last_any _ vp vs ve 0 7 w hr
  unfold LastPost at h
  rw [three_last.1, three_last.2] at h
  exact h
theorem checkThree {vp vs ve : Value} {w : World} (hr : RulesIn w (threeD [0, 0, 0, 0, 0, 0, 0, 0, 0]) vp vs ve) : Calls Try.prog 8 #[RulesV (threeD [0, 0, 0, 0, 0, 0, 0, 0, 0]) vp vs ve] w (BelPost (.int .i64 0) w) := by
  have h := check_any _ vp vs ve w hr
  rw [three_E] at h
  exact h
set_option maxRecDepth 100000 in
set_option maxHeartbeats 4000000 in
theorem rulesChecks_full (r : RulesD) (vp vs ve : Value) (t : ByteArray) (p s : Int) (w : World) (hr : RulesIn w r vp vs ve) (hf : LettersFit r.pieces) (ht : t.size ≤ maxLen) :
    Calls Try.prog 4 #[RulesV r vp vs ve, .string t, .int .i64 p, .int .i64 s] w fun e w' => e = .returned (.bool true) ∧ Below w.heap.size w w' := by
  have HCK : Hid (∀ W, Below w.heap.size w W → Calls Try.prog 8 #[RulesV r vp vs ve] W (BelPost (.int .i64 (rulesE r)) W)) := Lib.hid (fun W h => check_any r vp vs ve W (hr.below h (Nat.le_refl _)))
  have HRF : Hid (∀ W, Below w.heap.size w W → Calls Try.prog 12 #[RulesV r vp vs ve] W (BelPost (.int .i64 (rulesE r)) W)) := Lib.hid (fun W h => rulesError_any r vp vs ve W (hr.below h (Nat.le_refl _)) hf)
  have HLA : Hid (∀ W, Below w.heap.size w W → Calls Try.prog 10 #[RulesV r vp vs ve, .int .i64 p, .int .i64 s] W (LastPost r p s W)) := Lib.hid (fun W h => last_any r vp vs ve p s W (hr.below h (Nat.le_refl _)))
  have HNA : Hid _ := Lib.hid name_A1
  have HT : Hid _ := Lib.hid ht
  obtain ⟨n, hnn⟩ : ∃ n : Nat, n = r.pieces.length := ⟨_, rfl⟩
  obtain ⟨l, hll⟩ : ∃ l : Nat, l = r.start.length := ⟨_, rfl⟩
  obtain ⟨m, hm⟩ : ∃ m : Nat, m = r.ends.length := ⟨_, rfl⟩
  obtain ⟨ap, cp, rfl, _, _⟩ := hr.1.1.shape hnn
  obtain ⟨sa, cs, rfl, _, _⟩ := hr.1.2.1.shape hll
  obtain ⟨ea, ce, rfl, _, _⟩ := hr.1.2.2.shape hm
  have HBX : Hid _ := Lib.hid (boxR_new w r (.slice ap n cp) (.slice sa l cs) (.slice ea m ce) 26)
  have HB0 : Hid (Below w.heap.size w (w.alloc (.cells #[.string r.name, .int .i64 r.width, .int .i64 r.height, .slice ap n cp, .slice sa l cs, .bool r.falls, .bool r.keeps, .slice ea m ce, .int .i64 r.blocked, .int .i64 r.quiet, .int .i64 r.rep] 26))) := Lib.hid ((Below.refl _ _).alloc (Nat.le_refl _) _)
  have HLL : Hid _ := Lib.hid hll
  unfold RulesCells at HBX
  unfold RulesV at HCK HRF HLA ⊢
  clear hr hnn hll hm hf ht
  go_enter Try.func4, Try.ntmps4
  go_wp2_with fail
  go_at_call 8; refine (checkZero _).mono ?_; rintro e w1 ⟨rfl, hb⟩
  have HB1 : Hid (Below w.heap.size w w1) := Lib.hid (HB0.out.trans (hb.mono HB0.out.size))
  have HX1 : Hid _ := Lib.hid (BoxR.below HBX.out hb (Nat.le_refl _))
  clear hb HBX
  go_wp2_with fail
  go_at_call 9; refine (three_law _).mono ?_; rintro e w2 ⟨vp, vs, ve, rfl, hin, hb⟩
  have HB2 : Hid (Below w.heap.size w w2) := Lib.hid (HB1.out.trans (hb.mono HB1.out.size))
  have HX2 : Hid _ := Lib.hid (BoxR.below HX1.out hb (Nat.le_refl _))
  have HI : Hid _ := Lib.hid hin
  clear hb HX1 hin
  go_wp2_with fail
  go_at_call 8; refine (checkThree HI.out).mono ?_; rintro e w3 ⟨rfl, hb⟩
  have HB3 : Hid (Below w.heap.size w w3) := Lib.hid (HB2.out.trans (hb.mono HB2.out.size))
  have HX3 : Hid _ := Lib.hid (BoxR.below HX2.out hb (Nat.le_refl _))
  clear hb HX2 HI
  go_wp2_with fail
  go_at_call 9; refine (three_law _).mono ?_; rintro e w4 ⟨vp, vs, ve, rfl, hin, hb⟩
  have HB4 : Hid (Below w.heap.size w w4) := Lib.hid (HB3.out.trans (hb.mono HB3.out.size))
  have HX4 : Hid _ := Lib.hid (BoxR.below HX3.out hb (Nat.le_refl _))
  have HI : Hid _ := Lib.hid hin
  clear hb HX3 hin
  go_wp2_with fail
  go_at_call 10; refine (lastThree HI.out).mono ?_; rintro e w5 ⟨rfl, hb⟩
  have HB5 : Hid (Below w.heap.size w w5) := Lib.hid (HB4.out.trans (hb.mono HB4.out.size))
  have HX5 : Hid _ := Lib.hid (BoxR.below HX4.out hb (Nat.le_refl _))
  clear hb HX4 HI
  go_wp2_with fail
  go_at_call 11; refine (name_any _ _ (by decide)).mono ?_; rintro e w' ⟨rfl, rfl⟩
  rw [HNA.out]
  obtain ⟨b0, b1, b2, b3, b4, b5, b6, b7, b8, b9, b10⟩ := HX5.out
  go_wp2_with fail
  go_at_call 12; refine (HRF.out _ HB5.out).mono ?_; rintro e w6 ⟨rfl, hb⟩
  have HB6 : Hid (Below w.heap.size w w6) := Lib.hid (HB5.out.trans (hb.mono HB5.out.size))
  have HX6 : Hid _ := Lib.hid (BoxR.below HX5.out hb (Nat.le_refl _))
  clear hb HX5 b0 b1 b2 b3 b4 b5 b6 b7 b8 b9 b10 HRF
  obtain ⟨b0, b1, b2, b3, b4, b5, b6, b7, b8, b9, b10⟩ := HX6.out
  obtain ⟨c, hc⟩ : ∃ c : Int, c = rulesE r := ⟨_, rfl⟩
  rw [← hc] at HCK ⊢
  have HCC : Hid _ := Lib.hid hc
  clear hc
  go_wp2_with fail
  go_at_call 8; refine (HCK.out _ HB6.out).mono ?_; rintro e w7 ⟨rfl, hb⟩
  have HB7 : Hid (Below w.heap.size w w7) := Lib.hid (HB6.out.trans (hb.mono HB6.out.size))
  have HX7 : Hid _ := Lib.hid (BoxR.below HX6.out hb (Nat.le_refl _))
  clear hb HX6 b0 b1 b2 b3 b4 b5 b6 b7 b8 b9 b10 HCK
  go_wp2_with fail
  go_at_call 11; refine (name_any t _ HT.out).mono ?_; rintro e w' ⟨rfl, rfl⟩
  go_wp2_with fail
  go_at_call 13; refine (named_any t _ HT.out).mono ?_; rintro e w' ⟨rfl, rfl⟩
  obtain ⟨b0, b1, b2, b3, b4, b5, b6, b7, b8, b9, b10⟩ := HX7.out
  go_wp2_with fail
  go_at_call 10; refine (HLA.out _ HB7.out).mono ?_; rintro e w8 ⟨rfl, hb⟩
  have HB8 : Hid (Below w.heap.size w w8) := Lib.hid (HB7.out.trans (hb.mono HB7.out.size))
  have HX8 : Hid _ := Lib.hid (BoxR.below HX7.out hb (Nat.le_refl _))
  clear hb HX7 b0 b1 b2 b3 b4 b5 b6 b7 b8 b9 b10 HLA
  obtain ⟨b0, b1, b2, b3, b4, b5, b6, b7, b8, b9, b10⟩ := HX8.out
  by_cases hz : rulesE r = 0
  · obtain ⟨_, k2, k3, _, k5, _, _⟩ := rulesE_ok hz
    obtain ⟨hst, _⟩ := startE_ok k5
    obtain ⟨hw1, hw2⟩ := inB_iff.1 k2
    obtain ⟨hh1, hh2⟩ := inB_iff.1 k3
    obtain ⟨A, hA⟩ : ∃ A : Int, A = r.width * r.height := ⟨_, rfl⟩
    have hA1 : 1 ≤ A := by rw [hA]; have := Int.mul_le_mul hw1 hh1 (by omega) (by omega); simpa using this
    have hA2 : A ≤ 64 := by rw [hA]; have := Int.mul_le_mul hw2 hh2 (by omega) (by omega); simpa using this
    have hlA : (l : Int) = A := by rw [HLL.out, hst, hA]
    have hl1 : 1 ≤ l := by omega
    have hl2 : l ≤ 64 := by omega
    have KE : Hid (lastE r p s = if p ≠ 0 ∧ p ≠ 1 then 1 else if inB s 0 ((l : Int) - 1) = false then 4 else 0) := Lib.hid (by rw [lastE, if_neg (by simpa using hz), hlA, hA])
    have hw0 : (r.width == 0) = false := by simp; omega
    obtain rfl : 0 = c := by rw [HCC.out, hz]
    clear hz k2 k3 k5 hst hA hlA hA1 hA2
    by_cases hp : p = 0 ∨ p = 1
    · have KE2 : Hid (lastE r p s = if inB s 0 ((l : Int) - 1) = false then 4 else 0) := Lib.hid (by rw [KE.out, if_neg (by omega)])
      have KI : Hid (inB p 0 1 = true) := Lib.hid (by rw [inB_iff]; omega)
      clear KE
      cases hs : inB s 0 ((l : Int) - 1)
      · have K : Hid (lastE r p s = 4) := Lib.hid (by rw [KE2.out, hs]; rfl)
        have K2 : Hid (lastV r p s = false) := Lib.hid (lastV_no (by rw [K.out]; decide)).symm
        have KS : Hid _ := Lib.hid hs
        rw [K.out, K2.out]
        clear hs KE2 hp
        go_wp2_with fail
        go_at_call 14; refine (turned (in_any _ _ _ _)).mono ?_; rintro e w' ⟨rfl, rfl⟩
        rw [KI.out]
        go_wp2_with fail
        go_at_call 14; refine (turned (in_any _ _ _ _)).mono ?_; rintro e w' ⟨rfl, rfl⟩
        rw [KS.out]
        go_wp2_with fail
        go_ret
        exact ⟨rfl, HB8.out⟩
      · have K : Hid (lastE r p s = 0) := Lib.hid (by rw [KE2.out, hs]; rfl)
        have K2 : Hid (lastV r p s = (if p = 0 then s / r.width == r.height - 1 else s / r.width == 0)) := Lib.hid (by
          have : (lastE r p s == 0) = true := by rw [K.out]; rfl
          rw [lastV, this]; rfl)
        have KS : Hid _ := Lib.hid hs
        obtain ⟨hs1, hs2⟩ := inB_iff.1 hs
        rw [K.out, K2.out]
        clear hs KE2
        rcases hp with rfl | rfl
        · rw [if_pos rfl]
          cases hb : (s / r.width == r.height - 1)
          all_goals
            go_wp2_with fail
            go_at_call 14; refine (turned (in_any _ _ _ _)).mono ?_; rintro e w' ⟨rfl, rfl⟩
            rw [KI.out]
            go_wp2_with fail
            go_at_call 14; refine (turned (in_any _ _ _ _)).mono ?_; rintro e w' ⟨rfl, rfl⟩
            rw [KS.out]
            go_wp2_with fail
            go_ret
            exact ⟨rfl, HB8.out⟩
        · rw [if_neg (by decide)]
          cases hb : (s / r.width == 0)
          all_goals
            go_wp2_with fail
            go_at_call 14; refine (turned (in_any _ _ _ _)).mono ?_; rintro e w' ⟨rfl, rfl⟩
            rw [KI.out]
            go_wp2_with fail
            go_at_call 14; refine (turned (in_any _ _ _ _)).mono ?_; rintro e w' ⟨rfl, rfl⟩
            rw [KS.out]
            go_wp2_with fail
            go_ret
            exact ⟨rfl, HB8.out⟩
    · have K : Hid (lastE r p s = 1) := Lib.hid (by rw [KE.out, if_pos (by omega)])
      have K2 : Hid (lastV r p s = false) := Lib.hid (lastV_no (by rw [K.out]; decide)).symm
      have KI : Hid (inB p 0 1 = false) := Lib.hid (by rw [inB_no]; omega)
      rw [K.out, K2.out]
      clear hp KE
      go_wp2_with fail
      go_at_call 14; refine (turned (in_any _ _ _ _)).mono ?_; rintro e w' ⟨rfl, rfl⟩
      rw [KI.out]
      go_wp2_with fail
      go_ret
      exact ⟨rfl, HB8.out⟩
  · have K : Hid (lastE r p s = c) := Lib.hid (by rw [lastE, if_pos hz, HCC.out])
    have K2 : Hid (lastV r p s = false) := Lib.hid (lastV_no (by rw [K.out, HCC.out]; exact hz)).symm
    have hne : (c == 0) = false := by rw [HCC.out]; simpa using hz
    have hne2 : (c != 0) = true := by rw [HCC.out]; simpa using hz
    rw [K.out, K2.out]
    clear hz
    go_wp2_with fail
    go_ret
    exact ⟨rfl, HB8.out⟩
end Go.Proofs.Ytmkofmblpfldbaa
