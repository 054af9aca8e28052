/- gamehallkeep1.RulesMirrored: the law's own walk. -/
import Derived.Test.YtmkofmblpfldbaaEqR
namespace Go.Proofs.Ytmkofmblpfldbaa
open Go.ChangeShapes Go.WideShapes Go.ChangeAt Go.RowKit

def inL : List Int := [1, 0, 0, 0, 0, 0, 0, 0, 2]
def outL : List Int := [0, 0, 1, 0, 0, 0, 2, 0, 0]
theorem in_E : rulesE (threeD inL) = 0 := by decide +kernel
theorem in_out : mirD (threeD inL) = threeD outL := by
  show { threeD inL with start := mirL 3 3 inL } = threeD outL
  rw [show mirL 3 3 inL = outL by decide +kernel]
  rfl
theorem ints_new (W : World) (st : List Int) (t : TypeId) (cs : Array Value) (h : cs.toList = st.map (.int .i64)) (hm : st.length ≤ maxLen) : IsSl IntAt 1 (W.alloc (.cells cs t)) (.slice (some ⟨W.heap.size, 0, none⟩) st.length st.length) st := by
  have hs : cs.size = st.length * 1 := by rw [← Array.length_toList, h, List.length_map, Nat.mul_one]
  have h1 := World.ownsRow_lit (base := 0) (e := t) (size := 1) W cs st.length (Nat.zero_le _) hm hs
  rw [h] at h1
  exact ints_of_own h1 rfl
theorem rulesV_mir (r : RulesD) (a b c : Value) : RulesV (mirD r) a b c = RulesV r a b c := rfl
theorem mirD_len {r : RulesD} (hz : rulesE r = 0) : r.start.length = (mirD r).start.length := by
  obtain ⟨W, H, hw, hh, _, _, _, _, hl, _⟩ := ok_nats hz
  rw [mirD, hw, hh, hl]
  simp [mirL, mirTo]
set_option maxRecDepth 100000 in
set_option maxHeartbeats 4000000 in
theorem rulesMirrored_full (r : RulesD) (vp vs ve : Value) (w : World) (hr : RulesIn w r vp vs ve) :
    Calls Try.prog 3 #[RulesV r vp vs ve] w fun e w' => e = .returned (.bool true) ∧ Below w.heap.size w w' := by
  have HR : Hid _ := Lib.hid hr
  obtain ⟨ap, cp, rfl, _, _⟩ := hr.1.1.shape (n := r.pieces.length) rfl
  obtain ⟨sa, cs0, rfl, _, _⟩ := hr.1.2.1.shape (n := r.start.length) rfl
  obtain ⟨ea, ce, rfl, _, _⟩ := hr.1.2.2.shape (n := r.ends.length) rfl
  have HBX : Hid _ := Lib.hid (boxR_new w r (.slice ap r.pieces.length cp) (.slice sa r.start.length cs0) (.slice ea r.ends.length ce) 26)
  have HB0 : Hid (Below w.heap.size w (w.alloc (.cells #[.string r.name, .int .i64 r.width, .int .i64 r.height, .slice ap r.pieces.length cp, .slice sa r.start.length cs0, .bool r.falls, .bool r.keeps, .slice ea r.ends.length ce, .int .i64 r.blocked, .int .i64 r.quiet, .int .i64 r.rep] 26))) := Lib.hid ((Below.refl _ _).alloc (Nat.le_refl _) _)
  unfold RulesCells at HBX
  unfold RulesV
  clear hr
  go_enter Try.func3, Try.ntmps3
  go_wp2_with fail
  go_at_call 5; refine (three_keep _).mono ?_; rintro e w1 ⟨vp1, vs1, ve1, rfl, hin, hb⟩
  have HB1 : Hid (Below w.heap.size w w1) := Lib.hid (HB0.out.trans (hb.mono HB0.out.size))
  have HX1 : Hid _ := Lib.hid (BoxR.below HBX.out hb (Nat.le_refl _))
  obtain ⟨ap1, cp1, rfl, _, _⟩ := hin.1.1.shape rfl
  obtain ⟨sa1, cs1, rfl, _, _⟩ := hin.1.2.1.shape rfl
  obtain ⟨ea1, ce1, rfl, _, _⟩ := hin.1.2.2.shape rfl
  have HI1 : Hid _ := Lib.hid hin
  clear hb HBX hin HB0
  unfold RulesV threeD
  go_wp2_with fail
  go_at_call 6
  have hba := ((Below.refl w1.heap.size w1).alloc (Nat.le_refl _) (.cells #[.string ⟨#[84, 73, 67]⟩, .int .i64 3, .int .i64 3, .slice ap1 1 cp1, .slice (some ⟨w1.heap.size + 1, 0, none⟩) 9 9, .bool false, .bool false, .slice ea1 1 ce1, .int .i64 2, .int .i64 0, .int .i64 0] 26)).alloc (by simp) (.cells #[.int .i64 1, .int .i64 0, .int .i64 0, .int .i64 0, .int .i64 0, .int .i64 0, .int .i64 0, .int .i64 0, .int .i64 2] 3)
  have hs2 := ints_new (w1.alloc (.cells #[.string ⟨#[84, 73, 67]⟩, .int .i64 3, .int .i64 3, .slice ap1 1 cp1, .slice (some ⟨w1.heap.size + 1, 0, none⟩) 9 9, .bool false, .bool false, .slice ea1 1 ce1, .int .i64 2, .int .i64 0, .int .i64 0] 26)) inL 3 #[.int .i64 1, .int .i64 0, .int .i64 0, .int .i64 0, .int .i64 0, .int .i64 0, .int .i64 0, .int .i64 0, .int .i64 2] rfl (by decide)
  rw [World.size_alloc] at hs2
  have hbx2 := BoxR.below (boxR_new w1 (threeD inL) (.slice ap1 1 cp1) (.slice (some ⟨w1.heap.size + 1, 0, none⟩) 9 9) (.slice ea1 1 ce1) 26) ((Below.refl _ _).alloc (Nat.le_refl _) (.cells #[.int .i64 1, .int .i64 0, .int .i64 0, .int .i64 0, .int .i64 0, .int .i64 0, .int .i64 0, .int .i64 0, .int .i64 2] 3)) (Nat.le_refl _)
  have hin2 : RulesIn _ (threeD inL) (.slice ap1 1 cp1) (.slice (some ⟨w1.heap.size + 1, 0, none⟩) 9 9) (.slice ea1 1 ce1) := ⟨⟨(HI1.out.below hba (Nat.le_refl _)).1.1, hs2, (HI1.out.below hba (Nat.le_refl _)).1.2.2⟩, HI1.out.2⟩
  have HB2 := Lib.hid (HB1.out.trans (hba.mono HB1.out.size))
  have HX2 := Lib.hid (BoxR.below HX1.out hba (Nat.le_refl _))
  unfold RulesCells threeD at hbx2
  refine (mirror_ok (threeD inL) _ _ _ _ hin2 in_E).mono ?_
  generalize ((w1.alloc (.cells #[.string ⟨#[84, 73, 67]⟩, .int .i64 3, .int .i64 3, .slice ap1 1 cp1, .slice (some ⟨w1.heap.size + 1, 0, none⟩) 9 9, .bool false, .bool false, .slice ea1 1 ce1, .int .i64 2, .int .i64 0, .int .i64 0] 26)).alloc (.cells #[.int .i64 1, .int .i64 0, .int .i64 0, .int .i64 0, .int .i64 0, .int .i64 0, .int .i64 0, .int .i64 0, .int .i64 2] 3)) = w2 at hbx2 hin2 HB2 HX2 ⊢
  rintro e w3 ⟨vp2, vs2, ve2, rfl, hin3, hb⟩
  rw [in_out] at hin3 ⊢
  have HB3 : Hid (Below w.heap.size w w3) := Lib.hid (HB2.out.trans (hb.mono HB2.out.size))
  have HX3 : Hid _ := Lib.hid (BoxR.below HX2.out hb (Nat.le_refl _))
  have HT3 : Hid _ := Lib.hid (BoxR.below hbx2 hb (Nat.le_refl _))
  have HI3 : Hid _ := Lib.hid (hin2.below hb (Nat.le_refl _))
  obtain ⟨ap3, cp3, rfl, _, _⟩ := hin3.1.1.shape rfl
  obtain ⟨sa3, cs3, rfl, _, _⟩ := hin3.1.2.1.shape rfl
  obtain ⟨ea3, ce3, rfl, _, _⟩ := hin3.1.2.2.shape rfl
  have HM3 : Hid _ := Lib.hid hin3
  clear hb hba hs2 hbx2 hin2 hin3 HB2 HX2 HB1 HX1 HI1
  unfold RulesV threeD
  go_wp2_with fail
  go_at_call 7
  have hba := ((Below.refl w3.heap.size w3).alloc (Nat.le_refl _) (.cells #[.string ⟨#[84, 73, 67]⟩, .int .i64 3, .int .i64 3, .slice ap3 1 cp3, .slice sa3 9 cs3, .bool false, .bool false, .slice ea3 1 ce3, .int .i64 2, .int .i64 0, .int .i64 0] 26)).alloc (by simp) (.cells #[.int .i64 0, .int .i64 0, .int .i64 1, .int .i64 0, .int .i64 0, .int .i64 0, .int .i64 2, .int .i64 0, .int .i64 0] 3)
  have hs2 := ints_new (w3.alloc (.cells #[.string ⟨#[84, 73, 67]⟩, .int .i64 3, .int .i64 3, .slice ap3 1 cp3, .slice sa3 9 cs3, .bool false, .bool false, .slice ea3 1 ce3, .int .i64 2, .int .i64 0, .int .i64 0] 26)) outL 3 #[.int .i64 0, .int .i64 0, .int .i64 1, .int .i64 0, .int .i64 0, .int .i64 0, .int .i64 2, .int .i64 0, .int .i64 0] rfl (by decide)
  rw [World.size_alloc] at hs2
  have hs3 := HM3.out.1.2.1.below int_keeps hba (Nat.le_refl _)
  have HB4 := Lib.hid (HB3.out.trans (hba.mono HB3.out.size))
  have HX4 := Lib.hid (BoxR.below HX3.out hba (Nat.le_refl _))
  have HT4 := Lib.hid (BoxR.below HT3.out hba (Nat.le_refl _))
  have HI4 := Lib.hid (HI3.out.below hba (Nat.le_refl _))
  refine (equal_any outL outL _ _ _ (row_of hs3) (row_of hs2) (by decide)).mono ?_
  change ∀ e w', BoolPost ((w3.alloc (.cells #[.string ⟨#[84, 73, 67]⟩, .int .i64 3, .int .i64 3, .slice ap3 1 cp3, .slice sa3 9 cs3, .bool false, .bool false, .slice ea3 1 ce3, .int .i64 2, .int .i64 0, .int .i64 0] 26)).alloc (.cells #[.int .i64 0, .int .i64 0, .int .i64 1, .int .i64 0, .int .i64 0, .int .i64 0, .int .i64 2, .int .i64 0, .int .i64 0] 3)) _ e w' → _
  generalize ((w3.alloc (.cells #[.string ⟨#[84, 73, 67]⟩, .int .i64 3, .int .i64 3, .slice ap3 1 cp3, .slice sa3 9 cs3, .bool false, .bool false, .slice ea3 1 ce3, .int .i64 2, .int .i64 0, .int .i64 0] 26)).alloc (.cells #[.int .i64 0, .int .i64 0, .int .i64 1, .int .i64 0, .int .i64 0, .int .i64 0, .int .i64 2, .int .i64 0, .int .i64 0] 3)) = w4 at HB4 HX4 HT4 HI4 ⊢
  rintro e w5 ⟨rfl, hb⟩
  rw [decide_eq_true (rfl : outL = outL)]
  have HB5 := Lib.hid (HB4.out.trans (hb.mono HB4.out.size))
  have HX5 := Lib.hid (BoxR.below HX4.out hb (Nat.le_refl _))
  have ht5 := BoxR.below HT4.out hb (Nat.le_refl _)
  have hi5 := HI4.out.below hb (Nat.le_refl _)
  have HC5 := Lib.hid (check_any (threeD inL) _ _ _ w5 hi5)
  rw [in_E] at HC5
  clear hb hba hs2 hs3 HB4 HX4 HT4 HI4 HB3 HX3 HT3 HI3 HM3 hi5
  unfold BoxR at ht5
  obtain ⟨b0, b1, b2, b3, b4, b5, b6, b7, b8, b9, b10⟩ := ht5
  go_wp2_with fail
  go_at_call 8; refine HC5.out.mono ?_; rintro e w6 ⟨rfl, hb⟩
  have HB6 := Lib.hid (HB5.out.trans (hb.mono HB5.out.size))
  have hx6 := BoxR.below HX5.out hb (Nat.le_refl _)
  have HX6 := Lib.hid hx6
  clear hb HB5 HX5 b0 b1 b2 b3 b4 b5 b6 b7 b8 b9 b10 HC5
  unfold BoxR at hx6
  obtain ⟨b0, b1, b2, b3, b4, b5, b6, b7, b8, b9, b10⟩ := hx6
  have HR6 := Lib.hid (HR.out.below HB6.out (Nat.le_refl _))
  go_wp2_with fail
  by_cases hz : rulesE r = 0
  · have HZ : Hid _ := Lib.hid hz
    have HZM : Hid _ := Lib.hid (mirD_E hz)
    have HLE : Hid _ := Lib.hid (mirD_len hz)
    go_at_call 6; refine (mirror_ok r _ _ _ _ HR6.out hz).mono ?_; rintro e w7 ⟨vp7, vs7, ve7, rfl, hin, hb⟩
    rw [rulesV_mir]
    have HB7 := Lib.hid (HB6.out.trans (hb.mono HB6.out.size))
    have HX7 := Lib.hid (BoxR.below HX6.out hb (Nat.le_refl _))
    obtain ⟨ap7, cp7, rfl, _, _⟩ := hin.1.1.shape (n := r.pieces.length) rfl
    obtain ⟨sa7, cs7, rfl, _, _⟩ := hin.1.2.1.shape HLE.out
    obtain ⟨ea7, ce7, rfl, _, _⟩ := hin.1.2.2.shape (n := r.ends.length) rfl
    have HI7 := Lib.hid hin
    clear hb hin hz b0 b1 b2 b3 b4 b5 b6 b7 b8 b9 b10 HB6 HX6 HR6
    unfold RulesV
    go_wp2_with fail
    go_at_call 6
    have hba := (Below.refl w7.heap.size w7).alloc (Nat.le_refl _) (.cells (RulesCells r (.slice ap7 r.pieces.length cp7) (.slice sa7 r.start.length cs7) (.slice ea7 r.ends.length ce7)) 26)
    have hbx := boxR_new w7 r (.slice ap7 r.pieces.length cp7) (.slice sa7 r.start.length cs7) (.slice ea7 r.ends.length ce7) 26
    have HB8 := Lib.hid (HB7.out.trans (hba.mono HB7.out.size))
    have HX8 := Lib.hid (BoxR.below HX7.out hba (Nat.le_refl _))
    have HI8 := Lib.hid (HI7.out.below hba (Nat.le_refl _))
    unfold RulesCells at hba hbx HB8 HX8 HI8
    generalize w7.alloc (.cells #[.string r.name, .int .i64 r.width, .int .i64 r.height, .slice ap7 r.pieces.length cp7, .slice sa7 r.start.length cs7, .bool r.falls, .bool r.keeps, .slice ea7 r.ends.length ce7, .int .i64 r.blocked, .int .i64 r.quiet, .int .i64 r.rep] 26) = w8 at hbx HB8 HX8 HI8 ⊢
    refine (mirror_ok (mirD r) _ _ _ _ HI8.out HZM.out).mono ?_
    rintro e w9 ⟨vp9, vs9, ve9, rfl, hin9, hb⟩
    rw [mirD_mirD HZ.out] at hin9 ⊢
    have HB9 := Lib.hid (HB8.out.trans (hb.mono HB8.out.size))
    have HX9 := Lib.hid (BoxR.below HX8.out hb (Nat.le_refl _))
    have HY9 := Lib.hid (BoxR.below hbx hb (Nat.le_refl _))
    have HI9 := Lib.hid (HI8.out.below hb (Nat.le_refl _))
    obtain ⟨ap9, cp9, rfl, _, _⟩ := hin9.1.1.shape (n := r.pieces.length) rfl
    obtain ⟨sa9, cs9, rfl, _, _⟩ := hin9.1.2.1.shape (n := r.start.length) rfl
    obtain ⟨ea9, ce9, rfl, _, _⟩ := hin9.1.2.2.shape (n := r.ends.length) rfl
    have HJ9 := Lib.hid hin9
    have hy9 := BoxR.below HY9.out ((Below.refl w9.heap.size w9).alloc (Nat.le_refl _) (.cells (RulesCells r (.slice ap9 r.pieces.length cp9) (.slice sa9 r.start.length cs9) (.slice ea9 r.ends.length ce9)) 26)) (Nat.le_refl _)
    clear hb hbx hba hin9 HB7 HX7 HI7 HB8 HX8 HI8
    unfold RulesCells BoxR at hy9
    obtain ⟨b0, b1, b2, b3, b4, b5, b6, b7, b8, b9, b10⟩ := hy9
    unfold RulesV
    go_wp2_with fail
    go_at_call 8
    have hba := (Below.refl w9.heap.size w9).alloc (Nat.le_refl _) (.cells (RulesCells r (.slice ap9 r.pieces.length cp9) (.slice sa9 r.start.length cs9) (.slice ea9 r.ends.length ce9)) 26)
    have hbx := boxR_new w9 r (.slice ap9 r.pieces.length cp9) (.slice sa9 r.start.length cs9) (.slice ea9 r.ends.length ce9) 26
    have HB10 := Lib.hid (HB9.out.trans (hba.mono HB9.out.size))
    have HX10 := Lib.hid (BoxR.below HX9.out hba (Nat.le_refl _))
    have HJ10 := Lib.hid (HJ9.out.below hba (Nat.le_refl _))
    have hck := check_any (mirD r) _ _ _ _ (HI9.out.below hba (Nat.le_refl _))
    rw [HZM.out] at hck
    have HCK := Lib.hid hck
    clear hck
    unfold RulesCells at hbx HB10 HX10 HJ10 HCK
    clear hba b0 b1 b2 b3 b4 b5 b6 b7 b8 b9 b10
    generalize w9.alloc (.cells #[.string r.name, .int .i64 r.width, .int .i64 r.height, .slice ap9 r.pieces.length cp9, .slice sa9 r.start.length cs9, .bool r.falls, .bool r.keeps, .slice ea9 r.ends.length ce9, .int .i64 r.blocked, .int .i64 r.quiet, .int .i64 r.rep] 26) = w10 at hbx HB10 HX10 HJ10 HCK ⊢
    refine HCK.out.mono ?_
    rintro e w11 ⟨rfl, hb⟩
    have HB11 := Lib.hid (HB10.out.trans (hb.mono HB10.out.size))
    have HX11 := Lib.hid (BoxR.below HX10.out hb (Nat.le_refl _))
    have HY11 := Lib.hid (BoxR.below hbx hb (Nat.le_refl _))
    have HJ11 := Lib.hid (HJ10.out.below hb (Nat.le_refl _))
    have heq := (equal_any r.start r.start _ _ w11 (row_of HJ11.out.1.2.1) (row_of (HR.out.below HB11.out (Nat.le_refl _)).1.2.1) (by have := (fits_ok HZ.out).2.1.2; omega))
    rw [decide_eq_true (rfl : r.start = r.start)] at heq
    have HEQ := Lib.hid heq
    clear heq
    clear hb hbx HB9 HX9 HY9 HI9 HJ9 HB10 HX10 HJ10 HCK
    have hx4 := HX11.out.2.2.2.2.1
    have hy4 := HY11.out.2.2.2.2.1
    go_wp2_with fail
    go_at_call 7; refine HEQ.out.mono ?_; rintro e w12 ⟨rfl, hb⟩
    have HB12 := Lib.hid (HB11.out.trans (hb.mono HB11.out.size))
    have hx0 := (BoxR.below HX11.out hb (Nat.le_refl _)).1
    have hy0 := (BoxR.below HY11.out hb (Nat.le_refl _)).1
    clear hb hx4 hy4 HB11 HX11 HY11 HJ11 HEQ
    go_wp2_with fail
    go_ret
    exact ⟨rfl, HB12.out⟩
  · have HZ : Hid _ := Lib.hid hz
    go_at_call 6; refine (mirror_bad r _ _ _ _ HR6.out hz).mono ?_; rintro e w7 ⟨rfl, hb⟩
    obtain ⟨c, hc⟩ : ∃ c : Int, c = rulesE r := ⟨_, rfl⟩
    have HC : Hid _ := Lib.hid hc
    rw [← hc] at hz ⊢
    have hne : (c != 0) = true := by simpa using hz
    have HB7 := Lib.hid (HB6.out.trans (hb.mono HB6.out.size))
    have HX7 := Lib.hid (BoxR.below HX6.out hb (Nat.le_refl _))
    have hx8 := BoxR.below HX7.out ((Below.refl w7.heap.size w7).alloc (Nat.le_refl _) (.cells (RulesCells zero0 (.slice none 0 0) (.slice none 0 0) (.slice none 0 0)) 26)) (Nat.le_refl _)
    clear hb hz hc b0 b1 b2 b3 b4 b5 b6 b7 b8 b9 b10 HB6 HX6 HR6
    unfold RulesCells BoxR zero0 at hx8
    obtain ⟨b0, b1, b2, b3, b4, b5, b6, b7, b8, b9, b10⟩ := hx8
    unfold RulesV zero0
    go_wp2_with fail
    go_at_call 8
    have hba := (Below.refl w7.heap.size w7).alloc (Nat.le_refl _) (.cells (RulesCells zero0 (.slice none 0 0) (.slice none 0 0) (.slice none 0 0)) 26)
    have hbx := boxR_new w7 zero0 (.slice none 0 0) (.slice none 0 0) (.slice none 0 0) 26
    have HB8 := Lib.hid (HB7.out.trans (hba.mono HB7.out.size))
    have hck := check_any r _ _ _ _ (HR.out.below HB8.out (Nat.le_refl _))
    rw [← HC.out] at hck
    refine hck.mono ?_
    rintro e w9 ⟨rfl, hb⟩
    have HB9 := Lib.hid (HB8.out.trans (hb.mono HB8.out.size))
    have hz4 := (BoxR.below hbx hb (Nat.le_refl _)).2.2.2.2.1
    clear hb hba hbx hck b0 b1 b2 b3 b4 b5 b6 b7 b8 b9 b10
    go_wp2_with fail
    go_ret
    exact ⟨rfl, HB9.out⟩
end Go.Proofs.Ytmkofmblpfldbaa
