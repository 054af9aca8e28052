/- The law RuletextPrints: Print's text and errors are the reference's. -/
import Derived.Test.YtjmiflegdhmfjaaDoorRefTxt
import Derived.Test.YtjmiflegdhmfjaaDoorRefRules
import Derived.Test.YtjmiflegdhmfjaaDoorThreeR
import Derived.Test.YtjmiflegdhmfjaaDoorOpenR
set_option maxRecDepth 100000
namespace Go.Proofs.YtjmiflegdhmfjaaDoor
open Go.ChangeShapes Go.WideShapes Go.ChangeAt Go.RowKit

def three9 : RulesD := threeD [0, 0, 0, 0, 0, 0, 0, 0, 0]
theorem three9_ok : rulesE three9 = 0 := by decide +kernel
def StrPost (S : ByteArray) (w : World) (e : Ending) (w' : World) : Prop := e = .returned (.string S) ∧ Below w.heap.size w w'
def TupPost (S : ByteArray) (c : Int) (w : World) (e : Ending) (w' : World) : Prop := e = .returned (.tuple #[.string S, .int .i64 c]) ∧ Below w.heap.size w w'
set_option maxHeartbeats 4000000 in
theorem ruletextPrints_full (r : RulesD) (vp vs ve : Value) (w : World) (hr : RulesIn w r vp vs ve) (hf : LettersFit r.pieces) (hT : Tb w.heap.size w) :
    Calls Tryd.prog 3 #[RulesV r vp vs ve] w fun e w' => e = .returned (.bool true) ∧ Below w.heap.size w w' := by
  have HTB : Hid (∀ W, Below w.heap.size w W → Tb W.heap.size W) := Lib.hid (fun W h => hT.up h h.size)
  obtain ⟨S, hS⟩ : ∃ S, S = str (textB three9) := ⟨_, rfl⟩
  have HP3 : Hid (∀ vp vs ve W, RulesIn W three9 vp vs ve → Tb W.heap.size W → Calls Tryd.prog 4 #[RulesV three9 vp vs ve] W (TupPost S 0 W)) := Lib.hid (fun vp vs ve W h t => by rw [hS]; exact print_ok three9 vp vs ve W h three9_ok t)
  have HR3 : Hid (∀ vp vs ve W, RulesIn W three9 vp vs ve → Calls Tryd.prog 6 #[RulesV three9 vp vs ve] W (StrPost S W)) := Lib.hid (fun vp vs ve W h => by rw [hS]; exact rulesText_any three9 vp vs ve W h.1 (rOk three9_ok))
  obtain ⟨c, hc⟩ : ∃ c, c = rulesE r := ⟨_, rfl⟩
  have HRE : Hid (∀ W, Below w.heap.size w W → Calls Tryd.prog 7 #[RulesV r vp vs ve] W (BelPost (.int .i64 c) W)) := Lib.hid (fun W h => by rw [hc]; exact rulesError_any r vp vs ve W (hr.below h (Nat.le_refl _)) hf)
  have HPB : Hid (c ≠ 0 → ∀ W, Below w.heap.size w W → Calls Tryd.prog 4 #[RulesV r vp vs ve] W (TupPost ⟨#[]⟩ c W)) := Lib.hid (fun hz W h => by rw [hc]; exact print_bad r vp vs ve W (hr.below h (Nat.le_refl _)) (by rw [← hc]; exact hz))
  obtain ⟨T, hTT⟩ : ∃ T, T = str (textB r) := ⟨_, rfl⟩
  have HPG : Hid (c = 0 → ∀ W, Below w.heap.size w W → Calls Tryd.prog 4 #[RulesV r vp vs ve] W (TupPost T 0 W)) := Lib.hid (fun hz W h => by rw [hTT]; exact print_ok r vp vs ve W (hr.below h (Nat.le_refl _)) (by rw [← hc]; exact hz) (HTB.out W h))
  have HRT : Hid (c = 0 → ∀ W, Below w.heap.size w W → Calls Tryd.prog 6 #[RulesV r vp vs ve] W (StrPost T W)) := Lib.hid (fun hz W h => by rw [hTT]; exact rulesText_any r vp vs ve W (hr.below h (Nat.le_refl _)).1 (rOk (by rw [← hc]; exact hz)))
  have HB1 : Hid (Below w.heap.size w (w.alloc (.cells #[.string r.name, .int .i64 r.width, .int .i64 r.height, vp, vs, .bool r.falls, .bool r.keeps, ve, .int .i64 r.blocked, .int .i64 r.quiet, .int .i64 r.rep] 26))) := Lib.hid ((Below.refl _ _).alloc (Nat.le_refl _) _)
  have HX1 : Hid (BoxR (w.alloc (.cells #[.string r.name, .int .i64 r.width, .int .i64 r.height, vp, vs, .bool r.falls, .bool r.keeps, ve, .int .i64 r.blocked, .int .i64 r.quiet, .int .i64 r.rep] 26)) w.heap.size r vp vs ve) := Lib.hid (boxR_new w r vp vs ve _)
  unfold RulesV at HRE HPB HPG HRT ⊢
  clear hr hf hT hS hc hTT
  go_enter Tryd.func3, Tryd.ntmps3
  go_wp2_with fail
  go_at_call 5; refine (three_law _).mono ?_; rintro e w2 ⟨p3, s3, e3, rfl, hr3, hb⟩
  have HB2 := Lib.hid (HB1.out.trans (hb.mono HB1.out.size))
  have HX2 := Lib.hid (HX1.out.below hb (Nat.le_refl _))
  have HI2 := Lib.hid hr3
  clear hb hr3 HB1 HX1
  go_wp2_with fail
  go_at_call 4; refine (HP3.out p3 s3 e3 _ HI2.out (HTB.out _ HB2.out)).mono ?_; rintro e w3 ⟨rfl, hb⟩
  have HB3 := Lib.hid (HB2.out.trans (hb.mono HB2.out.size))
  have HX3 := Lib.hid (HX2.out.below hb (Nat.le_refl _))
  clear hb HI2 HB2 HX2
  go_wp2_with fail
  go_at_call 5; refine (three_law _).mono ?_; rintro e w4 ⟨p4, s4, e4, rfl, hr4, hb⟩
  have HB4 := Lib.hid (HB3.out.trans (hb.mono HB3.out.size))
  have HX4 := Lib.hid (HX3.out.below hb (Nat.le_refl _))
  have HI4 := Lib.hid hr4
  clear hb hr4 HB3 HX3
  go_wp2_with fail
  go_at_call 6; refine (HR3.out p4 s4 e4 _ HI4.out).mono ?_; rintro e w5 ⟨rfl, hb⟩
  have HB5 := Lib.hid (HB4.out.trans (hb.mono HB4.out.size))
  have HX5 := Lib.hid (HX4.out.below hb (Nat.le_refl _))
  clear hb HI4 HB4 HX4
  obtain ⟨b0, b1, b2, b3, b4, b5, b6, b7, b8, b9, b10⟩ := HX5.out
  go_wp2_with fail
  by_cases hz : c = 0
  · have HPG2 := Lib.hid (HPG.out hz)
    have HRT2 := Lib.hid (HRT.out hz)
    subst hz
    clear HPG HRT HPB
    go_at_call 4; refine (HPG2.out _ HB5.out).mono ?_; rintro e w6 ⟨rfl, hb⟩
    have HB6 := Lib.hid (HB5.out.trans (hb.mono HB5.out.size))
    have HX6 := Lib.hid (HX5.out.below hb (Nat.le_refl _))
    clear hb HB5 HX5 b0 b1 b2 b3 b4 b5 b6 b7 b8 b9 b10
    obtain ⟨b0, b1, b2, b3, b4, b5, b6, b7, b8, b9, b10⟩ := HX6.out
    go_wp2_with fail
    go_at_call 7; refine (HRE.out _ HB6.out).mono ?_; rintro e w7 ⟨rfl, hb⟩
    have HB7 := Lib.hid (HB6.out.trans (hb.mono HB6.out.size))
    have HX7 := Lib.hid (HX6.out.below hb (Nat.le_refl _))
    clear hb HB6 HX6 b0 b1 b2 b3 b4 b5 b6 b7 b8 b9 b10
    obtain ⟨b0, b1, b2, b3, b4, b5, b6, b7, b8, b9, b10⟩ := HX7.out
    go_wp2_with fail
    go_at_call 6; refine (HRT2.out _ HB7.out).mono ?_; rintro e w8 ⟨rfl, hb⟩
    have HB8 := Lib.hid (HB7.out.trans (hb.mono HB7.out.size))
    clear hb HB7 HX7 b0 b1 b2 b3 b4 b5 b6 b7 b8 b9 b10
    go_wp2_with fail
    go_ret
    exact ⟨rfl, HB8.out⟩
  · have HPB2 := Lib.hid (HPB.out hz)
    have hne : (c != 0) = true := by simpa using hz
    clear HPG HRT HPB hz
    go_at_call 4; refine (HPB2.out _ HB5.out).mono ?_; rintro e w6 ⟨rfl, hb⟩
    have HB6 := Lib.hid (HB5.out.trans (hb.mono HB5.out.size))
    have HX6 := Lib.hid (HX5.out.below hb (Nat.le_refl _))
    clear hb HB5 HX5 b0 b1 b2 b3 b4 b5 b6 b7 b8 b9 b10
    obtain ⟨b0, b1, b2, b3, b4, b5, b6, b7, b8, b9, b10⟩ := HX6.out
    go_wp2_with fail
    go_at_call 7; refine (HRE.out _ HB6.out).mono ?_; rintro e w7 ⟨rfl, hb⟩
    have HB7 := Lib.hid (HB6.out.trans (hb.mono HB6.out.size))
    clear hb HB6 HX6 b0 b1 b2 b3 b4 b5 b6 b7 b8 b9 b10
    go_wp2_with fail
    go_ret
    exact ⟨rfl, HB7.out⟩
end Go.Proofs.YtjmiflegdhmfjaaDoor
