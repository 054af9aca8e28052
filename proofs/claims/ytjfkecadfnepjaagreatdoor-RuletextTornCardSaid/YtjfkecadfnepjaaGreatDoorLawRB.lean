/- The law RuletextBack: what is printed is read as it was, and what is read is printed so. -/
import Derived.Test.YtjfkecadfnepjaaGreatDoorParT
import Derived.Test.YtjfkecadfnepjaaGreatDoorPrint
import Derived.Test.YtjfkecadfnepjaaGreatDoorThreeR
import Derived.Test.YtjfkecadfnepjaaGreatDoorOpenR
set_option maxRecDepth 100000
namespace Go.Proofs.YtjfkecadfnepjaaGreatDoor
open Go.ChangeShapes Go.WideShapes Go.ChangeAt Go.RowKit

theorem fineFn (w : World) : Calls Tryz.prog 27 #[.int .i64 0] w fun e w' => e = .returned (.bool false) ∧ w' = w := by
  go_enter Tryz.func27, Tryz.ntmps27
  go_wp2_with fail
  go_ret
  exact ⟨rfl, rfl⟩
def Two0 (w : World) (g : Nat) : Prop := w.cell? ⟨g, 0, none⟩ = some (.int .i64 0) ∧ w.cell? ⟨g, 1, none⟩ = some (.int .i64 0)
set_option maxHeartbeats 1000000 in
theorem idxErr (g : Nat) (w : World) (h : Two0 w g) :
    Calls Tryz.prog 54 #[.slice (some ⟨g, 0, none⟩) 2 2, .func (.func 27) #[] #[]] w fun e w' => e = .returned (.int .i64 (-1)) ∧ w' = w := by
  obtain ⟨c0, c1⟩ := h
  have hc : ∀ k, k < 2 → w.cell? ⟨g, k, none⟩ = some (.int .i64 0) := by
    intro k hk
    obtain rfl | rfl : k = 0 ∨ k = 1 := by omega
    · exact c0
    · exact c1
  have HC := Lib.hid hc
  clear hc c0 c1
  go_enter Tryz.func54, Tryz.ntmps54
  go_wp2
  go_loopw [8] (fun i wr => ∃ k : Nat, k ≤ 2 ∧ i = .int .i64 (k : Int) ∧ w = wr) (fun i _ => 2 - (intOf i).toNat)
  case atStart => exact ⟨0, by omega, rfl, rfl⟩
  case round =>
    obtain ⟨k, hk, rfl, rfl⟩ := hrel
    by_cases hlt : k < 2
    · have c := HC.out k hlt
      go_wp2_with fail
      go_at_call 27; refine (turned (fineFn _)).mono ?_; rintro e w' ⟨rfl, rfl⟩
      go_wp2_with fail
      go_roundw
      case rel => exact ⟨k + 1, by omega, by go_num, by first | rfl | trivial⟩
      case measure => simp [intOf]; omega
    · go_wp2_with fail
      go_ret
      exact ⟨rfl, rfl⟩
theorem fine_zero (g : Nat) (w : World) (h : Two0 w g) : Calls Tryz.prog 8 #[.slice (some ⟨g, 0, none⟩) 2 2] w fun e w' => e = .returned (.bool true) ∧ w' = w := by
  have HI : Hid (Calls Tryz.prog 54 #[.slice (some ⟨g, 0, none⟩) 2 2, .func (.func 27) #[] #[]] w fun e w' => e = .returned (.int .i64 (-1)) ∧ w = w') := Lib.hid (turned (idxErr g w h))
  have HCF : Hid (Calls Tryz.prog 26 #[.slice (some ⟨g, 0, none⟩) 2 2, .func (.func 27) #[] #[]] w fun e w' => e = .returned (.bool false) ∧ w = w') := Lib.hid (by
    clear h
    go_enter Tryz.func26, Tryz.ntmps26
    go_wp2_with fail
    go_at_call 54; refine HI.out.mono ?_; rintro e w' ⟨rfl, rfl⟩
    go_wp2_with fail
    go_ret
    exact ⟨rfl, rfl⟩)
  clear h
  go_enter Tryz.func8, Tryz.ntmps8
  go_wp2_with fail
  go_at_call 26; refine HCF.out.mono ?_; rintro e w' ⟨rfl, rfl⟩
  go_wp2_with fail
  go_ret
  exact ⟨rfl, rfl⟩
theorem parse_all (S : ByteArray) (w : World) (hE : Env w.heap.size w) : Calls Tryz.prog 7 #[.string S] w (ParseP S.data.toList w) := by
  have hS : S = str S.data.toList := (str_data S).symm
  by_cases hb : S.size ≤ 8192
  · exact parse_small S.data.toList S w hS hb hE
  · exact parse_big S.data.toList S w hS (by omega)
theorem text_short {r : RulesD} (h : rulesE r = 0) : (textB r).length ≤ 8192 := by
  obtain ⟨a, b, c, d, e, f, g, i, j⟩ := text_le (rOk h)
  simp only [textB, List.length_append]; omega
/-- Rules that were read: their fields, and where their slices lie. -/
def ReadP (r : RulesD) (w : World) (e : Ending) (w' : World) : Prop := ∃ pa pn pc sa sn sc ea en ec, e = .returned (.tuple #[.agg #[.string r.name, .int .i64 r.width, .int .i64 r.height, .slice pa pn pc, .slice sa sn sc, .bool r.falls, .bool r.keeps, .slice ea en ec, .int .i64 r.blocked, .int .i64 r.quiet, .int .i64 r.rep], .int .i64 0]) ∧ RulesIn w' r (.slice pa pn pc) (.slice sa sn sc) (.slice ea en ec) ∧ Below w.heap.size w w'
theorem read_of {r : RulesD} {w w' : World} {vp vs ve : Value} (hr : RulesIn w' r vp vs ve) (hb : Below w.heap.size w w') : ReadP r w (.returned (.tuple #[RulesV r vp vs ve, .int .i64 0])) w' := by
  obtain ⟨pa, pc, rfl, -, -⟩ := hr.1.1.shape (n := r.pieces.length) rfl
  obtain ⟨sa, sc, rfl, -, -⟩ := hr.1.2.1.shape (n := r.start.length) rfl
  obtain ⟨ea, ec, rfl, -, -⟩ := hr.1.2.2.shape (n := r.ends.length) rfl
  exact ⟨pa, _, pc, sa, _, sc, ea, _, ec, rfl, hr, hb⟩
theorem parse_text_of (r : RulesD) (h : rulesE r = 0) (w : World) (hE : Env w.heap.size w) : Calls Tryz.prog 7 #[.string (str (textB r))] w (ReadP r w) := by
  refine (parse_all (str (textB r)) w hE).mono ?_
  obtain ⟨h1, h2⟩ := parse_print h (text_short h)
  rintro e w' ⟨vp, vs, ve, rfl, hr, _, hb⟩
  rw [data_str] at hr ⊢
  have e1 : parseR (textB r) = r := by rw [parseR, if_pos h1, h2]
  rw [e1] at hr ⊢
  rw [h1]
  exact read_of hr hb
/-- A text that is read: as good rules of this text. -/
theorem parse_good (S : ByteArray) (w : World) (hE : Env w.heap.size w) (h : parseE S.data.toList = 0) : Calls Tryz.prog 7 #[.string S] w (ReadP (parseR S.data.toList) w) := by
  refine (parse_all S w hE).mono ?_
  rintro e w' ⟨vp, vs, ve, rfl, hr, _, hb⟩
  rw [h]
  exact read_of hr hb
theorem parse_goodR {S : ByteArray} (h : parseE S.data.toList = 0) : rulesE (parseR S.data.toList) = 0 ∧ str (textB (parseR S.data.toList)) = S := by
  obtain ⟨h1, h2⟩ := parse_text h
  rw [parseR, if_pos h]
  exact ⟨h1, by rw [h2, str_data]⟩
def ReadNo (c : Int) (w : World) (e : Ending) (w' : World) : Prop := ∃ pa pc sa sc ea ec, e = .returned (.tuple #[.agg #[.string ⟨#[]⟩, .int .i64 0, .int .i64 0, .slice pa 0 pc, .slice sa 0 sc, .bool false, .bool false, .slice ea 0 ec, .int .i64 0, .int .i64 0, .int .i64 0], .int .i64 c]) ∧ Below w.heap.size w w'
theorem parse_badS (S : ByteArray) (w : World) (hE : Env w.heap.size w) (h : parseE S.data.toList ≠ 0) : Calls Tryz.prog 7 #[.string S] w (ReadNo (parseE S.data.toList) w) := by
  refine (parse_all S w hE).mono ?_
  rintro e w' ⟨vp, vs, ve, rfl, hr, _, hb⟩
  have e1 : parseR S.data.toList = zeroD := by rw [parseR, if_neg h]
  rw [e1] at hr ⊢
  obtain ⟨pa, pc, rfl, -, -⟩ := hr.1.1.shape (n := 0) rfl
  obtain ⟨sa, sc, rfl, -, -⟩ := hr.1.2.1.shape (n := 0) rfl
  obtain ⟨ea, ec, rfl, -, -⟩ := hr.1.2.2.shape (n := 0) rfl
  exact ⟨pa, pc, sa, sc, ea, ec, rfl, hb⟩
theorem fine_k (W : World) (g : Nat) (hg : g = W.heap.size) : Calls Tryz.prog 8 #[.slice (some ⟨g, 0, none⟩) 2 2] (W.alloc (.cells #[.int .i64 0, .int .i64 0] 27)) fun e w' => e = .returned (.bool true) ∧ Below W.heap.size W w' := by
  have hc : ∀ i, (W.alloc (.cells #[.int .i64 0, .int .i64 0] 27)).cell? ⟨g, i, none⟩ = (#[.int .i64 0, .int .i64 0] : Array Value)[i]? := fun i => by rw [hg]; exact cell_of_row _ W.heap.size i _ _ (0, 0) (heap_alloc_new W _)
  refine (fine_zero g _ ⟨hc 0, hc 1⟩).mono ?_
  rintro e w' ⟨rfl, rfl⟩
  exact ⟨rfl, (Below.refl _ _).alloc (Nat.le_refl _) _⟩
def TextP (S : ByteArray) (c : Int) (w : World) (e : Ending) (w' : World) : Prop := e = .returned (.tuple #[.string S, .int .i64 c]) ∧ Below w.heap.size w w'
theorem print_k (r : RulesD) (h : rulesE r = 0) (vp vs ve : Value) (w : World) (hr : RulesIn w r vp vs ve) (hE : Env w.heap.size w) : Calls Tryz.prog 5 #[RulesV r vp vs ve] w (TextP (str (textB r)) 0 w) := print_ok r vp vs ve w hr h hE.1
def three9 : RulesD := threeD [0, 0, 0, 0, 0, 0, 0, 0, 0]
theorem three9_ok : rulesE three9 = 0 := by decide +kernel
theorem three9_head : Lib.hasPrefix (textB three9) [103, 97, 109, 101, 32, 84, 73, 67, 32, 51, 32, 51, 10] = true := by
  have e : gameL three9 = [103, 97, 109, 101, 32, 84, 73, 67, 32, 51, 32, 51, 10] := by
    rw [gameL, show three9.width = 3 from rfl, show three9.height = 3 from rfl, num_digit (by decide) (by decide)]; rfl
  rw [Lib.hasPrefix, List.isPrefixOf_iff_prefix, ← e]
  simp only [textB, List.append_assoc]
  exact List.prefix_append _ _
def BackP (w : World) (e : Ending) (w' : World) : Prop := e = .returned (.bool true) ∧ Below w.heap.size w w'
set_option maxHeartbeats 8000000 in
theorem ruletextBack_full (r : RulesD) (vp vs ve : Value) (S : ByteArray) (w : World) (hr : RulesIn w r vp vs ve) (hE : Env w.heap.size w) :
    Calls Tryz.prog 3 #[RulesV r vp vs ve, .string S] w (BackP w) := by
  have HEV : Hid (∀ W, Below w.heap.size w W → Env W.heap.size W) := Lib.hid (fun W h => hE.up h h.size)
  obtain ⟨T3, hT3⟩ : ∃ T, T = str (textB three9) := ⟨_, rfl⟩
  have HP3 : Hid (∀ vp vs ve W, RulesIn W three9 vp vs ve → Env W.heap.size W → Calls Tryz.prog 5 #[RulesV three9 vp vs ve] W (TextP T3 0 W)) := Lib.hid (fun vp vs ve W h t => by rw [hT3]; exact print_k three9 three9_ok vp vs ve W h t)
  have HR3 : Hid (∀ W, Env W.heap.size W → Calls Tryz.prog 7 #[.string T3] W (ReadP three9 W)) := Lib.hid (fun W t => by rw [hT3]; exact parse_text_of three9 three9_ok W t)
  have HH3 : Hid (∀ W, Calls Tryz.prog 9 #[.string T3, .string ⟨#[103, 97, 109, 101, 32, 84, 73, 67, 32, 51, 32, 51, 10]⟩] W fun e w' => e = .returned (.bool true) ∧ W = w') := Lib.hid (by
    intro W
    have h1 := Tryz.strings_HasPrefix T3 ⟨#[103, 97, 109, 101, 32, 84, 73, 67, 32, 51, 32, 51, 10]⟩ W
    rw [hT3, data_str] at h1
    rw [hT3]
    rw [show (⟨#[103, 97, 109, 101, 32, 84, 73, 67, 32, 51, 32, 51, 10]⟩ : ByteArray).data.toList = [103, 97, 109, 101, 32, 84, 73, 67, 32, 51, 32, 51, 10] from rfl, three9_head] at h1
    exact turned h1)
  obtain ⟨c, hc⟩ : ∃ c, c = rulesE r := ⟨_, rfl⟩
  obtain ⟨T, hT⟩ : ∃ T, T = str (textB r) := ⟨_, rfl⟩
  have HPB : Hid (c ≠ 0 → ∀ W, Below w.heap.size w W → Calls Tryz.prog 5 #[RulesV r vp vs ve] W (TextP ⟨#[]⟩ c W)) := Lib.hid (fun hz W h => by rw [hc]; exact print_bad r vp vs ve W (hr.below h (Nat.le_refl _)) (by rw [← hc]; exact hz))
  have HPG : Hid (c = 0 → ∀ vp vs ve W, RulesIn W r vp vs ve → Env W.heap.size W → Calls Tryz.prog 5 #[RulesV r vp vs ve] W (TextP T 0 W)) := Lib.hid (fun hz vp vs ve W h t => by rw [hT]; exact print_k r (by rw [← hc]; exact hz) vp vs ve W h t)
  have HPR : Hid (c = 0 → ∀ W, Env W.heap.size W → Calls Tryz.prog 7 #[.string T] W (ReadP r W)) := Lib.hid (fun hz W t => by rw [hT]; exact parse_text_of r (by rw [← hc]; exact hz) W t)
  have HIN : Hid (∀ W, Below w.heap.size w W → RulesIn W r vp vs ve) := Lib.hid (fun W h => hr.below h (Nat.le_refl _))
  have HB1 : Hid (Below w.heap.size w (w.alloc (.cells #[.string r.name, .int .i64 r.width, .int .i64 r.height, vp, vs, .bool r.falls, .bool r.keeps, ve, .int .i64 r.blocked, .int .i64 r.quiet, .int .i64 r.rep] 26))) := Lib.hid ((Below.refl _ _).alloc (Nat.le_refl _) _)
  have HX1 : Hid (BoxR (w.alloc (.cells #[.string r.name, .int .i64 r.width, .int .i64 r.height, vp, vs, .bool r.falls, .bool r.keeps, ve, .int .i64 r.blocked, .int .i64 r.quiet, .int .i64 r.rep] 26)) w.heap.size r vp vs ve) := Lib.hid (boxR_new w r vp vs ve _)
  have HPA : Hid (∀ W, Below w.heap.size w W → Calls Tryz.prog 7 #[.string S] W (ParseP S.data.toList W)) := Lib.hid (fun W h => parse_all S W (HEV.out W h))
  unfold RulesV at HPB HPG ⊢
  clear hr hE hT3 hc hT
  go_enter Tryz.func3, Tryz.ntmps3
  go_wp2_with fail
  go_at_call 6; refine (three_keep _).mono ?_; rintro e w2 ⟨p3, s3, e3, rfl, hr3, hb⟩
  have HB2 := Lib.hid (HB1.out.trans (hb.mono HB1.out.size))
  have HX2 := Lib.hid (HX1.out.below hb (Nat.le_refl _))
  have HI2 := Lib.hid hr3
  clear hb hr3 HB1 HX1
  go_wp2_with fail
  go_at_call 5; refine (HP3.out p3 s3 e3 _ HI2.out (HEV.out _ HB2.out)).mono ?_; rintro e w3 ⟨rfl, hb⟩
  have HB3 := Lib.hid (HB2.out.trans (hb.mono HB2.out.size))
  have HX3 := Lib.hid (HX2.out.below hb (Nat.le_refl _))
  clear hb HI2 HB2 HX2
  go_wp2_with fail
  go_at_call 7; refine (HR3.out _ (HEV.out _ HB3.out)).mono ?_; rintro e w4 ⟨pa4, pn4, pc4, sa4, sn4, sc4, ea4, en4, ec4, rfl, hr4, hb⟩
  have HB4 := Lib.hid (HB3.out.trans (hb.mono HB3.out.size))
  have HX4 := Lib.hid (HX3.out.below hb (Nat.le_refl _))
  clear hb hr4 HB3 HX3
  go_wp2_with fail
  go_at_call 8; refine (fine_k _ _ (by simp)).mono ?_; rintro e w5 ⟨rfl, hb⟩
  have hb' := ((Below.refl w4.heap.size w4).alloc (Nat.le_refl _) _).trans (hb.mono (by simp))
  have HB5 := Lib.hid (HB4.out.trans (hb'.mono HB4.out.size))
  have HX5 := Lib.hid (HX4.out.below hb' (Nat.le_refl _))
  clear hb hb' HB4 HX4
  go_wp2_with fail
  go_at_call 9; refine (HH3.out _).mono ?_; rintro e w' ⟨rfl, rfl⟩
  obtain ⟨b0, b1, b2, b3, b4, b5, b6, b7, b8, b9, b10⟩ := HX5.out
  go_wp2_with fail
  by_cases hz : c = 0
  · have HPG1 := Lib.hid (HPG.out hz)
    have HPR1 := Lib.hid (HPR.out hz)
    clear HPG HPR HPB
    go_at_call 5; refine (HPG1.out _ _ _ _ (HIN.out _ HB5.out) (HEV.out _ HB5.out)).mono ?_; rintro e w6 ⟨rfl, hb⟩
    have HB6 := Lib.hid (HB5.out.trans (hb.mono HB5.out.size))
    clear hb b0 b1 b2 b3 b4 b5 b6 b7 b8 b9 b10 HX5 HB5
    go_wp2_with fail
    go_at_call 7; refine (HPR1.out _ (HEV.out _ HB6.out)).mono ?_; rintro e w7 ⟨pa, pn, pc, sa, sn, sc, ea, en, ec, rfl, hr7, hb⟩
    have HB7 := Lib.hid (HB6.out.trans (hb.mono HB6.out.size))
    have HR7 := Lib.hid hr7
    clear hb hr7 HB6
    go_wp2_with fail
    go_at_call 5; refine (HPG1.out _ _ _ _ (HR7.out.below ((Below.refl _ _).alloc (Nat.le_refl _) _) (Nat.le_refl _)) (HEV.out _ (HB7.out.trans (((Below.refl _ _).alloc (Nat.le_refl _) _).mono HB7.out.size)))).mono ?_; rintro e w8 ⟨rfl, hb⟩
    have hb' := ((Below.refl w7.heap.size w7).alloc (Nat.le_refl _) _).trans (hb.mono (by simp))
    have HB8 := Lib.hid (HB7.out.trans (hb'.mono HB7.out.size))
    clear hb hb' HB7 HR7
    go_wp2_with fail
    go_at_call 8; refine (fine_k _ _ (by simp)).mono ?_; rintro e w9 ⟨rfl, hb⟩
    have HB9 := Lib.hid (HB8.out.trans (hb.mono HB8.out.size))
    clear hb HB8
    go_wp2_with fail
    by_cases hq : parseE S.data.toList = 0
    · obtain ⟨R, hR⟩ : ∃ R, R = parseR S.data.toList := ⟨_, rfl⟩
      have HPS : Hid (∀ W, Below w.heap.size w W → Calls Tryz.prog 7 #[.string S] W (ReadP R W)) := Lib.hid (fun W h => by rw [hR]; exact parse_good S W (HEV.out W h) hq)
      have HPT : Hid (∀ vp vs ve W, RulesIn W R vp vs ve → Env W.heap.size W → Calls Tryz.prog 5 #[RulesV R vp vs ve] W (TextP S 0 W)) := Lib.hid (fun vp vs ve W h t => by
        obtain ⟨h1, h2⟩ := parse_goodR hq
        rw [← hR] at h1 h2
        have h3 := print_k R h1 vp vs ve W h t
        rw [h2] at h3; exact h3)
      clear hq hR HPA
      unfold RulesV at HPT
      go_at_call 7; refine (HPS.out _ HB9.out).mono ?_; rintro e wA ⟨qa, qn, qc, ta, tn, tc, ua, un, uc, rfl, hrA, hb⟩
      have HBA := Lib.hid (HB9.out.trans (hb.mono HB9.out.size))
      have HRA := Lib.hid hrA
      clear hb hrA HB9
      go_wp2_with fail
      go_at_call 5; refine (HPT.out _ _ _ _ (HRA.out.below ((Below.refl _ _).alloc (Nat.le_refl _) _) (Nat.le_refl _)) (HEV.out _ (HBA.out.trans (((Below.refl _ _).alloc (Nat.le_refl _) _).mono HBA.out.size)))).mono ?_; rintro e wB ⟨rfl, hb⟩
      have hb' := ((Below.refl wA.heap.size wA).alloc (Nat.le_refl _) _).trans (hb.mono (by simp))
      have HBB := Lib.hid (HBA.out.trans (hb'.mono HBA.out.size))
      clear hb hb' HBA HRA
      go_wp2_with fail
      go_ret
      exact ⟨rfl, HBB.out⟩
    · obtain ⟨E, hE⟩ : ∃ E, E = parseE S.data.toList := ⟨_, rfl⟩
      have HPS : Hid (∀ W, Below w.heap.size w W → Calls Tryz.prog 7 #[.string S] W (ReadNo E W)) := Lib.hid (fun W h => by rw [hE]; exact parse_badS S W (HEV.out W h) hq)
      have hne : (E != 0) = true := by rw [hE]; simpa using hq
      clear hq hE HPA
      go_at_call 7; refine (HPS.out _ HB9.out).mono ?_; rintro e wA ⟨qa, qc, ta, tc, ua, uc, rfl, hb⟩
      have HBA := Lib.hid (HB9.out.trans (hb.mono HB9.out.size))
      clear hb HB9
      go_wp2_with fail
      go_ret
      exact ⟨rfl, HBA.out.trans (((Below.refl _ _).alloc (Nat.le_refl _) _).mono HBA.out.size)⟩
  · have HPB1 := Lib.hid (HPB.out hz)
    have hc0 : (c == 0) = false := by simpa using hz
    clear HPG HPR HPB hz
    go_at_call 5; refine (HPB1.out _ HB5.out).mono ?_; rintro e w6 ⟨rfl, hb⟩
    have HB6 := Lib.hid (HB5.out.trans (hb.mono HB5.out.size))
    clear hb b0 b1 b2 b3 b4 b5 b6 b7 b8 b9 b10 HX5 HB5
    go_wp2_with fail
    by_cases hq : parseE S.data.toList = 0
    · obtain ⟨R, hR⟩ : ∃ R, R = parseR S.data.toList := ⟨_, rfl⟩
      have HPS : Hid (∀ W, Below w.heap.size w W → Calls Tryz.prog 7 #[.string S] W (ReadP R W)) := Lib.hid (fun W h => by rw [hR]; exact parse_good S W (HEV.out W h) hq)
      have HPT : Hid (∀ vp vs ve W, RulesIn W R vp vs ve → Env W.heap.size W → Calls Tryz.prog 5 #[RulesV R vp vs ve] W (TextP S 0 W)) := Lib.hid (fun vp vs ve W h t => by
        obtain ⟨h1, h2⟩ := parse_goodR hq
        rw [← hR] at h1 h2
        have h3 := print_k R h1 vp vs ve W h t
        rw [h2] at h3; exact h3)
      clear hq hR HPA
      unfold RulesV at HPT
      go_at_call 7; refine (HPS.out _ HB6.out).mono ?_; rintro e wA ⟨qa, qn, qc, ta, tn, tc, ua, un, uc, rfl, hrA, hb⟩
      have HBA := Lib.hid (HB6.out.trans (hb.mono HB6.out.size))
      have HRA := Lib.hid hrA
      clear hb hrA HB6
      go_wp2_with fail
      go_at_call 5; refine (HPT.out _ _ _ _ (HRA.out.below ((Below.refl _ _).alloc (Nat.le_refl _) _) (Nat.le_refl _)) (HEV.out _ (HBA.out.trans (((Below.refl _ _).alloc (Nat.le_refl _) _).mono HBA.out.size)))).mono ?_; rintro e wB ⟨rfl, hb⟩
      have hb' := ((Below.refl wA.heap.size wA).alloc (Nat.le_refl _) _).trans (hb.mono (by simp))
      have HBB := Lib.hid (HBA.out.trans (hb'.mono HBA.out.size))
      clear hb hb' HBA HRA
      go_wp2_with fail
      go_ret
      exact ⟨rfl, HBB.out⟩
    · obtain ⟨E, hE⟩ : ∃ E, E = parseE S.data.toList := ⟨_, rfl⟩
      have HPS : Hid (∀ W, Below w.heap.size w W → Calls Tryz.prog 7 #[.string S] W (ReadNo E W)) := Lib.hid (fun W h => by rw [hE]; exact parse_badS S W (HEV.out W h) hq)
      have hne : (E != 0) = true := by rw [hE]; simpa using hq
      clear hq hE HPA
      go_at_call 7; refine (HPS.out _ HB6.out).mono ?_; rintro e wA ⟨qa, qc, ta, tc, ua, uc, rfl, hb⟩
      have HBA := Lib.hid (HB6.out.trans (hb.mono HB6.out.size))
      clear hb HB6
      go_wp2_with fail
      go_ret
      exact ⟨rfl, HBA.out.trans (((Below.refl _ _).alloc (Nat.le_refl _) _).mono HBA.out.size)⟩
end Go.Proofs.YtjfkecadfnepjaaGreatDoor
