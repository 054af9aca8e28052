/- ruletext.Print: the text of rules. -/
import Derived.Test.YtomclohfppbegaaGreatDoorEndT
import Derived.Test.YtomclohfppbegaaGreatDoorBldS
set_option maxRecDepth 100000
namespace Go.Proofs.YtomclohfppbegaaGreatDoor
open Go.ChangeShapes Go.WideShapes Go.ChangeAt Go.RowKit

theorem PrAt.step {B b : Nat} {l l' : List UInt8} {V W w' : World} {e : Ending} (h : PrAt B b l V W) (h2 : PrPost B b l' W e w') : e = .returned (.tuple #[]) ∧ PrAt B b l' V w' ∧ Boxes b W w' :=
  ⟨h2.1, ⟨h2.2.1, h.2.1.trans h2.2.2.1, h.2.2.trans h2.2.2.2⟩, h2.2.2.2⟩
theorem Tb.up {B B' : Nat} {w w' : World} (h : Tb B w) (hb : Below B w w') (hB : B ≤ B') : Tb B' w' := fun w2 h2 => h w2 (hb.trans (h2.mono hB))
theorem block_word {t : Int} (h0 : 0 ≤ t) (h2 : t ≤ 2) : ([[108, 111, 115, 101, 115], [119, 105, 110, 115], [100, 114, 97, 119, 115]] : List (List UInt8))[t.toNat]? = some (blockB t) := by
  obtain rfl | rfl | rfl : t = 0 ∨ t = 1 ∨ t = 2 := by omega
  all_goals rfl
theorem gameL_le {r : RulesD} (h : ROk r) : (gameL r).length ≤ 30 := by
  have := num_le (n := r.width) (by have := h.w1; omega) (by have := h.w2; omega)
  have := num_le (n := r.height) (by have := h.h1; omega) (by have := h.h2; omega)
  have := h.name
  simp only [gameL, lineB_cons, lineB_one, List.length_append, List.length_cons, List.length_nil]; omega
theorem text_le {r : RulesD} (h : ROk r) : (gameL r).length ≤ 30 ∧ (piecesL r.pieces r.pieces).length ≤ 3600 ∧ (rowsL r.pieces r.start r.width.toNat r.height.toNat).length ≤ 104 ∧ (fallsL r.falls).length ≤ 6 ∧ (keepsL r.keeps).length ≤ 6 ∧ (endsL r.pieces r.ends).length ≤ 180 ∧ (blockL r.blocked).length ≤ 20 ∧ (quietL r.quiet).length ≤ 20 ∧ (repL r.rep).length ≤ 20 := by
  refine ⟨gameL_le h, ?_, ?_, ?_, ?_, ?_, ?_, ?_, ?_⟩
  · have h1 := piecesL_le r.pieces h.ps
    have h2 := Nat.mul_le_mul_right 600 h.p6
    omega
  · rw [rowsL_len]
    have := h.w2; have := h.h2
    have h2 : r.height.toNat * (r.width.toNat + 5) ≤ 8 * 13 := Nat.mul_le_mul (by omega) (by omega)
    omega
  · unfold fallsL; split <;> simp [lineB_one]
  · unfold keepsL; split <;> simp [lineB_one]
  · have h1 := endsL_le r.pieces h.es
    have h2 := Nat.mul_le_mul_right 30 h.e6
    omega
  · have := blockB_le r.blocked
    simp only [blockL, lineB_cons, lineB_one, List.length_append, List.length_cons, List.length_nil]; omega
  · have := num_le (n := r.quiet) (by have := h.q1; omega) h.q2
    simp only [quietL, lineB_cons, lineB_one, List.length_append, List.length_cons, List.length_nil]; omega
  · have := num_le (n := r.rep) (by have := h.r1; omega) (by have := h.r2; omega)
    simp only [repL, lineB_cons, lineB_one, List.length_append, List.length_cons, List.length_nil]; omega
def PrintBad (r : RulesD) (w : World) (e : Ending) (w' : World) : Prop := e = .returned (.tuple #[.string ⟨#[]⟩, .int .i64 (rulesE r)]) ∧ Below w.heap.size w w'
def PrintOk (r : RulesD) (w : World) (e : Ending) (w' : World) : Prop := e = .returned (.tuple #[.string (str (textB r)), .int .i64 0]) ∧ Below w.heap.size w w'
set_option maxHeartbeats 4000000 in
theorem print_bad (r : RulesD) (vp vs ve : Value) (w : World) (hr : RulesIn w r vp vs ve) (hz : rulesE r ≠ 0) :
    Calls Tryz.prog 4 #[RulesV r vp vs ve] w (PrintBad r w) := by
  have HCK : Hid (∀ W, Below w.heap.size w W → Calls Tryz.prog 16 #[RulesV r vp vs ve] W (BelPost (.int .i64 (rulesE r)) W)) := Lib.hid (fun W h => check_any r vp vs ve W (hr.below h (Nat.le_refl _)))
  obtain ⟨ap, cp, rfl, -, -⟩ := hr.1.1.shape (n := r.pieces.length) rfl
  obtain ⟨sa, cs, rfl, -, -⟩ := hr.1.2.1.shape (n := r.start.length) rfl
  obtain ⟨ea, ce, rfl, -, -⟩ := hr.1.2.2.shape (n := r.ends.length) rfl
  obtain ⟨c, hc⟩ : ∃ c : Int, c = rulesE r := ⟨_, rfl⟩
  have HC : Hid _ := Lib.hid hc
  rw [← hc] at HCK hz
  have hne : (c != 0) = true := by simpa using hz
  have HB : Hid (Below w.heap.size w (w.alloc (.cells #[.string r.name, .int .i64 r.width, .int .i64 r.height, .slice ap r.pieces.length cp, .slice sa r.start.length cs, .bool r.falls, .bool r.keeps, .slice ea r.ends.length ce, .int .i64 r.blocked, .int .i64 r.quiet, .int .i64 r.rep] 26))) := Lib.hid ((Below.refl w.heap.size w).alloc (Nat.le_refl _) _)
  unfold RulesV at HCK ⊢
  clear hc hz hr
  go_enter Tryz.func4, Tryz.ntmps4
  go_wp2_with fail
  go_at_call 16; refine (HCK.out _ HB.out).mono ?_; rintro e w1 ⟨rfl, hb⟩
  have HB1 : Hid (Below w.heap.size w w1) := Lib.hid (HB.out.trans (hb.mono HB.out.size))
  clear hb HB HCK
  go_wp2_with fail
  go_ret2
  exact ⟨by rw [← HC.out]; rfl, HB1.out⟩
set_option maxHeartbeats 8000000 in
theorem print_ok (r : RulesD) (vp vs ve : Value) (w : World) (hr : RulesIn w r vp vs ve) (hz : rulesE r = 0) (hT : Tb w.heap.size w) :
    Calls Tryz.prog 4 #[RulesV r vp vs ve] w (PrintOk r w) := by
  have hk := rOk hz
  have HCK : Hid (∀ W, Below w.heap.size w W → Calls Tryz.prog 16 #[RulesV r vp vs ve] W (BelPost (.int .i64 0) W)) := Lib.hid (fun W h => by
    have h1 := check_any r vp vs ve W (hr.below h (Nat.le_refl _))
    rw [hz] at h1; exact h1)
  obtain ⟨ap, cp, rfl, -, -⟩ := hr.1.1.shape (n := r.pieces.length) rfl
  obtain ⟨sa, cs, rfl, -, -⟩ := hr.1.2.1.shape (n := r.start.length) rfl
  obtain ⟨ea, ce, rfl, -, -⟩ := hr.1.2.2.shape (n := r.ends.length) rfl
  have HX : Hid (RBox (w.alloc (.cells #[.string r.name, .int .i64 r.width, .int .i64 r.height, .slice ap r.pieces.length cp, .slice sa r.start.length cs, .bool r.falls, .bool r.keeps, .slice ea r.ends.length ce, .int .i64 r.blocked, .int .i64 r.quiet, .int .i64 r.rep] 26)) w.heap.size 26 r (.slice ap r.pieces.length cp) (.slice sa r.start.length cs) (.slice ea r.ends.length ce)) := Lib.hid (RBox.new w _ r _ _ _)
  have HB : Hid (Below w.heap.size w (w.alloc (.cells #[.string r.name, .int .i64 r.width, .int .i64 r.height, .slice ap r.pieces.length cp, .slice sa r.start.length cs, .bool r.falls, .bool r.keeps, .slice ea r.ends.length ce, .int .i64 r.blocked, .int .i64 r.quiet, .int .i64 r.rep] 26))) := Lib.hid ((Below.refl w.heap.size w).alloc (Nat.le_refl _) _)
  have HK := Lib.hid hk
  have HR := Lib.hid hr.1
  have HT := Lib.hid hT
  unfold RulesV at HCK ⊢
  clear hz hr hk hT
  go_enter Tryz.func4, Tryz.ntmps4
  go_wp2_with fail
  go_at_call 16; refine (HCK.out _ HB.out).mono ?_; rintro e w2 ⟨rfl, hb⟩
  have HB2 : Hid (Below w.heap.size w w2) := Lib.hid (HB.out.trans (hb.mono HB.out.size))
  have HX2 := Lib.hid (HX.out.below hb (Array.getElem?_eq_some_iff.1 HX.out).1)
  clear hb HB HCK HX
  go_wp2_with fail
  have HP0 : Hid (PrAt w2.heap.size w2.heap.size [] (w2.alloc (.cells #[.pointer none, .slice none 0 0] 58)) (w2.alloc (.cells #[.pointer none, .slice none 0 0] 58))) := Lib.hid ⟨Lib.fresh_isBuilder _ _ w2, Below.refl _ _, Boxes.refl _ _⟩
  have HXV := Lib.hid (HX2.out.alloc (.cells #[.pointer none, .slice none 0 0] 58))
  have hv := (Below.refl w2.heap.size w2).alloc (Nat.le_refl _) (.cells #[.pointer none, .slice none 0 0] 58)
  have HV := Lib.hid hv
  have HT2 : Hid (Tb w2.heap.size (w2.alloc (.cells #[.pointer none, .slice none 0 0] 58))) := Lib.hid (HT.out.up (HB2.out.trans (hv.mono HB2.out.size)) HB2.out.size)
  have hBV : w2.heap.size ≤ (w2.alloc (.cells #[.pointer none, .slice none 0 0] 58)).heap.size := hv.size
  have HR2 := Lib.hid (HR.out.below HB2.out (Nat.le_refl _))
  clear hv HX2 HT HR
  generalize w2.alloc (.cells #[.pointer none, .slice none 0 0] 58) = V at HP0 HXV HV HT2 hBV ⊢
  obtain ⟨b, hb⟩ : ∃ b, b = w2.heap.size := ⟨_, rfl⟩
  have HBE := Lib.hid hb
  rw [← hb] at HP0 HV HT2 hBV ⊢
  clear hb
  obtain ⟨⟨b0, b1, b2, b3, b4, b5, b6, b7, b8, b9, b10⟩, -⟩ := HXV.out.facts
  have hw1 := HK.out.w1
  have hw2 := HK.out.w2
  have hh1 := HK.out.h1
  have hh2 := HK.out.h2
  have HPD : Hid (PrAt b b [] V V.drew) := Lib.hid (HP0.out.below (Below.refl _ _).drew hBV)
  clear HP0
  go_region_held3 (fun w' => w'.cell? ⟨w.heap.size, 0, none⟩ = some (.string r.name) ∧ w'.cell? ⟨w.heap.size, 1, none⟩ = some (.int .i64 r.width) ∧ w'.cell? ⟨w.heap.size, 2, none⟩ = some (.int .i64 r.height)) (go_keep) (first
    | (go_at_call 18; refine (turned (itoa_quiet r.width (by omega) (by omega) _)).mono ?_; rintro e w' ⟨rfl, rfl⟩)
    | (go_at_call 18; refine (turned (itoa_quiet r.height (by omega) (by omega) _)).mono ?_; rintro e w' ⟨rfl, rfl⟩)
    | (go_at_call 17; refine (line_new b b [] [[103, 97, 109, 101], r.name.data.toList, num r.width, num r.height] V.drew _ V HPD.out hBV rfl 4 rfl (by decide) (by have := gameL_le HK.out; unfold gameL at this; simp only [List.length_nil]; omega)).mono ?_; rintro e w3 ⟨rfl, HI3, hx3⟩; have HI3 := Lib.hid HI3; have HX3 := Lib.hid (RBox.kept (W := V.drew) HXV.out hx3 HPD.out.1); obtain ⟨⟨b0, b1, b2, b3, b4, b5, b6, b7, b8, b9, b10⟩, -⟩ := HX3.out.facts))
  have HI3 : Hid (PrAt b b (gameL r) V w3) := HI3
  clear hx3 HPD HXV hw1 hw2 hh1 hh2
  have HLN := Lib.hid (text_le HK.out)
  go_wp2_with fail
  go_at_call 19; refine (pieces_any b b (gameL r) r.pieces (.slice ap r.pieces.length cp) w2 w3 HI3.out.1 HBE.out (HV.out.trans HI3.out.2.1) (HT2.out.below HI3.out.2.1) HR2.out.1 HK.out.p6 HK.out.ps (by have h := HLN.out; omega)).mono ?_; rintro e w4 hp4
  obtain ⟨rfl, hi4, hx4⟩ := HI3.out.step hp4
  have HI4 := Lib.hid hi4
  have HX4 := Lib.hid (HX3.out.kept hx4 HI3.out.1)
  clear hp4 hi4 hx4 HI3 HX3 b0 b1 b2 b3 b4 b5 b6 b7 b8 b9 b10
  obtain ⟨⟨b0, b1, b2, b3, b4, b5, b6, b7, b8, b9, b10⟩, -⟩ := HX4.out.facts
  go_wp2_with fail
  go_at_call 20; refine (rowsT_any b b (gameL r ++ piecesL r.pieces r.pieces) r (.slice ap r.pieces.length cp) (.slice sa r.start.length cs) (.slice ea r.ends.length ce) w2 w4 HI4.out.1 HBE.out (HV.out.trans HI4.out.2.1) HR2.out HK.out (by have h := HLN.out; simp only [List.length_append]; omega)).mono ?_; rintro e w5 hp5
  obtain ⟨rfl, hi5, hx5⟩ := HI4.out.step hp5
  have HI5 := Lib.hid hi5
  have HX5 := Lib.hid (HX4.out.kept hx5 HI4.out.1)
  clear hp5 hi5 hx5 HI4 HX4 b0 b1 b2 b3 b4 b5 b6 b7 b8 b9 b10
  obtain ⟨⟨b0, b1, b2, b3, b4, b5, b6, b7, b8, b9, b10⟩, -⟩ := HX5.out.facts
  obtain ⟨fl, hfl⟩ : ∃ fl, fl = r.falls := ⟨_, rfl⟩
  have HFL := Lib.hid hfl
  rw [← hfl] at b5
  clear hfl
  go_upto_if 27 with fail
  go_cut [3] from 26 to 29 (fun t wx => t = .int .i64 0 ∧ Hid (PrAt b b (gameL r ++ piecesL r.pieces r.pieces ++ rowsL r.pieces r.start r.width.toNat r.height.toNat ++ fallsL r.falls) V wx) ∧ Hid (RBox wx w.heap.size 26 r (.slice ap r.pieces.length cp) (.slice sa r.start.length cs) (.slice ea r.ends.length ce)))
  case first =>
    rcases fl with _ | _
    · go_wp2_with fail
      go_meet
      case rel => exact ⟨rfl, Lib.hid (by rw [← HFL.out]; simpa [fallsL] using HI5.out), HX5⟩
    · go_wp2_with fail
      go_at_call 17; refine (line_new b b (gameL r ++ piecesL r.pieces r.pieces ++ rowsL r.pieces r.start r.width.toNat r.height.toNat) [[102, 97, 108, 108, 115]] w5 _ V HI5.out hBV rfl 1 rfl (by decide) (by have h := HLN.out; rw [← HFL.out] at h; simp only [List.length_append]; show _ + (fallsL true).length ≤ _; omega)).mono ?_; rintro e w' ⟨rfl, HI', hx'⟩
      have HX' := Lib.hid (HX5.out.kept hx' HI5.out.1)
      have HI' : Hid (PrAt b b (gameL r ++ piecesL r.pieces r.pieces ++ rowsL r.pieces r.start r.width.toNat r.height.toNat ++ fallsL r.falls) V w') := Lib.hid (by rw [← HFL.out]; exact HI')
      clear hx'
      go_wp2_with fail
      go_meet
      case rel => exact ⟨rfl, HI', HX'⟩
  case rest =>
    clear HI5 HX5 HFL b0 b1 b2 b3 b4 b5 b6 b7 b8 b9 b10
    obtain ⟨rfl, HI6, HX6⟩ := hcut
    obtain ⟨w6, hw6⟩ : ∃ w6, w6 = wc := ⟨_, rfl⟩
    subst hw6
    obtain ⟨⟨b0, b1, b2, b3, b4, b5, b6, b7, b8, b9, b10⟩, -⟩ := HX6.out.facts
    obtain ⟨fl, hfl⟩ : ∃ fl, fl = r.keeps := ⟨_, rfl⟩
    have HFL := Lib.hid hfl
    rw [← hfl] at b6
    clear hfl
    go_upto_if 31 with fail
    go_cut [3] from 30 to 33 (fun t wx => t = .int .i64 0 ∧ Hid (PrAt b b (gameL r ++ piecesL r.pieces r.pieces ++ rowsL r.pieces r.start r.width.toNat r.height.toNat ++ fallsL r.falls ++ keepsL r.keeps) V wx) ∧ Hid (RBox wx w.heap.size 26 r (.slice ap r.pieces.length cp) (.slice sa r.start.length cs) (.slice ea r.ends.length ce)))
    case first =>
      rcases fl with _ | _
      · go_wp2_with fail
        go_meet
        case rel => exact ⟨rfl, Lib.hid (by rw [← HFL.out]; simpa [keepsL] using HI6.out), HX6⟩
      · go_wp2_with fail
        go_at_call 17; refine (line_new b b (gameL r ++ piecesL r.pieces r.pieces ++ rowsL r.pieces r.start r.width.toNat r.height.toNat ++ fallsL r.falls) [[107, 101, 101, 112, 115]] w6 _ V HI6.out hBV rfl 1 rfl (by decide) (by have h := HLN.out; rw [← HFL.out] at h; simp only [List.length_append]; show _ + (keepsL true).length ≤ _; omega)).mono ?_; rintro e w' ⟨rfl, HI', hx'⟩
        have HX' := Lib.hid (HX6.out.kept hx' HI6.out.1)
        have HI' : Hid (PrAt b b (gameL r ++ piecesL r.pieces r.pieces ++ rowsL r.pieces r.start r.width.toNat r.height.toNat ++ fallsL r.falls ++ keepsL r.keeps) V w') := Lib.hid (by rw [← HFL.out]; exact HI')
        clear hx'
        go_wp2_with fail
        go_meet
        case rel => exact ⟨rfl, HI', HX'⟩
    case rest =>
      clear HI6 HX6 HFL b0 b1 b2 b3 b4 b5 b6 b7 b8 b9 b10
      obtain ⟨rfl, HI7, HX7⟩ := hcut
      obtain ⟨w7, hw7⟩ : ∃ w7, w7 = wc := ⟨_, rfl⟩
      subst hw7
      obtain ⟨⟨b0, b1, b2, b3, b4, b5, b6, b7, b8, b9, b10⟩, -⟩ := HX7.out.facts
      go_wp2_with fail
      go_at_call 21; refine (ends_any b b (gameL r ++ piecesL r.pieces r.pieces ++ rowsL r.pieces r.start r.width.toNat r.height.toNat ++ fallsL r.falls ++ keepsL r.keeps) r (.slice ap r.pieces.length cp) (.slice sa r.start.length cs) (.slice ea r.ends.length ce) w2 w7 HI7.out.1 HBE.out (HV.out.trans HI7.out.2.1) HR2.out HK.out (by have h := HLN.out; simp only [List.length_append]; omega)).mono ?_; rintro e w8 hp8
      obtain ⟨rfl, hi8, hx8⟩ := HI7.out.step hp8
      have HI8 := Lib.hid hi8
      have HX8 := Lib.hid (HX7.out.kept hx8 HI7.out.1)
      clear hp8 hi8 hx8 HI7 HX7 b0 b1 b2 b3 b4 b5 b6 b7 b8 b9 b10
      obtain ⟨⟨b0, b1, b2, b3, b4, b5, b6, b7, b8, b9, b10⟩, -⟩ := HX8.out.facts
      have hbl0 := HK.out.b1
      have hbl2 := HK.out.b2
      obtain ⟨bk, hbk⟩ := Int.eq_ofNat_of_zero_le hbl0
      have HTK : Hid ([[108, 111, 115, 101, 115], [119, 105, 110, 115], [100, 114, 97, 119, 115]][bk]? = some (blockB r.blocked)) := Lib.hid (by have h1 := block_word hbl0 hbl2; rw [hbk, Int.toNat_natCast] at h1; rw [hbk]; exact h1)
      have HBK := Lib.hid hbk
      have hk4 : (bk : Int) < 3 := by omega
      have hk5 : (0 : Int) ≤ (bk : Int) := by omega
      rw [hbk] at b8
      have hB8 : b ≤ w8.heap.size := Nat.le_trans hBV HI8.out.2.1.size
      have HI8d : Hid (PrAt b b (gameL r ++ piecesL r.pieces r.pieces ++ rowsL r.pieces r.start r.width.toNat r.height.toNat ++ fallsL r.falls ++ keepsL r.keeps ++ endsL r.pieces r.ends) V w8.drew) := Lib.hid (HI8.out.below (Below.refl _ _).drew hB8)
      clear hbl0 hbl2 hbk b0 b1 b2 b3 b4 b5 b6 b7 b9 b10
      go_wp2_with fail
      refine wp_region_held_drew (S := fun w' => w'.cell? ⟨w.heap.size, 8, none⟩ = some (.int .i64 (bk : Int))) (by kernel_rfl) ?_ (fun hHeld => ?_)
      · go_keep
      refine wpAnyH_take (i := 1) (v := ?_) rfl (by kernel_rfl) (by kernel_rfl) (by kernel_rfl) (fun _ _ _ h => h) (Or.inl ⟨by rfl, ?_⟩) (by assumption) ?_
      rotate_left
      · intro w hSw
        (try dsimp only at hSw)
        go_simp
        all_goals with_reducible rfl
      simp only [Act.put, List.setIfInBounds_toArray, List.set_cons_zero, List.set_cons_succ, List.getElem_toArray, List.getElem_cons_zero, List.getElem_cons_succ]
      refine wpAnyH_take (i := 2) (v := ?_) rfl (by kernel_rfl) (by kernel_rfl) (by kernel_rfl) (fun _ _ _ h => h) (Or.inl ⟨by rfl, ?_⟩) (by assumption) ?_
      rotate_left
      · intro w hSw
        (try dsimp only at hSw)
        go_simp
        all_goals with_reducible rfl
      simp only [Act.put, List.setIfInBounds_toArray, List.set_cons_zero, List.set_cons_succ, List.getElem_toArray, List.getElem_cons_zero, List.getElem_cons_succ]
      refine wpAnyH_ready (rs := [0]) (by kernel_rfl) (by simp) (AllReadyH.cons rfl (fun K hK => ?_) AllReadyH.nil)
      go_simp
      go_at_call 22; refine (blockedWords_any _).mono ?_; rintro e w9 ⟨gt, rfl, hwd, hb9⟩; have HI9 := Lib.hid (HI8d.out.below hb9 hB8); have HX9 := Lib.hid (RBox.below (W := w8.drew) HX8.out hb9 (Array.getElem?_eq_some_iff.1 HX8.out).1); have b8 := cell_keeps hb9 (Nat.le_refl _) b8; have hwt := hwd.words bk _ HTK.out
      refine hK.out _ _ ?_ (fun hHeld => ?_)
      · go_keep
      clear hK K
      try simp only [Act.put, List.setIfInBounds_toArray, List.set_cons_zero, List.set_cons_succ, List.getElem_toArray, List.getElem_cons_zero]
      refine held_weaken (S' := fun w' => w'.cell? ⟨w.heap.size, 8, none⟩ = some (.int .i64 (bk : Int)) ∧ w'.cell? ⟨gt, bk, none⟩ = some (.string (str (blockB r.blocked)))) (fun _ h => h.1) _ _ _ _ ?_
      have hHeld := And.intro hHeld hwt
      refine wpAnyH_take (i := 3) (v := ?_) rfl (by kernel_rfl) (by kernel_rfl) (by kernel_rfl) (fun _ _ _ h => h) (Or.inl ⟨by rfl, ?_⟩) (by assumption) ?_
      rotate_left
      · intro w hSw
        (try dsimp only at hSw)
        go_simp
        all_goals with_reducible rfl
      simp only [Act.put, List.setIfInBounds_toArray, List.set_cons_zero, List.set_cons_succ, List.getElem_toArray, List.getElem_cons_zero, List.getElem_cons_succ]
      refine wpAnyH_take (i := 4) (v := ?_) rfl (by kernel_rfl) (by kernel_rfl) (by kernel_rfl) (fun _ _ _ h => h) (Or.inl ⟨by rfl, ?_⟩) (by assumption) ?_
      rotate_left
      · intro w hSw
        (try dsimp only at hSw)
        go_simp
        all_goals with_reducible rfl
      simp only [Act.put, List.setIfInBounds_toArray, List.set_cons_zero, List.set_cons_succ, List.getElem_toArray, List.getElem_cons_zero, List.getElem_cons_succ]
      refine wpAnyH_ready (rs := [5]) (by kernel_rfl) (by simp) (AllReadyH.cons rfl (fun K hK => ?_) AllReadyH.nil)
      go_simp
      skip
      refine hK.out _ _ ?_ (fun hHeld => ?_)
      · go_keep
      clear hK K
      try simp only [Act.put, List.setIfInBounds_toArray, List.set_cons_zero, List.set_cons_succ, List.getElem_toArray, List.getElem_cons_zero, List.getElem_cons_succ]
      refine wpAnyH_ready (rs := [6]) (by kernel_rfl) (by simp) (AllReadyH.cons rfl (fun K hK => ?_) AllReadyH.nil)
      go_simp
      go_at_call 17; refine (line_new b b (gameL r ++ piecesL r.pieces r.pieces ++ rowsL r.pieces r.start r.width.toNat r.height.toNat ++ fallsL r.falls ++ keepsL r.keeps ++ endsL r.pieces r.ends) [[98, 108, 111, 99, 107, 101, 100], blockB r.blocked] w9 _ V HI9.out hBV rfl 2 rfl (by decide) (by have h := HLN.out; simp only [List.length_append]; show _ + (blockL r.blocked).length ≤ _; omega)).mono ?_; rintro e w10 ⟨rfl, HI10, hx10⟩; have HI10 := Lib.hid HI10; have HX10 := Lib.hid (HX9.out.kept hx10 HI9.out.1); have b8 := HX10.out.facts.1.2.2.2.2.2.2.2.2.1; rw [HBK.out] at b8; have hwt := WBlk.words (hx10.box HI9.out.1 (by decide) (by decide) hwd) bk _ HTK.out
      refine hK.out _ _ ?_ (fun hHeld => ?_)
      · go_keep
      clear hK K
      try simp only [Act.put, List.setIfInBounds_toArray, List.set_cons_zero, List.set_cons_succ, List.getElem_toArray, List.getElem_cons_zero, List.getElem_cons_succ]
      refine wpAnyH_done (by kernel_rfl) ?_ _
      have HI10 : Hid (PrAt b b (gameL r ++ piecesL r.pieces r.pieces ++ rowsL r.pieces r.start r.width.toNat r.height.toNat ++ fallsL r.falls ++ keepsL r.keeps ++ endsL r.pieces r.ends ++ blockL r.blocked) V w10) := HI10
      clear hx10 hb9 hwd hwt b8 HI8 HX8 HI8d HI9 HX9 hB8
      obtain ⟨⟨b0, b1, b2, b3, b4, b5, b6, b7, b8, b9, b10⟩, -⟩ := HX10.out.facts
      have hB10 : b ≤ w10.heap.size := Nat.le_trans hBV HI10.out.2.1.size
      go_wp2_with fail
      go_at_call 18; refine (itoa_any r.quiet (by have := HK.out.q1; omega) HK.out.q2 _ (HT2.out.below HI10.out.2.1)).mono ?_; rintro e w11 ⟨rfl, hb11⟩
      have HI11 := Lib.hid (HI10.out.below hb11 hB10)
      have HX11 := Lib.hid (HX10.out.below hb11 (Array.getElem?_eq_some_iff.1 HX10.out).1)
      clear hb11 HI10 HX10 b0 b1 b2 b3 b4 b5 b6 b7 b8 b9 b10
      go_wp2_with fail
      go_at_call 17; refine (line_new b b (gameL r ++ piecesL r.pieces r.pieces ++ rowsL r.pieces r.start r.width.toNat r.height.toNat ++ fallsL r.falls ++ keepsL r.keeps ++ endsL r.pieces r.ends ++ blockL r.blocked) [[113, 117, 105, 101, 116], num r.quiet] w11 _ V HI11.out hBV rfl 2 rfl (by decide) (by have h := HLN.out; simp only [List.length_append]; show _ + (quietL r.quiet).length ≤ _; omega)).mono ?_; rintro e w12 ⟨rfl, HI12, hx12⟩
      have HI12 : Hid (PrAt b b (gameL r ++ piecesL r.pieces r.pieces ++ rowsL r.pieces r.start r.width.toNat r.height.toNat ++ fallsL r.falls ++ keepsL r.keeps ++ endsL r.pieces r.ends ++ blockL r.blocked ++ quietL r.quiet) V w12) := Lib.hid HI12
      have HX12 := Lib.hid (HX11.out.kept hx12 HI11.out.1)
      clear hx12 HI11 HX11
      obtain ⟨⟨b0, b1, b2, b3, b4, b5, b6, b7, b8, b9, b10⟩, -⟩ := HX12.out.facts
      have hB12 : b ≤ w12.heap.size := Nat.le_trans hBV HI12.out.2.1.size
      go_wp2_with fail
      go_at_call 18; refine (itoa_any r.rep (by have := HK.out.r1; omega) (by have := HK.out.r2; omega) _ (HT2.out.below HI12.out.2.1)).mono ?_; rintro e w13 ⟨rfl, hb13⟩
      have HI13 := Lib.hid (HI12.out.below hb13 hB12)
      clear hb13 HI12 HX12 b0 b1 b2 b3 b4 b5 b6 b7 b8 b9 b10
      go_wp2_with fail
      go_at_call 17; refine (line_new b b (gameL r ++ piecesL r.pieces r.pieces ++ rowsL r.pieces r.start r.width.toNat r.height.toNat ++ fallsL r.falls ++ keepsL r.keeps ++ endsL r.pieces r.ends ++ blockL r.blocked ++ quietL r.quiet) [[114, 101, 112, 101, 97, 116], num r.rep] w13 _ V HI13.out hBV rfl 2 rfl (by decide) (by have h := HLN.out; simp only [List.length_append]; show _ + (repL r.rep).length ≤ _; omega)).mono ?_; rintro e w14 ⟨rfl, HI14, -⟩
      have HI14 : Hid (PrAt b b (textB r) V w14) := Lib.hid HI14
      clear HI13
      go_wp2_with fail
      go_at_call 23; refine (string_p b b (textB r) w14 HI14.out.1 (by unfold textB; intro h; have h1 := congrArg List.length h; simp [repL, lineB] at h1)).mono ?_; rintro e w15 ⟨rfl, hb15⟩
      have HBF : Hid (Below w.heap.size w w15) := Lib.hid (by
        have h1 := (HV.out.trans HI14.out.2.1).trans hb15
        exact HB2.out.trans (h1.mono (by rw [HBE.out]; exact HB2.out.size)))
      clear hb15 HI14
      go_wp2_with fail
      go_ret2
      exact ⟨rfl, HBF.out⟩
end Go.Proofs.YtomclohfppbegaaGreatDoor
