/- place.Read: what it answers. -/
import Derived.Test.YtakekeljndofcaaGreatDoorGuess
import Derived.Test.YtakekeljndofcaaGreatDoorPText
set_option maxRecDepth 100000
namespace Go.Proofs.YtakekeljndofcaaGreatDoor
open Go.ChangeShapes Go.WideShapes Go.ChangeAt Go.RowKit

/-- A position that was made, and its error. -/
def OthP (q : PlaceD) (w : World) (e : Ending) (w' : World) : Prop :=
  ∃ ca cn cc a0 n0 c0 a1 n1 c1, e = .returned (.tuple #[.agg #[.slice ca cn cc, .slice a0 n0 c0, .slice a1 n1 c1, .int .i64 q.turn, .int .i64 q.quiet], .int .i64 0]) ∧ PlaceIn w' q (.slice ca cn cc) (.slice a0 n0 c0) (.slice a1 n1 c1) ∧ Below w.heap.size w w'
set_option maxHeartbeats 4000000 in
theorem read_rules (r : RulesD) (vp vs ve : Value) (S : List UInt8) (w : World) (hr : RulesIn w r vp vs ve) (hz : rulesE r ≠ 0) : Calls Tryz.prog 6 #[RulesV r vp vs ve, .string (str S)] w (PBad (rulesE r) w) := by
  have HCK : Hid (∀ W, Below w.heap.size w W → Calls Tryz.prog 16 #[RulesV r vp vs ve] W (BelPost (.int .i64 (rulesE r)) W)) := Lib.hid (fun W h => check_any r vp vs ve W (hr.below h (Nat.le_refl _)))
  have HX := Lib.hid (BoxR.below (boxR_new w r vp vs ve 26) ((Below.refl _ _).alloc (Nat.le_refl _) (.cells (PlaceCells zeroP (.slice none 0 0) (.slice none 0 0) (.slice none 0 0)) 29)) (Nat.le_refl _))
  have hZ := PBox.new (w.alloc (.cells (RulesCells r vp vs ve) 26)) 29 zeroP (.slice none 0 0) (.slice none 0 0) (.slice none 0 0)
  rw [World.size_alloc] at hZ
  have HZ := Lib.hid hZ
  have HB : Hid (Below w.heap.size w ((w.alloc (.cells (RulesCells r vp vs ve) 26)).alloc (.cells (PlaceCells zeroP (.slice none 0 0) (.slice none 0 0) (.slice none 0 0)) 29))) := Lib.hid (((Below.refl _ _).alloc (Nat.le_refl _) _).alloc (by simp) _)
  obtain ⟨w1, hw1⟩ : ∃ w1, w1 = ((w.alloc (.cells (RulesCells r vp vs ve) 26)).alloc (.cells (PlaceCells zeroP (.slice none 0 0) (.slice none 0 0) (.slice none 0 0)) 29)) := ⟨_, rfl⟩
  have HW1 : Hid ((w.alloc (.cells #[.string r.name, .int .i64 r.width, .int .i64 r.height, vp, vs, .bool r.falls, .bool r.keeps, ve, .int .i64 r.blocked, .int .i64 r.quiet, .int .i64 r.rep] 26)).alloc (.cells #[.slice none 0 0, .slice none 0 0, .slice none 0 0, .int .i64 0, .int .i64 0] 29) = w1) := Lib.hid hw1.symm
  have HSZ : Hid (w.heap.size + 1 < w1.heap.size) := Lib.hid (by rw [hw1]; exact hZ.lt)
  rw [← hw1] at HX HB HZ
  obtain ⟨n, hn⟩ : ∃ n, n = (str S).size := ⟨_, rfl⟩
  have hns : (str S).size = n := hn.symm
  obtain ⟨c, hc⟩ : ∃ c : Int, c = rulesE r := ⟨_, rfl⟩
  rw [← hc] at HCK hz ⊢
  have hne : (c != 0) = true := by simpa using hz
  clear hr hc
  unfold RulesV at HCK ⊢
  clear hw1 hZ hn
  go_enter Tryz.func6, Tryz.ntmps6
  go_wp2_with fail
  rw [HW1.out]
  clear HW1
  go_at_call 16; refine (HCK.out _ HB.out).mono ?_; rintro e w2 ⟨rfl, hb⟩
  have HB2 := Lib.hid (HB.out.trans (hb.mono HB.out.size))
  have HX2 := Lib.hid (HX.out.below hb (Nat.le_refl _))
  have HZ2 := Lib.hid (PBox.below HZ.out hb HSZ.out)
  have HS2 := Lib.hid (Nat.lt_of_lt_of_le HSZ.out hb.size)
  clear hb HB HX HZ HSZ HCK
  clear hz
  obtain ⟨⟨x0, x1, x2, x3, x4⟩, f0, f1, f2, f3, f4⟩ := HZ2.out.facts
  go_wp2_with fail
  have HR2 := pbox_fill (p := zeroP) (vc := .slice none 0 0) (v0 := .slice none 0 0) (v1 := .slice none 0 0) HZ2.out
  refine bodyPost_ret (results_row_tmpP rfl _ _ (w.heap.size + 1) 29 _ (0, 0) _ rfl HR2 Tryz.underlying29 rfl (by kernel_rfl)) rfl ?_
  exact ⟨rfl, fillP_below HB2.out (by omega) zeroP _ _ _⟩
set_option maxHeartbeats 4000000 in
theorem read_large (r : RulesD) (vp vs ve : Value) (S : List UInt8) (w : World) (hr : RulesIn w r vp vs ve) (hz : rulesE r = 0) (hS : 8192 < S.length) : Calls Tryz.prog 6 #[RulesV r vp vs ve, .string (str S)] w (PBad 2 w) := by
  have HCK : Hid (∀ W, Below w.heap.size w W → Calls Tryz.prog 16 #[RulesV r vp vs ve] W (BelPost (.int .i64 (rulesE r)) W)) := Lib.hid (fun W h => check_any r vp vs ve W (hr.below h (Nat.le_refl _)))
  have HX := Lib.hid (BoxR.below (boxR_new w r vp vs ve 26) ((Below.refl _ _).alloc (Nat.le_refl _) (.cells (PlaceCells zeroP (.slice none 0 0) (.slice none 0 0) (.slice none 0 0)) 29)) (Nat.le_refl _))
  have hZ := PBox.new (w.alloc (.cells (RulesCells r vp vs ve) 26)) 29 zeroP (.slice none 0 0) (.slice none 0 0) (.slice none 0 0)
  rw [World.size_alloc] at hZ
  have HZ := Lib.hid hZ
  have HB : Hid (Below w.heap.size w ((w.alloc (.cells (RulesCells r vp vs ve) 26)).alloc (.cells (PlaceCells zeroP (.slice none 0 0) (.slice none 0 0) (.slice none 0 0)) 29))) := Lib.hid (((Below.refl _ _).alloc (Nat.le_refl _) _).alloc (by simp) _)
  obtain ⟨w1, hw1⟩ : ∃ w1, w1 = ((w.alloc (.cells (RulesCells r vp vs ve) 26)).alloc (.cells (PlaceCells zeroP (.slice none 0 0) (.slice none 0 0) (.slice none 0 0)) 29)) := ⟨_, rfl⟩
  have HW1 : Hid ((w.alloc (.cells #[.string r.name, .int .i64 r.width, .int .i64 r.height, vp, vs, .bool r.falls, .bool r.keeps, ve, .int .i64 r.blocked, .int .i64 r.quiet, .int .i64 r.rep] 26)).alloc (.cells #[.slice none 0 0, .slice none 0 0, .slice none 0 0, .int .i64 0, .int .i64 0] 29) = w1) := Lib.hid hw1.symm
  have HSZ : Hid (w.heap.size + 1 < w1.heap.size) := Lib.hid (by rw [hw1]; exact hZ.lt)
  rw [← hw1] at HX HB HZ
  obtain ⟨n, hn⟩ : ∃ n, n = (str S).size := ⟨_, rfl⟩
  have hns : (str S).size = n := hn.symm
  rw [hz] at HCK
  have hn1 : (8192 : Int) < (n : Int) := by rw [hn, str_size]; omega
  have hn2 : 8192 < n := by omega
  clear hr hz hS
  unfold RulesV at HCK ⊢
  clear hw1 hZ hn
  go_enter Tryz.func6, Tryz.ntmps6
  go_wp2_with fail
  rw [HW1.out]
  clear HW1
  go_at_call 16; refine (HCK.out _ HB.out).mono ?_; rintro e w2 ⟨rfl, hb⟩
  have HB2 := Lib.hid (HB.out.trans (hb.mono HB.out.size))
  have HX2 := Lib.hid (HX.out.below hb (Nat.le_refl _))
  have HZ2 := Lib.hid (PBox.below HZ.out hb HSZ.out)
  have HS2 := Lib.hid (Nat.lt_of_lt_of_le HSZ.out hb.size)
  clear hb HB HX HZ HSZ HCK
  obtain ⟨y0, y1, y2, y3, y4, y5, y6, y7, y8, y9, y10⟩ := HX2.out
  obtain ⟨⟨x0, x1, x2, x3, x4⟩, f0, f1, f2, f3, f4⟩ := HZ2.out.facts
  go_wp2_with fail
  have HR2 := pbox_fill (p := zeroP) (vc := .slice none 0 0) (v0 := .slice none 0 0) (v1 := .slice none 0 0) HZ2.out
  refine bodyPost_ret (results_row_tmpP rfl _ _ (w.heap.size + 1) 29 _ (0, 0) _ rfl HR2 Tryz.underlying29 rfl (by kernel_rfl)) rfl ?_
  exact ⟨rfl, fillP_below HB2.out (by omega) zeroP _ _ _⟩
set_option maxHeartbeats 8000000 in
theorem read_ok (r : RulesD) (vp vs ve : Value) (S : List UInt8) (w : World) (hr : RulesIn w r vp vs ve) (hE : Env w.heap.size w) (hz : readE r S = 0) : Calls Tryz.prog 6 #[RulesV r vp vs ve, .string (str S)] w (OthP (guessP r.pieces S) w) := by
  obtain ⟨hok, htx⟩ := readE_ok hz
  have hro := rOk hok.e
  have hcap : ∀ x ∈ r.pieces, 65 ≤ x.letter ∧ x.letter ≤ 90 := fun x hx => (hro.ps x hx).1
  have hS8 : S.length ≤ 8192 := by have := placeT_len hok; rw [htx] at this; omega
  obtain ⟨q, hq⟩ : ∃ q, q = guessP r.pieces S := ⟨_, rfl⟩
  rw [← hq] at hok htx ⊢
  have HGS : Hid (∀ W, Below w.heap.size w W → Calls Tryz.prog 17 #[RulesV r vp vs ve, .string (str S)] W (RefP q W)) := Lib.hid (fun W h => by rw [hq]; exact guess_any r vp vs ve S W (hr.below h (Nat.le_refl _)).1.1 hro.p6 hcap hS8 (hE.up h h.size))
  have HTX : Hid (∀ vc v0 v1 W, Below w.heap.size w W → PlaceIn W q vc v0 v1 → Calls Tryz.prog 5 #[RulesV r vp vs ve, PlaceV q vc v0 v1] W (TextP (str S) 0 W)) := Lib.hid (fun vc v0 v1 W h h2 => by
    have := text_ok r q vp vs ve vc v0 v1 W (hr.below h (Nat.le_refl _)) h2 hok (hE.up h h.size).1
    rwa [htx] at this)
  have HCK : Hid (∀ W, Below w.heap.size w W → Calls Tryz.prog 16 #[RulesV r vp vs ve] W (BelPost (.int .i64 (rulesE r)) W)) := Lib.hid (fun W h => check_any r vp vs ve W (hr.below h (Nat.le_refl _)))
  have HX := Lib.hid (BoxR.below (boxR_new w r vp vs ve 26) ((Below.refl _ _).alloc (Nat.le_refl _) (.cells (PlaceCells zeroP (.slice none 0 0) (.slice none 0 0) (.slice none 0 0)) 29)) (Nat.le_refl _))
  have hZ := PBox.new (w.alloc (.cells (RulesCells r vp vs ve) 26)) 29 zeroP (.slice none 0 0) (.slice none 0 0) (.slice none 0 0)
  rw [World.size_alloc] at hZ
  have HZ := Lib.hid hZ
  have HB : Hid (Below w.heap.size w ((w.alloc (.cells (RulesCells r vp vs ve) 26)).alloc (.cells (PlaceCells zeroP (.slice none 0 0) (.slice none 0 0) (.slice none 0 0)) 29))) := Lib.hid (((Below.refl _ _).alloc (Nat.le_refl _) _).alloc (by simp) _)
  obtain ⟨w1, hw1⟩ : ∃ w1, w1 = ((w.alloc (.cells (RulesCells r vp vs ve) 26)).alloc (.cells (PlaceCells zeroP (.slice none 0 0) (.slice none 0 0) (.slice none 0 0)) 29)) := ⟨_, rfl⟩
  have HW1 : Hid ((w.alloc (.cells #[.string r.name, .int .i64 r.width, .int .i64 r.height, vp, vs, .bool r.falls, .bool r.keeps, ve, .int .i64 r.blocked, .int .i64 r.quiet, .int .i64 r.rep] 26)).alloc (.cells #[.slice none 0 0, .slice none 0 0, .slice none 0 0, .int .i64 0, .int .i64 0] 29) = w1) := Lib.hid hw1.symm
  have HSZ : Hid (w.heap.size + 1 < w1.heap.size) := Lib.hid (by rw [hw1]; exact hZ.lt)
  rw [← hw1] at HX HB HZ
  obtain ⟨n, hn⟩ : ∃ n, n = (str S).size := ⟨_, rfl⟩
  have hns : (str S).size = n := hn.symm
  rw [hok.e] at HCK
  have hn1 : ¬ (8192 : Int) < (n : Int) := by rw [hn, str_size]; omega
  have hn2 : ¬ 8192 < n := by omega
  unfold RulesV at HGS HTX
  unfold PlaceV PlaceCells at HTX
  clear hr hz hE hok htx hro hcap hS8 hq
  unfold RulesV at HCK ⊢
  clear hw1 hZ hn
  go_enter Tryz.func6, Tryz.ntmps6
  go_wp2_with fail
  rw [HW1.out]
  clear HW1
  go_at_call 16; refine (HCK.out _ HB.out).mono ?_; rintro e w2 ⟨rfl, hb⟩
  have HB2 := Lib.hid (HB.out.trans (hb.mono HB.out.size))
  have HX2 := Lib.hid (HX.out.below hb (Nat.le_refl _))
  have HZ2 := Lib.hid (PBox.below HZ.out hb HSZ.out)
  have HS2 := Lib.hid (Nat.lt_of_lt_of_le HSZ.out hb.size)
  clear hb HB HX HZ HSZ HCK
  obtain ⟨y0, y1, y2, y3, y4, y5, y6, y7, y8, y9, y10⟩ := HX2.out
  go_wp2_with fail
  go_at_call 17; refine (HGS.out _ HB2.out).mono ?_; rintro e w3 ⟨ca, cn, cc, a0, n0, c0, a1, n1, c1, rfl, hin, hb⟩
  have hal := (Below.refl w3.heap.size w3).alloc (Nat.le_refl _) (.cells #[.slice ca cn cc, .slice a0 n0 c0, .slice a1 n1 c1, .int .i64 q.turn, .int .i64 q.quiet] 29)
  have hb' := hb.trans (hal.mono hb.size)
  have HB4 := Lib.hid (HB2.out.trans (hb'.mono HB2.out.size))
  have HX4 := Lib.hid (HX2.out.below hb' (Nat.le_refl _))
  have HZ4 := Lib.hid (PBox.below HZ2.out hb' HS2.out)
  have HS4 := Lib.hid (Nat.lt_of_lt_of_le HS2.out hb'.size)
  have HN4 := Lib.hid ((hin.weak (d' := fun k => k ≠ w.heap.size + 1) (fun k hk => by have := HS2.out; omega)).below hal (Nat.le_refl _))
  have HQ4 := Lib.hid (boxP_new w3 q (.slice ca cn cc) (.slice a0 n0 c0) (.slice a1 n1 c1) 29)
  unfold PlaceCells at HQ4
  clear hb hb' hal hin HB2 HX2 HZ2 HS2 y0 y1 y2 y3 y4 y5 y6 y7 y8 y9 y10
  obtain ⟨y0, y1, y2, y3, y4, y5, y6, y7, y8, y9, y10⟩ := HX4.out
  obtain ⟨q0, q1, q2, q3, q4⟩ := HQ4.out
  go_wp2_with fail
  go_at_call 5
  clear y0 y1 y2 y3 y4 y5 y6 y7 y8 y9 y10 q0 q1 q2 q3 q4
  generalize w3.alloc (.cells #[.slice ca cn cc, .slice a0 n0 c0, .slice a1 n1 c1, .int .i64 q.turn, .int .i64 q.quiet] 29) = w4 at HB4 HX4 HZ4 HS4 HN4 HQ4 ⊢
  generalize w3.heap.size = pb at HQ4 ⊢
  refine (HTX.out _ _ _ _ HB4.out HN4.out.plain).mono ?_; rintro e w5 ⟨rfl, hb⟩
  have HB5 := Lib.hid (HB4.out.trans (hb.mono HB4.out.size))
  have HZ5 := Lib.hid (PBox.below HZ4.out hb HS4.out)
  have HN5 := Lib.hid (HN4.out.below hb (Nat.le_refl _))
  obtain ⟨q0, q1, q2, q3, q4⟩ := HQ4.out.below hb (Nat.le_refl _)
  clear hb HB4 HX4 HZ4 HN4 HQ4
  obtain ⟨⟨x0, x1, x2, x3, x4⟩, f0, f1, f2, f3, f4⟩ := HZ5.out.facts
  go_wp2_with fail
  have HR2 := pbox_fill (p := q) (vc := .slice ca cn cc) (v0 := .slice a0 n0 c0) (v1 := .slice a1 n1 c1) HZ5.out
  refine bodyPost_ret (results_row_tmpP rfl _ _ (w.heap.size + 1) 29 _ (0, 0) _ rfl HR2 Tryz.underlying29 rfl (by kernel_rfl)) rfl ?_
  have hfo := fillP_other w5 (w.heap.size + 1) q (.slice ca cn cc) (.slice a0 n0 c0) (.slice a1 n1 c1)
  exact ⟨ca, cn, cc, a0, n0, c0, a1, n1, c1, rfl, (HN5.out.on (fun k hk => hfo.1 k hk)).plain, fillP_below HB5.out (by omega) q _ _ _⟩
set_option maxHeartbeats 8000000 in
theorem read_bad (r : RulesD) (vp vs ve : Value) (S : List UInt8) (w : World) (hr : RulesIn w r vp vs ve) (hE : Env w.heap.size w) (hz : rulesE r = 0) (hS8 : S.length ≤ 8192) (hbad : readE r S ≠ 0) : Calls Tryz.prog 6 #[RulesV r vp vs ve, .string (str S)] w (PBad 5 w) := by
  have hro := rOk hz
  have hcap : ∀ x ∈ r.pieces, 65 ≤ x.letter ∧ x.letter ≤ 90 := fun x hx => (hro.ps x hx).1
  obtain ⟨q, hq⟩ : ∃ q, q = guessP r.pieces S := ⟨_, rfl⟩
  have HGS : Hid (∀ W, Below w.heap.size w W → Calls Tryz.prog 17 #[RulesV r vp vs ve, .string (str S)] W (RefP q W)) := Lib.hid (fun W h => by rw [hq]; exact guess_any r vp vs ve S W (hr.below h (Nat.le_refl _)).1.1 hro.p6 hcap hS8 (hE.up h h.size))
  obtain ⟨T, c, hT, hTX⟩ : ∃ (T : ByteArray) (c : Int), (c ≠ 0 ∨ (c = 0 ∧ T ≠ str S)) ∧ ∀ vc v0 v1 W, Below w.heap.size w W → PlaceIn W q vc v0 v1 → Calls Tryz.prog 5 #[RulesV r vp vs ve, PlaceV q vc v0 v1] W (TextP T c W) := by
    by_cases hp : placeE r q = 0
    · refine ⟨str (placeT r q), 0, .inr ⟨rfl, fun e => hbad ?_⟩, fun vc v0 v1 W h h2 => text_ok r q vp vs ve vc v0 v1 W (hr.below h (Nat.le_refl _)) h2 (placeE_iff.1 hp) (hE.up h h.size).1⟩
      have e2 : placeT r q = S := by have := congrArg (fun x : ByteArray => x.data.toList) e; simpa [data_str] using this
      rw [readE, if_neg (by simpa using hz), if_neg (by omega), ← hq, if_pos ⟨hp, e2⟩]
    · exact ⟨⟨#[]⟩, placeE r q, .inl hp, fun vc v0 v1 W h h2 => text_bad r q vp vs ve vc v0 v1 W (hr.below h (Nat.le_refl _)) h2 hp⟩
  have HTX := Lib.hid hTX
  have HCK : Hid (∀ W, Below w.heap.size w W → Calls Tryz.prog 16 #[RulesV r vp vs ve] W (BelPost (.int .i64 (rulesE r)) W)) := Lib.hid (fun W h => check_any r vp vs ve W (hr.below h (Nat.le_refl _)))
  have HX := Lib.hid (BoxR.below (boxR_new w r vp vs ve 26) ((Below.refl _ _).alloc (Nat.le_refl _) (.cells (PlaceCells zeroP (.slice none 0 0) (.slice none 0 0) (.slice none 0 0)) 29)) (Nat.le_refl _))
  have hZ := PBox.new (w.alloc (.cells (RulesCells r vp vs ve) 26)) 29 zeroP (.slice none 0 0) (.slice none 0 0) (.slice none 0 0)
  rw [World.size_alloc] at hZ
  have HZ := Lib.hid hZ
  have HB : Hid (Below w.heap.size w ((w.alloc (.cells (RulesCells r vp vs ve) 26)).alloc (.cells (PlaceCells zeroP (.slice none 0 0) (.slice none 0 0) (.slice none 0 0)) 29))) := Lib.hid (((Below.refl _ _).alloc (Nat.le_refl _) _).alloc (by simp) _)
  obtain ⟨w1, hw1⟩ : ∃ w1, w1 = ((w.alloc (.cells (RulesCells r vp vs ve) 26)).alloc (.cells (PlaceCells zeroP (.slice none 0 0) (.slice none 0 0) (.slice none 0 0)) 29)) := ⟨_, rfl⟩
  have HW1 : Hid ((w.alloc (.cells #[.string r.name, .int .i64 r.width, .int .i64 r.height, vp, vs, .bool r.falls, .bool r.keeps, ve, .int .i64 r.blocked, .int .i64 r.quiet, .int .i64 r.rep] 26)).alloc (.cells #[.slice none 0 0, .slice none 0 0, .slice none 0 0, .int .i64 0, .int .i64 0] 29) = w1) := Lib.hid hw1.symm
  have HSZ : Hid (w.heap.size + 1 < w1.heap.size) := Lib.hid (by rw [hw1]; exact hZ.lt)
  rw [← hw1] at HX HB HZ
  obtain ⟨n, hn⟩ : ∃ n, n = (str S).size := ⟨_, rfl⟩
  have hns : (str S).size = n := hn.symm
  rw [hz] at HCK
  have hn1 : ¬ (8192 : Int) < (n : Int) := by rw [hn, str_size]; omega
  have hn2 : ¬ 8192 < n := by omega
  unfold RulesV at HGS HTX
  unfold PlaceV PlaceCells at HTX
  clear hr hz hE hro hcap hS8 hq hbad hTX
  unfold RulesV at HCK ⊢
  clear hw1 hZ hn
  go_enter Tryz.func6, Tryz.ntmps6
  go_wp2_with fail
  rw [HW1.out]
  clear HW1
  go_at_call 16; refine (HCK.out _ HB.out).mono ?_; rintro e w2 ⟨rfl, hb⟩
  have HB2 := Lib.hid (HB.out.trans (hb.mono HB.out.size))
  have HX2 := Lib.hid (HX.out.below hb (Nat.le_refl _))
  have HZ2 := Lib.hid (PBox.below HZ.out hb HSZ.out)
  have HS2 := Lib.hid (Nat.lt_of_lt_of_le HSZ.out hb.size)
  clear hb HB HX HZ HSZ HCK
  obtain ⟨y0, y1, y2, y3, y4, y5, y6, y7, y8, y9, y10⟩ := HX2.out
  go_wp2_with fail
  go_at_call 17; refine (HGS.out _ HB2.out).mono ?_; rintro e w3 ⟨ca, cn, cc, a0, n0, c0, a1, n1, c1, rfl, hin, hb⟩
  have hal := (Below.refl w3.heap.size w3).alloc (Nat.le_refl _) (.cells #[.slice ca cn cc, .slice a0 n0 c0, .slice a1 n1 c1, .int .i64 q.turn, .int .i64 q.quiet] 29)
  have hb' := hb.trans (hal.mono hb.size)
  have HB4 := Lib.hid (HB2.out.trans (hb'.mono HB2.out.size))
  have HX4 := Lib.hid (HX2.out.below hb' (Nat.le_refl _))
  have HZ4 := Lib.hid (PBox.below HZ2.out hb' HS2.out)
  have HS4 := Lib.hid (Nat.lt_of_lt_of_le HS2.out hb'.size)
  have HN4 := Lib.hid ((hin.weak (d' := fun k => k ≠ w.heap.size + 1) (fun k hk => by have := HS2.out; omega)).below hal (Nat.le_refl _))
  have HQ4 := Lib.hid (boxP_new w3 q (.slice ca cn cc) (.slice a0 n0 c0) (.slice a1 n1 c1) 29)
  unfold PlaceCells at HQ4
  clear hb hb' hal hin HB2 HX2 HZ2 HS2 y0 y1 y2 y3 y4 y5 y6 y7 y8 y9 y10
  obtain ⟨y0, y1, y2, y3, y4, y5, y6, y7, y8, y9, y10⟩ := HX4.out
  obtain ⟨q0, q1, q2, q3, q4⟩ := HQ4.out
  go_wp2_with fail
  go_at_call 5
  clear y0 y1 y2 y3 y4 y5 y6 y7 y8 y9 y10 q0 q1 q2 q3 q4
  generalize w3.alloc (.cells #[.slice ca cn cc, .slice a0 n0 c0, .slice a1 n1 c1, .int .i64 q.turn, .int .i64 q.quiet] 29) = w4 at HB4 HX4 HZ4 HS4 HN4 HQ4 ⊢
  generalize w3.heap.size = pb at HQ4 ⊢
  refine (HTX.out _ _ _ _ HB4.out HN4.out.plain).mono ?_; rintro e w5 ⟨rfl, hb⟩
  have HB5 := Lib.hid (HB4.out.trans (hb.mono HB4.out.size))
  have HZ5 := Lib.hid (PBox.below HZ4.out hb HS4.out)
  have HN5 := Lib.hid (HN4.out.below hb (Nat.le_refl _))
  obtain ⟨q0, q1, q2, q3, q4⟩ := HQ4.out.below hb (Nat.le_refl _)
  clear hb HB4 HX4 HZ4 HN4 HQ4
  obtain ⟨⟨x0, x1, x2, x3, x4⟩, f0, f1, f2, f3, f4⟩ := HZ5.out.facts
  rcases hT with hc | ⟨rfl, hT⟩
  · have hne : (c != 0) = true := by simpa using hc
    have hne2 : (c == 0) = false := by simpa using hc
    clear hc
    go_wp2_with fail
    have HR2 := pbox_fill (p := zeroP) (vc := .slice none 0 0) (v0 := .slice none 0 0) (v1 := .slice none 0 0) HZ5.out
    refine bodyPost_ret (results_row_tmpP rfl _ _ (w.heap.size + 1) 29 _ (0, 0) _ rfl HR2 Tryz.underlying29 rfl (by kernel_rfl)) rfl ?_
    exact ⟨rfl, fillP_below HB5.out (by omega) zeroP _ _ _⟩
  · have hne : (T.toList == (str S).toList) = false := by
      rw [beq_eq_false_iff_ne]
      intro e
      rw [ByteArray.toList_eq, ByteArray.toList_eq] at e
      exact hT (by rw [← str_data T, ← str_data (str S), e])
    clear hT
    go_wp2_with fail
    have HR2 := pbox_fill (p := zeroP) (vc := .slice none 0 0) (v0 := .slice none 0 0) (v1 := .slice none 0 0) HZ5.out
    refine bodyPost_ret (results_row_tmpP rfl _ _ (w.heap.size + 1) 29 _ (0, 0) _ rfl HR2 Tryz.underlying29 rfl (by kernel_rfl)) rfl ?_
    exact ⟨rfl, fillP_below HB5.out (by omega) zeroP _ _ _⟩
end Go.Proofs.YtakekeljndofcaaGreatDoor
