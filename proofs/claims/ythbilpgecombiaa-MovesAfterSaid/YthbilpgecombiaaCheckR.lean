/- rules.Check, Last: what they return for any rules. -/
import Derived.Test.YthbilpgecombiaaEndsR
import Derived.Test.YthbilpgecombiaaName
set_option maxRecDepth 100000
namespace Go.Proofs.Ythbilpgecombiaa
open Go.ChangeShapes Go.WideShapes Go.ChangeAt Go.RowKit

theorem IsSl.fit {α : Type} {q : World → Nat → Nat → α → Prop} {k : Nat} {W : World} {v : Value} {xs : List α} (h : IsSl q k W v xs) : xs.length ≤ 9223372036854775807 := by
  rcases h with ⟨rfl, _⟩ | ⟨g, off, cap, _, _, h3, h4, _⟩
  · simp
  · unfold maxLen at h4; omega
theorem waysFit_of {W : World} {v : Value} {ps : List PieceD} (h : IsSl PieceAt 4 W v ps) : WaysFit ps := by
  intro x hx
  rcases h with ⟨rfl, _⟩ | ⟨g, off, cap, _, _, _, _, hc⟩
  · cases hx
  · obtain ⟨i, hi⟩ := List.getElem?_of_mem hx
    obtain ⟨u, _, _, _, _, hu⟩ := hc i x hi
    exact hu.fit
theorem piecesE_ok {ps : List PieceD} (h : piecesE ps = 0) : ps ≠ [] ∧ ps.length ≤ 6 := by
  unfold piecesE at h
  split at h
  · cases h
  · split at h
    · cases h
    · rename_i h1 h2
      exact ⟨fun e => h1 (by rw [e]; rfl), by omega⟩
/-- What Check reads, and the room of a name. -/
def RulesIn (W : World) (r : RulesD) (vp vs ve : Value) : Prop := IsRules W r vp vs ve ∧ r.name.size ≤ maxLen
theorem RulesIn.below {W W' : World} {r : RulesD} {vp vs ve : Value} (h : RulesIn W r vp vs ve) {n : Nat} (hb : Below n W W') (hn : W.heap.size ≤ n) : RulesIn W' r vp vs ve := ⟨h.1.below hb hn, h.2⟩
set_option maxHeartbeats 4000000 in
theorem check_any (r : RulesD) (vp vs ve : Value) (w : World) (hr : RulesIn w r vp vs ve) :
    Calls Try.prog 30 #[RulesV r vp vs ve] w (BelPost (.int .i64 (rulesE r)) w) := by
  obtain ⟨n, hnn⟩ : ∃ n : Nat, n = r.pieces.length := ⟨_, rfl⟩
  obtain ⟨l, hll⟩ : ∃ l : Nat, l = r.start.length := ⟨_, rfl⟩
  obtain ⟨m, hm⟩ : ∃ m : Nat, m = r.ends.length := ⟨_, rfl⟩
  have HF : Hid _ := Lib.hid (waysFit_of hr.1.1)
  have HFP : Hid _ := Lib.hid hr.1.1.fit
  have HFE : Hid _ := Lib.hid hr.1.2.2.fit
  obtain ⟨ap, cp, rfl, _, _⟩ := hr.1.1.shape hnn
  obtain ⟨sa, cs, rfl, _, _⟩ := hr.1.2.1.shape hll
  obtain ⟨ea, ce, rfl, _, _⟩ := hr.1.2.2.shape hm
  have HR : Hid _ := Lib.hid hr.1
  have HNM : Hid _ := Lib.hid hr.2
  have HBX : Hid _ := Lib.hid (boxR_new w r (.slice ap n cp) (.slice sa l cs) (.slice ea m ce) 26)
  have HB0 : Hid (Below w.heap.size w (w.alloc (.cells #[.string r.name, .int .i64 r.width, .int .i64 r.height, .slice ap n cp, .slice sa l cs, .bool r.falls, .bool r.keeps, .slice ea m ce, .int .i64 r.blocked, .int .i64 r.quiet, .int .i64 r.rep] 26))) := Lib.hid ((Below.refl _ _).alloc (Nat.le_refl _) _)
  unfold RulesCells at HBX
  unfold RulesV
  clear hr hnn hll hm
  go_enter Try.func30, Try.ntmps30
  go_wp2_with fail
  go_at_call 49; refine (name_any r.name _ HNM.out).mono ?_; rintro e w' ⟨rfl, rfl⟩
  cases h1 : nameB r.name.data.toList
  · have K : Hid ((6 : Int) = rulesE r) := Lib.hid (by simp [rulesE, h1])
    clear h1
    go_wp2_with fail
    go_ret
    exact ⟨ret_i64 K.out, HB0.out⟩
  · have K1 : Hid _ := Lib.hid h1
    clear h1
    go_wp2_with fail
    go_at_call 50; refine (turned (isWithin_any _ _ _ _)).mono ?_; rintro e w' ⟨rfl, rfl⟩
    cases h2 : inB r.width 1 8
    · have K : Hid ((4 : Int) = rulesE r) := Lib.hid (by simp [rulesE, K1.out, h2])
      clear h2
      go_wp2_with fail
      go_ret
      exact ⟨ret_i64 K.out, HB0.out⟩
    · have K2 : Hid _ := Lib.hid h2
      clear h2
      go_wp2_with fail
      go_at_call 50; refine (turned (isWithin_any _ _ _ _)).mono ?_; rintro e w' ⟨rfl, rfl⟩
      cases h3 : inB r.height 1 8
      · have K : Hid ((4 : Int) = rulesE r) := Lib.hid (by simp [rulesE, K1.out, h3])
        clear h3
        go_wp2_with fail
        go_ret
        exact ⟨ret_i64 K.out, HB0.out⟩
      · have K3 : Hid _ := Lib.hid h3
        clear h3
        have K4 : Hid (rulesE r = if piecesE r.pieces ≠ 0 then piecesE r.pieces else if startE r ≠ 0 then startE r else if endsE r ≠ 0 then endsE r else otherE r) := Lib.hid (by rw [rulesE, K1.out, K2.out, K3.out]; rfl)
        clear K1
        go_wp2_with fail
        go_at_call 51; refine (checkPieces_any r.pieces _ _ (HR.out.below HB0.out (Nat.le_refl _)).1 HF.out HFP.out).mono ?_; rintro e w1 ⟨rfl, hb⟩
        have HB1 : Hid (Below w.heap.size w w1) := Lib.hid (HB0.out.trans (hb.mono HB0.out.size))
        have HX1 : Hid _ := Lib.hid (BoxR.below HBX.out hb (Nat.le_refl _))
        clear hb HBX
        by_cases hz : piecesE r.pieces = 0
        · have K5 : Hid (rulesE r = if startE r ≠ 0 then startE r else if endsE r ≠ 0 then endsE r else otherE r) := Lib.hid (by rw [K4.out, if_neg (by simpa using hz)])
          have KP : Hid _ := Lib.hid hz
          rw [hz]
          clear hz K4
          obtain ⟨b0, b1, b2, b3, b4, b5, b6, b7, b8, b9, b10⟩ := HX1.out
          go_wp2_with fail
          go_at_call 52; refine (checkStart_any r _ _ _ _ (HR.out.below HB1.out (Nat.le_refl _)) (piecesE_ok KP.out).2 K2.out K3.out).mono ?_; rintro e w2 ⟨rfl, hb⟩
          have HB2 : Hid (Below w.heap.size w w2) := Lib.hid (HB1.out.trans (hb.mono HB1.out.size))
          have HX2 : Hid _ := Lib.hid (BoxR.below HX1.out hb (Nat.le_refl _))
          clear hb HX1 b0 b1 b2 b3 b4 b5 b6 b7 b8 b9 b10
          by_cases hz : startE r = 0
          · have K6 : Hid (rulesE r = if endsE r ≠ 0 then endsE r else otherE r) := Lib.hid (by rw [K5.out, if_neg (by simpa using hz)])
            rw [hz]
            clear hz K5
            obtain ⟨b0, b1, b2, b3, b4, b5, b6, b7, b8, b9, b10⟩ := HX2.out
            go_wp2_with fail
            go_at_call 53; refine (checkEnds_any r _ _ _ _ (HR.out.below HB2.out (Nat.le_refl _)) (piecesE_ok KP.out).2 HFE.out).mono ?_; rintro e w3 ⟨rfl, hb⟩
            have HB3 : Hid (Below w.heap.size w w3) := Lib.hid (HB2.out.trans (hb.mono HB2.out.size))
            have HX3 : Hid _ := Lib.hid (BoxR.below HX2.out hb (Nat.le_refl _))
            clear hb HX2 b0 b1 b2 b3 b4 b5 b6 b7 b8 b9 b10
            by_cases hz : endsE r = 0
            · have K7 : Hid (otherE r = rulesE r) := Lib.hid (by rw [K6.out, if_neg (by simpa using hz)])
              rw [hz]
              clear hz K6
              obtain ⟨b0, b1, b2, b3, b4, b5, b6, b7, b8, b9, b10⟩ := HX3.out
              go_wp2_with fail
              go_at_call 54; refine (checkOther_any r _ _ _ _).mono ?_; rintro e w4 ⟨rfl, hb⟩
              have HB4 : Hid (Below w.heap.size w w4) := Lib.hid (HB3.out.trans (hb.mono HB3.out.size))
              clear hb HX3 b0 b1 b2 b3 b4 b5 b6 b7 b8 b9 b10
              go_wp2_with fail
              go_ret
              exact ⟨ret_i64 K7.out, HB4.out⟩
            · have KG : Hid (endsE r = rulesE r) := Lib.hid (by rw [K6.out, if_pos hz])
              obtain ⟨c, hc⟩ : ∃ c : Int, c = endsE r := ⟨_, rfl⟩
              rw [← hc] at hz KG ⊢
              have hne2 : (c != 0) = true := by simpa using hz
              clear hz hc
              go_wp2_with fail
              go_ret
              exact ⟨ret_i64 KG.out, HB3.out⟩
          · have KG : Hid (startE r = rulesE r) := Lib.hid (by rw [K5.out, if_pos hz])
            obtain ⟨c, hc⟩ : ∃ c : Int, c = startE r := ⟨_, rfl⟩
            rw [← hc] at hz KG ⊢
            have hne2 : (c != 0) = true := by simpa using hz
            clear hz hc
            go_wp2_with fail
            go_ret
            exact ⟨ret_i64 KG.out, HB2.out⟩
        · have KG : Hid (piecesE r.pieces = rulesE r) := Lib.hid (by rw [K4.out, if_pos hz])
          obtain ⟨c, hc⟩ : ∃ c : Int, c = piecesE r.pieces := ⟨_, rfl⟩
          rw [← hc] at hz KG ⊢
          have hne2 : (c != 0) = true := by simpa using hz
          clear hz hc
          go_wp2_with fail
          go_ret
          exact ⟨ret_i64 KG.out, HB1.out⟩
end Go.Proofs.Ythbilpgecombiaa
