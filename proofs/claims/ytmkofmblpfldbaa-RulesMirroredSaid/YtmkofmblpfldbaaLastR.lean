/- rules.Last: whether a square is on the last row of a player. -/
import Derived.Test.YtmkofmblpfldbaaCheckR
namespace Go.Proofs.Ytmkofmblpfldbaa
open Go.ChangeShapes Go.WideShapes Go.ChangeAt Go.RowKit

theorem ret2_bi {a b : Bool} {c d : Int} (h : a = b) (g : c = d) : Ending.returned (.tuple #[.bool a, .int .i64 c]) = .returned (.tuple #[.bool b, .int .i64 d]) := by rw [h, g]
def lastE (r : RulesD) (p s : Int) : Int := if rulesE r ≠ 0 then rulesE r else if p ≠ 0 ∧ p ≠ 1 then 1 else if inB s 0 (r.width * r.height - 1) = false then 4 else 0
def lastV (r : RulesD) (p s : Int) : Bool := (lastE r p s == 0) && (if p = 0 then s / r.width == r.height - 1 else s / r.width == 0)
theorem rulesE_ok {r : RulesD} (h : rulesE r = 0) : nameB r.name.data.toList = true ∧ inB r.width 1 8 = true ∧ inB r.height 1 8 = true ∧ piecesE r.pieces = 0 ∧ startE r = 0 ∧ endsE r = 0 ∧ otherE r = 0 := by
  unfold rulesE at h
  cases h1 : nameB r.name.data.toList
  · rw [h1] at h; simp at h
  · rw [h1, if_neg (by simp)] at h
    cases h2 : (inB r.width 1 8 && inB r.height 1 8)
    · rw [h2] at h; simp at h
    · rw [h2, if_neg (by simp)] at h
      rw [Bool.and_eq_true] at h2
      by_cases h3 : piecesE r.pieces = 0
      · rw [if_neg (by simpa using h3)] at h
        by_cases h4 : startE r = 0
        · rw [if_neg (by simpa using h4)] at h
          by_cases h5 : endsE r = 0
          · rw [if_neg (by simpa using h5)] at h
            exact ⟨rfl, h2.1, h2.2, h3, h4, h5, h⟩
          · rw [if_pos h5] at h; exact absurd h h5
        · rw [if_pos h4] at h; exact absurd h h4
      · rw [if_pos h3] at h; exact absurd h h3
theorem startE_ok {r : RulesD} (h : startE r = 0) : (r.start.length : Int) = r.width * r.height ∧ r.start.all (fun c => inB c 0 (2 * r.pieces.length)) = true := by
  unfold startE at h
  split at h
  · cases h
  · rename_i h1
    split at h
    · rename_i h2; exact ⟨by simpa using h1, h2⟩
    · cases h
def LastPost (r : RulesD) (p s : Int) (w : World) (e : Ending) (w' : World) : Prop := e = .returned (.tuple #[.bool (lastV r p s), .int .i64 (lastE r p s)]) ∧ Below w.heap.size w w'
theorem lastV_no {r : RulesD} {p s : Int} (h : lastE r p s ≠ 0) : false = lastV r p s := by
  have : (lastE r p s == 0) = false := by simpa using h
  rw [lastV, this]; rfl
set_option maxHeartbeats 2000000 in
theorem last_any (r : RulesD) (vp vs ve : Value) (p s : Int) (w : World) (hr : RulesIn w r vp vs ve) :
    Calls Try.prog 10 #[RulesV r vp vs ve, .int .i64 p, .int .i64 s] w (LastPost r p s w) := by
  have HCK : Hid (∀ W, Below w.heap.size w W → Calls Try.prog 8 #[RulesV r vp vs ve] W (BelPost (.int .i64 (rulesE r)) W)) := Lib.hid (fun W h => check_any r vp vs ve W (hr.below h (Nat.le_refl _)))
  obtain ⟨n, hnn⟩ : ∃ n : Nat, n = r.pieces.length := ⟨_, rfl⟩
  obtain ⟨l, hll⟩ : ∃ l : Nat, l = r.start.length := ⟨_, rfl⟩
  obtain ⟨m, hm⟩ : ∃ m : Nat, m = r.ends.length := ⟨_, rfl⟩
  obtain ⟨ap, cp, rfl, _, _⟩ := hr.1.1.shape hnn
  obtain ⟨sa, cs, rfl, _, _⟩ := hr.1.2.1.shape hll
  obtain ⟨ea, ce, rfl, _, _⟩ := hr.1.2.2.shape hm
  have HBX : Hid _ := Lib.hid (boxR_new w r (.slice ap n cp) (.slice sa l cs) (.slice ea m ce) 26)
  have HB0 : Hid (Below w.heap.size w (w.alloc (.cells #[.string r.name, .int .i64 r.width, .int .i64 r.height, .slice ap n cp, .slice sa l cs, .bool r.falls, .bool r.keeps, .slice ea m ce, .int .i64 r.blocked, .int .i64 r.quiet, .int .i64 r.rep] 26))) := Lib.hid ((Below.refl _ _).alloc (Nat.le_refl _) _)
  unfold RulesCells at HBX
  unfold RulesV at HCK ⊢
  clear hr hnn hll hm
  go_enter Try.func10, Try.ntmps10
  go_wp2_with fail
  go_at_call 8; refine (HCK.out _ HB0.out).mono ?_; rintro e w1 ⟨rfl, hb⟩
  have HB1 : Hid (Below w.heap.size w w1) := Lib.hid (HB0.out.trans (hb.mono HB0.out.size))
  have HX1 : Hid _ := Lib.hid (BoxR.below HBX.out hb (Nat.le_refl _))
  clear hb HBX HCK
  by_cases hz : rulesE r = 0
  · obtain ⟨_, k2, k3, _, _, _, _⟩ := rulesE_ok hz
    obtain ⟨hw1, hw2⟩ := inB_iff.1 k2
    obtain ⟨hh1, hh2⟩ := inB_iff.1 k3
    obtain ⟨A, hA⟩ : ∃ A : Int, A = r.width * r.height := ⟨_, rfl⟩
    have hA1 : 1 ≤ A := by rw [hA]; have := Int.mul_le_mul hw1 hh1 (by omega) (by omega); simpa using this
    have hA2 : A ≤ 64 := by rw [hA]; have := Int.mul_le_mul hw2 hh2 (by omega) (by omega); simpa using this
    have KE : Hid (lastE r p s = if p ≠ 0 ∧ p ≠ 1 then 1 else if inB s 0 (A - 1) = false then 4 else 0) := Lib.hid (by rw [lastE, if_neg (by simpa using hz), hA])
    have hmul : r.width * r.height = A := hA.symm
    have hw0 : (r.width == 0) = false := by simp; omega
    obtain ⟨b0, b1, b2, b3, b4, b5, b6, b7, b8, b9, b10⟩ := HX1.out
    rw [hz]
    clear hz k2 k3 hA
    by_cases hp : p = 0 ∨ p = 1
    · have KE2 : Hid (lastE r p s = if inB s 0 (A - 1) = false then 4 else 0) := Lib.hid (by rw [KE.out, if_neg (by omega)])
      clear KE
      cases hs : inB s 0 (A - 1)
      · have K : Hid ((4 : Int) = lastE r p s) := Lib.hid (by rw [KE2.out, hs]; rfl)
        have K2 : Hid (false = lastV r p s) := Lib.hid (lastV_no (by rw [← K.out]; decide))
        have KS : Hid _ := Lib.hid hs
        clear hs KE2
        rcases hp with rfl | rfl
        all_goals
          go_wp2_with fail
          go_at_call 17; refine (turned (isWithin_any _ _ _ _)).mono ?_; rintro e w' ⟨rfl, rfl⟩
          rw [KS.out]
          go_wp2_with fail
          go_ret2
          exact ⟨ret2_bi K2.out K.out, HB1.out⟩
      · have K : Hid ((0 : Int) = lastE r p s) := Lib.hid (by rw [KE2.out, hs]; rfl)
        have K2 : Hid ((if p = 0 then s / r.width == r.height - 1 else s / r.width == 0) = lastV r p s) := Lib.hid (by
          have : (lastE r p s == 0) = true := by rw [← K.out]; rfl
          rw [lastV, this]; rfl)
        have KS : Hid _ := Lib.hid hs
        obtain ⟨hs1, hs2⟩ := inB_iff.1 hs
        clear hs KE2
        rcases hp with rfl | rfl
        all_goals
          go_wp2_with fail
          go_at_call 17; refine (turned (isWithin_any _ _ _ _)).mono ?_; rintro e w' ⟨rfl, rfl⟩
          rw [KS.out]
          go_wp2_with fail
          go_ret2
          exact ⟨ret2_bi K2.out K.out, HB1.out⟩
    · have K : Hid ((1 : Int) = lastE r p s) := Lib.hid (by rw [KE.out, if_pos (by omega)])
      have K2 : Hid (false = lastV r p s) := Lib.hid (lastV_no (by rw [← K.out]; decide))
      have n0 : (p != 0) = true := by simp; omega
      have n1 : (p != 1) = true := by simp; omega
      clear hp KE
      go_wp2_with fail
      go_ret2
      exact ⟨ret2_bi K2.out K.out, HB1.out⟩
  · have K : Hid (rulesE r = lastE r p s) := Lib.hid (by rw [lastE, if_pos hz])
    have K2 : Hid (false = lastV r p s) := Lib.hid (lastV_no (by rw [← K.out]; exact hz))
    obtain ⟨c, hc⟩ : ∃ c : Int, c = rulesE r := ⟨_, rfl⟩
    rw [← hc] at hz K ⊢
    have hne2 : (c != 0) = true := by simpa using hz
    clear hz hc
    go_wp2_with fail
    go_ret2
    exact ⟨ret2_bi K2.out K.out, HB1.out⟩
end Go.Proofs.Ytmkofmblpfldbaa
