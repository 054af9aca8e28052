/- rules.checkStart, checkEnd, checkEnds, checkOtherEnds: the errors of the cells at first and of the conditions. -/
import Derived.Test.YthbilpgecombiaaPiecesR
set_option maxRecDepth 100000
namespace Go.Proofs.Ythbilpgecombiaa
open Go.ChangeShapes Go.WideShapes Go.ChangeAt Go.RowKit

/-- The cells of a variable that holds rules. -/
def BoxR (W : World) (b : Nat) (r : RulesD) (vp vs ve : Value) : Prop :=
  W.cell? ⟨b, 0, none⟩ = some (.string r.name) ∧ W.cell? ⟨b, 1, none⟩ = some (.int .i64 r.width) ∧ W.cell? ⟨b, 2, none⟩ = some (.int .i64 r.height) ∧ W.cell? ⟨b, 3, none⟩ = some vp ∧ W.cell? ⟨b, 4, none⟩ = some vs ∧
  W.cell? ⟨b, 5, none⟩ = some (.bool r.falls) ∧ W.cell? ⟨b, 6, none⟩ = some (.bool r.keeps) ∧ W.cell? ⟨b, 7, none⟩ = some ve ∧ W.cell? ⟨b, 8, none⟩ = some (.int .i64 r.blocked) ∧ W.cell? ⟨b, 9, none⟩ = some (.int .i64 r.quiet) ∧ W.cell? ⟨b, 10, none⟩ = some (.int .i64 r.rep)
theorem BoxR.below {W W' : World} {b : Nat} {r : RulesD} {vp vs ve : Value} (h : BoxR W b r vp vs ve) {n : Nat} (hb : Below n W W') (hn : W.heap.size ≤ n) : BoxR W' b r vp vs ve := by
  obtain ⟨h0, h1, h2, h3, h4, h5, h6, h7, h8, h9, h10⟩ := h
  exact ⟨cell_keeps hb hn h0, cell_keeps hb hn h1, cell_keeps hb hn h2, cell_keeps hb hn h3, cell_keeps hb hn h4, cell_keeps hb hn h5, cell_keeps hb hn h6, cell_keeps hb hn h7, cell_keeps hb hn h8, cell_keeps hb hn h9, cell_keeps hb hn h10⟩
def RulesCells (r : RulesD) (vp vs ve : Value) : Array Value :=
  #[.string r.name, .int .i64 r.width, .int .i64 r.height, vp, vs, .bool r.falls, .bool r.keeps, ve, .int .i64 r.blocked, .int .i64 r.quiet, .int .i64 r.rep]
theorem boxR_new (w : World) (r : RulesD) (vp vs ve : Value) (t : TypeId) : BoxR (w.alloc (.cells (RulesCells r vp vs ve) t)) w.heap.size r vp vs ve := by
  unfold BoxR
  refine ⟨?_, ?_, ?_, ?_, ?_, ?_, ?_, ?_, ?_, ?_, ?_⟩ <;> (rw [World.cell?_alloc_at (hn := rfl)]; rfl)

/-! ### The cells at first -/
theorem all1Int_any (x : Int) (b rb : Addr) (p : Bool) (w : World) (hb : w.cell? b = some (.func (.func 78) #[] #[.pointer (some rb)]))
    (hp : Calls Try.prog 78 #[.int .i64 x, .pointer (some rb)] w (BelPost (.bool p) w)) :
    Calls Try.prog 94 #[.int .i64 x, .pointer (some b)] w (BelPost (.bool (!p)) w) := by
  have HP : Hid _ := Lib.hid hp
  clear hp
  go_enter Try.func94, Try.ntmps94
  go_wp2_with fail
  go_at_call 78; refine HP.out.mono ?_; rintro e w2 ⟨rfl, hb2⟩
  have HB : Hid _ := Lib.hid hb2
  clear hb2
  go_wp2_with fail
  go_ret
  exact ⟨rfl, HB.out⟩
theorem allInts_any (xs : List Int) (p : Int → Bool) (v : Value) (rb : Addr) (w : World) (hv : IsSl IntAt 1 w v xs) (hl : xs.length ≤ 100)
    (hp : ∀ x W', Below w.heap.size w W' → Calls Try.prog 78 #[.int .i64 x, .pointer (some rb)] W' (BelPost (.bool (p x)) W')) :
    Calls Try.prog 77 #[v, .func (.func 78) #[] #[.pointer (some rb)]] w (BelPost (.bool (xs.all p)) w) := by
  have K : Hid ((!xs.any fun x => !p x) = xs.all p) := Lib.hid (by rw [List.all_eq_not_any_not])
  have HA : Hid (∀ W1, Below w.heap.size w W1 → IsSl IntAt 1 W1 v xs) := Lib.hid (fun W1 h => hv.below int_keeps h (Nat.le_refl _))
  have HP : Hid _ := Lib.hid hp
  clear hv hp
  go_enter Try.func77, Try.ntmps77
  go_wp2_with fail
  go_at_call 80
  refine (containsInts xs (fun x => !p x) v _ _ (HA.out _ ((Below.refl w.heap.size w).alloc (Nat.le_refl _) _)) hl (fun x W' _ hb => all1Int_any x _ rb (p x) W' (cell_keeps hb (Nat.le_refl _) (by simp)) (HP.out x W' (((Below.refl w.heap.size w).alloc (Nat.le_refl _) _).trans (hb.mono (by simp)))))).mono ?_
  rintro e w2 ⟨rfl, hb2⟩
  have HB : Hid (Below w.heap.size w w2) := Lib.hid (((Below.refl _ _).alloc (Nat.le_refl _) _).trans (hb2.mono (by simp)))
  clear hb2
  go_wp2_with fail
  go_ret
  exact ⟨ret_bool K.out, HB.out⟩
theorem cellOk_any (x : Int) (b : Nat) (a : Option Addr) (n cap : Nat) (w : World) (hb : w.cell? ⟨b, 3, none⟩ = some (.slice a n cap)) (hn : n ≤ 6) :
    Calls Try.prog 78 #[.int .i64 x, .pointer (some ⟨b, 0, none⟩)] w (BelPost (.bool (inB x 0 (2 * (n : Int)))) w) := by
  go_enter Try.func78, Try.ntmps78
  go_wp2_with fail
  go_at_call 50; refine (turned (isWithin_any _ _ _ _)).mono ?_; rintro e w' ⟨rfl, rfl⟩
  go_wp2_with fail
  go_ret
  exact ⟨rfl, Below.refl _ _⟩
set_option maxHeartbeats 1000000 in
theorem checkStart_any (r : RulesD) (vp vs ve : Value) (w : World) (hr : IsRules w r vp vs ve) (hn : r.pieces.length ≤ 6) (hw : inB r.width 1 8 = true) (hh : inB r.height 1 8 = true) :
    Calls Try.prog 52 #[RulesV r vp vs ve] w (BelPost (.int .i64 (startE r)) w) := by
  obtain ⟨n, hnn⟩ : ∃ n : Nat, n = r.pieces.length := ⟨_, rfl⟩
  obtain ⟨m, hm⟩ : ∃ m : Nat, m = r.start.length := ⟨_, rfl⟩
  obtain ⟨ap, cp, rfl, _, _⟩ := hr.1.shape hnn
  obtain ⟨sa, cs, rfl, _, _⟩ := hr.2.1.shape hm
  obtain ⟨A, hA⟩ : ∃ A : Int, A = r.width * r.height := ⟨_, rfl⟩
  rw [inB_iff] at hw hh
  have hA1 : 1 ≤ A := by rw [hA]; have := Int.mul_le_mul hw.1 hh.1 (by omega) (by omega); simpa using this
  have hA2 : A ≤ 64 := by rw [hA]; have := Int.mul_le_mul hw.2 hh.2 (by omega) (by omega); simpa using this
  have HS : Hid _ := Lib.hid hr.2.1
  have HE : Hid (startE r = if (m : Int) ≠ A then 3 else if r.start.all (fun c => inB c 0 (2 * (n : Int))) then 0 else 4) := Lib.hid (by rw [startE, hA, hnn, hm])
  have HM : Hid _ := Lib.hid hm
  obtain ⟨hw1, hw2⟩ := hw
  obtain ⟨hh1, hh2⟩ := hh
  have hmul : r.width * r.height = A := hA.symm
  rw [← hnn] at hn
  have HBX : Hid _ := Lib.hid (boxR_new w r (.slice ap n cp) (.slice sa m cs) ve 26)
  unfold RulesCells at HBX
  unfold RulesV
  clear hA hnn hm hr
  by_cases hma : (m : Int) = A
  · have hne : ((m : Int) != A) = false := by simpa using hma
    have hmA : m ≤ 100 := by omega
    cases hb : r.start.all (fun c => inB c 0 (2 * (n : Int)))
    · have K : Hid ((4 : Int) = startE r) := Lib.hid (by rw [HE.out, hb, if_neg (by simpa using hma)]; rfl)
      have KB : Hid _ := Lib.hid hb
      clear HE hb hma
      go_enter Try.func52, Try.ntmps52
      go_wp2_with fail
      go_at_call 77
      refine (allInts_any r.start (fun c => inB c 0 (2 * (n : Int))) (.slice sa m cs) ⟨w.heap.size, 0, none⟩ _ (HS.out.below int_keeps ((Below.refl w.heap.size w).alloc (Nat.le_refl _) _) (Nat.le_refl _)) (by rw [← HM.out]; exact hmA) (fun x W' hb => cellOk_any x _ ap n cp W' (cell_keeps hb (Nat.le_refl _) HBX.out.2.2.2.1) hn)).mono ?_
      rintro e w2 ⟨rfl, hb2⟩
      have HB : Hid (Below w.heap.size w w2) := Lib.hid (((Below.refl _ _).alloc (Nat.le_refl _) _).trans (hb2.mono (by simp)))
      clear hb2
      rw [KB.out]
      go_wp2_with fail
      go_ret
      exact ⟨ret_i64 K.out, HB.out⟩
    · have K : Hid ((0 : Int) = startE r) := Lib.hid (by rw [HE.out, hb, if_neg (by simpa using hma)]; rfl)
      have KB : Hid _ := Lib.hid hb
      clear HE hb hma
      go_enter Try.func52, Try.ntmps52
      go_wp2_with fail
      go_at_call 77
      refine (allInts_any r.start (fun c => inB c 0 (2 * (n : Int))) (.slice sa m cs) ⟨w.heap.size, 0, none⟩ _ (HS.out.below int_keeps ((Below.refl w.heap.size w).alloc (Nat.le_refl _) _) (Nat.le_refl _)) (by rw [← HM.out]; exact hmA) (fun x W' hb => cellOk_any x _ ap n cp W' (cell_keeps hb (Nat.le_refl _) HBX.out.2.2.2.1) hn)).mono ?_
      rintro e w2 ⟨rfl, hb2⟩
      have HB : Hid (Below w.heap.size w w2) := Lib.hid (((Below.refl _ _).alloc (Nat.le_refl _) _).trans (hb2.mono (by simp)))
      clear hb2
      rw [KB.out]
      go_wp2_with fail
      go_ret
      exact ⟨ret_i64 K.out, HB.out⟩
  · have hne : ((m : Int) != A) = true := by simpa using hma
    have K : Hid ((3 : Int) = startE r) := Lib.hid (by rw [HE.out, if_pos hma])
    clear HE hma
    go_enter Try.func52, Try.ntmps52
    go_wp2_with fail
    go_ret
    exact ⟨ret_i64 K.out, (Below.refl _ _).alloc (Nat.le_refl _) _⟩
end Go.Proofs.Ythbilpgecombiaa
