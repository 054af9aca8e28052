/- rules.checkEnd, checkEnds, checkOtherEnds: the errors of the conditions. -/
import Derived.Test.YthbilpgecombiaaStartR
import Derived.IntWalk
set_option maxRecDepth 100000
namespace Go.Proofs.Ythbilpgecombiaa
open Go.ChangeShapes Go.WideShapes Go.ChangeAt Go.RowKit

theorem endE_line (pc ct : Int) (ls : Bool) (n : Nat) : endE ⟨0, pc, ct, ls⟩ n = if inB ct 1 64 && decide (pc = 0) then 0 else 4 := by simp [endE, inB]
theorem endE_reach (pc ct : Int) (ls : Bool) (n : Nat) : endE ⟨1, pc, ct, ls⟩ n = if decide (ct = 0) && inB pc 0 ((n : Int) - 1) then 0 else 4 := by simp [endE, inB]
theorem endE_take (pc ct : Int) (ls : Bool) (n : Nat) : endE ⟨2, pc, ct, ls⟩ n = if inB ct 1 64 && inB pc 0 ((n : Int) - 1) then 0 else 4 := by simp [endE, inB]
theorem endE_none (kd pc ct : Int) (ls : Bool) (n : Nat) (h : inB kd 0 2 = false) : endE ⟨kd, pc, ct, ls⟩ n = 1 := by simp [endE, h]
set_option maxHeartbeats 2000000 in
theorem checkEnd_any (x : EndD) (n : Nat) (w : World) (hn : n ≤ 6) :
    Calls Try.prog 79 #[.agg #[.int .i64 x.kind, .int .i64 x.piece, .int .i64 x.count, .bool x.loses], .int .i64 (n : Int)] w (BelPost (.int .i64 (endE x n)) w) := by
  obtain ⟨kd, pc, ct, ls⟩ := x
  have hs1 : IntKind.i64.wrap ((n : Int) - 1) = (n : Int) - 1 := IntWalk.i64_in _ (by omega)
  by_cases k0 : kd = 0
  · subst k0
    have K : Hid _ := Lib.hid (endE_line pc ct ls n)
    go_enter Try.func79, Try.ntmps79
    go_wp2
    go_quiet ((go_at_call 50; exact Calls.quiet_of_same (isWithin_any _ _ _ _)))
    clear hs1
    go_wp2
    all_goals
      go_ret
      exact ⟨ret_i64 (by rw [K.out]; simp_all), below_drewN ((Below.refl _ _).alloc (Nat.le_refl _) _) _⟩
  · by_cases k1 : kd = 1
    · subst k1
      have K : Hid _ := Lib.hid (endE_reach pc ct ls n)
      clear k0
      go_enter Try.func79, Try.ntmps79
      go_wp2
      go_quiet ((go_at_call 50; exact Calls.quiet_of_same (isWithin_any _ _ _ _)))
      clear hs1
      go_wp2
      all_goals
        go_ret
        exact ⟨ret_i64 (by rw [K.out]; simp_all), below_drewN ((Below.refl _ _).alloc (Nat.le_refl _) _) _⟩
    · by_cases k2 : kd = 2
      · subst k2
        have K : Hid _ := Lib.hid (endE_take pc ct ls n)
        clear k0 k1
        go_enter Try.func79, Try.ntmps79
        go_wp2
        go_quiet ((go_at_call 50; exact Calls.quiet_of_same (isWithin_any _ _ _ _)))
        clear hs1
        go_wp2
        all_goals
          go_ret
          exact ⟨ret_i64 (by rw [K.out]; simp_all), below_drewN ((Below.refl _ _).alloc (Nat.le_refl _) _) _⟩
      · have K : Hid _ := Lib.hid (endE_none kd pc ct ls n (by rw [inB_no]; omega))
        have n0 : (kd == 0) = false := by simpa using k0
        have n1 : (kd == 1) = false := by simpa using k1
        have n2 : (kd == 2) = false := by simpa using k2
        clear k0 k1 k2
        go_enter Try.func79, Try.ntmps79
        go_wp2
        go_quiet ((go_at_call 50; exact Calls.quiet_of_same (isWithin_any _ _ _ _)))
        clear hs1
        go_wp2
        all_goals
          go_ret
          exact ⟨ret_i64 (by rw [K.out]), below_drewN ((Below.refl _ _).alloc (Nat.le_refl _) _) _⟩

theorem endsGo_step {es : List EndD} {k n : Nat} {x : EndD} (hx : es[k]? = some x) : endsGo (es.drop k) n = if endE x n = 0 then endsGo (es.drop (k + 1)) n else endE x n := by
  obtain ⟨h1, h2⟩ := List.getElem?_eq_some_iff.1 hx
  rw [List.drop_eq_getElem_cons h1, h2, endsGo]
set_option maxHeartbeats 2000000 in
theorem checkEnds_any (r : RulesD) (vp vs ve : Value) (w : World) (hr : IsRules w r vp vs ve) (hn : r.pieces.length ≤ 6) (hl : r.ends.length ≤ 9223372036854775807) :
    Calls Try.prog 53 #[RulesV r vp vs ve] w (BelPost (.int .i64 (endsE r)) w) := by
  obtain ⟨n, hnn⟩ : ∃ n : Nat, n = r.pieces.length := ⟨_, rfl⟩
  obtain ⟨l, hll⟩ : ∃ l : Nat, l = r.start.length := ⟨_, rfl⟩
  obtain ⟨m, hm⟩ : ∃ m : Nat, m = r.ends.length := ⟨_, rfl⟩
  obtain ⟨ap, cp, rfl, _, _⟩ := hr.1.shape hnn
  obtain ⟨sa, cs, rfl, _, _⟩ := hr.2.1.shape hll
  obtain ⟨ea, ce, rfl, _, hcell⟩ := hr.2.2.shape hm
  have HBX : Hid _ := Lib.hid (boxR_new w r (.slice ap n cp) (.slice sa l cs) (.slice ea m ce) 26)
  unfold RulesCells at HBX
  unfold RulesV
  rw [← hnn] at hn
  rw [← hm] at hl
  by_cases h6 : 6 < m
  · have K : Hid ((2 : Int) = endsE r) := Lib.hid (by rw [endsE, ← hm, if_pos h6])
    clear hr hnn hm hcell hll
    go_enter Try.func53, Try.ntmps53
    go_wp2_with fail
    go_ret
    exact ⟨ret_i64 K.out, (Below.refl _ _).alloc (Nat.le_refl _) _⟩
  · have KE : Hid (endsE r = endsGo (r.ends.drop 0) n) := Lib.hid (by rw [endsE, ← hm, if_neg h6, ← hnn]; rfl)
    have HC : Hid _ := Lib.hid hcell
    have HM : Hid _ := Lib.hid hm
    have HB0 : Hid (Below w.heap.size w (w.alloc (.cells #[.string r.name, .int .i64 r.width, .int .i64 r.height, .slice ap n cp, .slice sa l cs, .bool r.falls, .bool r.keeps, .slice ea m ce, .int .i64 r.blocked, .int .i64 r.quiet, .int .i64 r.rep] 26))) := Lib.hid ((Below.refl _ _).alloc (Nat.le_refl _) _)
    clear hr hnn hm hcell hl hll
    go_enter Try.func53, Try.ntmps53
    go_wp2_with fail
    go_loopw [4, 5, 13] (fun _ _ i wr => ∃ k : Nat, k ≤ m ∧ i = .int .i64 (k : Int) ∧ Hid (endsE r = endsGo (r.ends.drop k) n) ∧ Hid (BoxR wr w.heap.size r (.slice ap n cp) (.slice sa l cs) (.slice ea m ce)) ∧ Hid (Below w.heap.size w wr)) (fun _ _ i _ => m - (intOf i).toNat)
    case atStart => exact ⟨0, by omega, rfl, KE, HBX, HB0⟩
    case round =>
      clear KE HBX HB0
      obtain ⟨k, hk, rfl, hgo, hbx, hbel⟩ := hrel
      by_cases hlt : k < m
      · obtain ⟨g, off, x, rfl, hx, hq⟩ := HC.out k hlt
        obtain ⟨c0, c1, c2, c3⟩ := end_keeps _ _ _ _ _ _ hbel.out (Nat.le_refl _) hq
        have HX : Hid _ := Lib.hid hx
        have hbx2 := BoxR.below hbx.out ((Below.refl wr.heap.size wr).alloc (Nat.le_refl _) (.cells #[.int .i64 x.kind, .int .i64 x.piece, .int .i64 x.count, .bool x.loses] 63)) (Nat.le_refl _)
        have b3 := hbx2.2.2.2.1
        clear hq hx HC hbx2
        go_wp2_with fail
        go_at_call 79; refine (checkEnd_any x n _ hn).mono ?_; rintro e w2 ⟨rfl, hb2⟩
        simp only [World.size_alloc] at hb2
        have hb3 : Below wr.heap.size wr w2 := ((Below.refl wr.heap.size wr).alloc (Nat.le_refl _) _).trans (hb2.mono (by omega))
        have HBX : Hid (BoxR w2 w.heap.size r (.slice ap n cp) (.slice sa l cs) (.slice (some ⟨g, off, none⟩) m ce)) := Lib.hid (BoxR.below hbx.out hb3 (Nat.le_refl _))
        have HB : Hid (Below w.heap.size w w2) := Lib.hid (hbel.out.trans (hb3.mono hbel.out.size))
        clear hb2 hb3 b3
        by_cases hz : endE x n = 0
        · have KG : Hid (endsE r = endsGo (r.ends.drop (k + 1)) n) := Lib.hid (by rw [hgo.out, endsGo_step HX.out, if_pos hz])
          rw [hz]
          clear hz
          go_wp2_with fail
          go_roundw
          case rel => exact ⟨k + 1, by omega, by go_num, KG, HBX, HB⟩
          case measure => simp [intOf]; omega
        · have KG : Hid (endE x n = endsE r) := Lib.hid (by rw [hgo.out, endsGo_step HX.out, if_neg hz])
          obtain ⟨c, hc⟩ : ∃ c : Int, c = endE x n := ⟨_, rfl⟩
          rw [← hc] at hz KG ⊢
          have hne2 : (c != 0) = true := by simpa using hz
          clear hz hc
          go_wp2_with fail
          go_ret
          exact ⟨ret_i64 KG.out, HB.out⟩
      · have KG : Hid ((0 : Int) = endsE r) := Lib.hid (by rw [hgo.out, List.drop_eq_nil_of_le (by have := HM.out; omega)]; rfl)
        go_wp2_with fail
        go_ret
        exact ⟨ret_i64 KG.out, hbel.out⟩
set_option maxHeartbeats 1000000 in
theorem checkOther_any (r : RulesD) (vp vs ve : Value) (w : World) :
    Calls Try.prog 54 #[RulesV r vp vs ve] w (BelPost (.int .i64 (otherE r)) w) := by
  have K : Hid (otherE r = if inB r.blocked 0 2 && (inB r.quiet 0 200 && (decide (r.rep = 0) || inB r.rep 2 5)) then 0 else 4) := Lib.hid rfl
  unfold RulesV
  by_cases h0 : r.rep = 0
  · rw [h0] at K ⊢
    clear h0
    go_enter Try.func54, Try.ntmps54
    go_wp2_with (go_at_call 50; refine (turned (isWithin_any _ _ _ _)).mono ?_; rintro e w' ⟨rfl, rfl⟩)
    all_goals
      go_ret
      exact ⟨ret_i64 (by rw [K.out]; simp_all), (Below.refl _ _).alloc (Nat.le_refl _) _⟩
  · have hne : (r.rep == 0) = false := by simpa using h0
    have HN : Hid _ := Lib.hid h0
    clear h0
    go_enter Try.func54, Try.ntmps54
    go_wp2_with (go_at_call 50; refine (turned (isWithin_any _ _ _ _)).mono ?_; rintro e w' ⟨rfl, rfl⟩)
    all_goals
      go_ret
      exact ⟨ret_i64 (by rw [K.out]; have := HN.out; simp_all), (Below.refl _ _).alloc (Nat.le_refl _) _⟩
end Go.Proofs.Ythbilpgecombiaa
