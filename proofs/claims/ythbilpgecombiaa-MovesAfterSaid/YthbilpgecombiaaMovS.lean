/- The small functions of package moves. -/
import Derived.Test.YthbilpgecombiaaMovD
import Derived.Test.YthbilpgecombiaaPChk
set_option maxRecDepth 100000
namespace Go.Proofs.Ythbilpgecombiaa
open Go.ChangeShapes Go.WideShapes Go.ChangeAt Go.RowKit

theorem mIsOf_any (c pl : Int) (w : World) (h0 : 0 ≤ c) (h1 : c ≤ 1000) :
    Calls Try.prog 58 #[.int .i64 c, .int .i64 pl] w fun e w' => e = .returned (.bool (isOfB c pl)) ∧ w' = w := by
  by_cases hc : c = 0
  · subst hc
    go_enter Try.func58, Try.ntmps58
    go_wp2
    go_ret
    exact ⟨rfl, rfl⟩
  · obtain ⟨d, hd⟩ : ∃ d, d = c - 1 := ⟨_, rfl⟩
    have hne : (c != 0) = true := by simpa using hc
    have K : Hid (((c - 1) % 2 == pl) = isOfB c pl) := Lib.hid (by
      unfold isOfB; rw [decide_eq_true hc, Bool.true_and]
      by_cases h : (c - 1) % 2 = pl <;> simp [h])
    have h2 : 0 ≤ c - 1 := by omega
    clear hd hc
    go_enter Try.func58, Try.ntmps58
    go_wp2
    go_ret
    exact ⟨ret_bool K.out, rfl⟩
theorem mKindOf_any (c : Int) (w : World) (h0 : 1 ≤ c) (h1 : c ≤ 1000) :
    Calls Try.prog 59 #[.int .i64 c] w fun e w' => e = .returned (.int .i64 (kindOfI c)) ∧ w' = w := by
  have K : Hid ((c - 1) / 2 = kindOfI c) := Lib.hid rfl
  have h2 : 0 ≤ c - 1 := by omega
  go_enter Try.func59, Try.ntmps59
  go_wp2
  go_ret
  exact ⟨ret_i64 K.out, rfl⟩
theorem mCellOf_any (k pl : Int) (w : World) (h0 : 0 ≤ k) (h1 : k ≤ 100) (p0 : 0 ≤ pl) (p1 : pl ≤ 1) :
    Calls Try.prog 67 #[.int .i64 k, .int .i64 pl] w fun e w' => e = .returned (.int .i64 (2 * k + pl + 1)) ∧ w' = w := by
  go_enter Try.func67, Try.ntmps67
  go_wp2
  go_ret
  exact ⟨rfl, rfl⟩
theorem mOpp_any (pl : Int) (w : World) (p0 : 0 ≤ pl) (p1 : pl ≤ 1) :
    Calls Try.prog 66 #[.int .i64 pl] w fun e w' => e = .returned (.int .i64 (1 - pl)) ∧ w' = w := by
  go_enter Try.func66, Try.ntmps66
  go_wp2
  go_ret
  exact ⟨rfl, rfl⟩
set_option maxHeartbeats 1000000 in
theorem canEnd_any (take c pl : Int) (w : World) (h0 : 0 ≤ c) (h1 : c ≤ 1000) (p0 : 0 ≤ pl) (p1 : pl ≤ 1) :
    Calls Try.prog 83 #[.int .i64 take, .int .i64 c, .int .i64 pl] w fun e w' => e = .returned (.bool (canEndB take c pl)) ∧ w' = w := by
  obtain ⟨b, hb⟩ : ∃ b, b = isOfB c (1 - pl) := ⟨_, rfl⟩
  have HI : Hid (∀ W, Calls Try.prog 58 #[.int .i64 c, .int .i64 (1 - pl)] W fun e w' => e = .returned (.bool b) ∧ W = w') := Lib.hid (fun W => by rw [hb]; exact turned (mIsOf_any _ _ _ h0 h1))
  have HO : Hid (∀ W, Calls Try.prog 66 #[.int .i64 pl] W fun e w' => e = .returned (.int .i64 (1 - pl)) ∧ W = w') := Lib.hid (fun W => turned (mOpp_any _ _ p0 p1))
  have HK : Hid (canEndB take c pl = if take = 0 then decide (c = 0) else if take = 1 then (decide (c = 0) || b) else b) := Lib.hid (by rw [canEndB, hb])
  clear hb h0 h1 p0 p1
  by_cases t0 : take = 0
  · subst t0
    have K : Hid ((c == 0) = canEndB 0 c pl) := Lib.hid (by rw [HK.out, if_pos rfl]; by_cases h : c = 0 <;> simp [h])
    clear HK
    go_enter Try.func83, Try.ntmps83
    go_wp2_with fail
    go_at_call 66; refine (HO.out _).mono ?_; rintro e w' ⟨rfl, rfl⟩
    go_wp2_with fail
    go_at_call 58; refine (HI.out _).mono ?_; rintro e w' ⟨rfl, rfl⟩
    go_wp2_with fail
    go_ret
    exact ⟨ret_bool K.out, rfl⟩
  · have e0 : (take == 0) = false := by simpa using t0
    by_cases t1 : take = 1
    · subst t1
      by_cases hc : c = 0
      · have K : Hid (true = canEndB 1 c pl) := Lib.hid (by rw [HK.out, if_neg t0, if_pos rfl]; simp [hc])
        have hc2 : (c == 0) = true := by simpa using hc
        clear HK t0 hc
        go_enter Try.func83, Try.ntmps83
        go_wp2_with fail
        go_at_call 66; refine (HO.out _).mono ?_; rintro e w' ⟨rfl, rfl⟩
        go_wp2_with fail
        go_at_call 58; refine (HI.out _).mono ?_; rintro e w' ⟨rfl, rfl⟩
        go_wp2_with fail
        go_ret
        exact ⟨ret_bool K.out, rfl⟩
      · have K : Hid (b = canEndB 1 c pl) := Lib.hid (by rw [HK.out, if_neg t0, if_pos rfl]; simp [hc])
        have hc2 : (c == 0) = false := by simpa using hc
        clear HK t0 hc
        go_enter Try.func83, Try.ntmps83
        go_wp2_with fail
        go_at_call 66; refine (HO.out _).mono ?_; rintro e w' ⟨rfl, rfl⟩
        go_wp2_with fail
        go_at_call 58; refine (HI.out _).mono ?_; rintro e w' ⟨rfl, rfl⟩
        go_wp2_with fail
        go_ret
        exact ⟨ret_bool K.out, rfl⟩
    · have K : Hid (b = canEndB take c pl) := Lib.hid (by rw [HK.out, if_neg t0, if_neg t1])
      have e1 : (take == 1) = false := by simpa using t1
      clear HK t0 t1
      go_enter Try.func83, Try.ntmps83
      go_wp2_with fail
      go_at_call 66; refine (HO.out _).mono ?_; rintro e w' ⟨rfl, rfl⟩
      go_wp2_with fail
      go_at_call 58; refine (HI.out _).mono ?_; rintro e w' ⟨rfl, rfl⟩
      go_wp2_with fail
      go_ret
      exact ⟨ret_bool K.out, rfl⟩
theorem kindAtI_same {r : RulesD} {pl k t : Int} (h : (pieceOf r k).promote = 0) : kindAtI r pl k t = k := by rw [kindAtI, if_pos h]
set_option maxHeartbeats 4000000 in
theorem kindAt_any (r : RulesD) (vp vs ve : Value) (pl k t : Int) (w : World) (hr : IsRules w r vp vs ve) (hz : rulesE r = 0) (p0 : 0 ≤ pl) (p1 : pl ≤ 1) (k0 : 0 ≤ k) (k1 : k < r.pieces.length) (t0 : 0 ≤ t) (t1 : t ≤ 100) :
    Calls Try.prog 61 #[RulesV r vp vs ve, .int .i64 pl, .int .i64 k, .int .i64 t] w (BelPost (.int .i64 (kindAtI r pl k t)) w) := by
  obtain ⟨n, hn⟩ : ∃ n : Nat, n = r.pieces.length := ⟨_, rfl⟩
  obtain ⟨_, hw, hh, _⟩ := rulesE_ok hz
  rw [inB_iff] at hw hh
  obtain ⟨g1, g2, _, _⟩ := ways_good hz k0 k1
  have hn6 := (pieces_len hz).2
  obtain ⟨ap, cp, rfl, hcp, hcell⟩ := hr.1.shape hn
  obtain ⟨j, rfl⟩ : ∃ j : Nat, k = (j : Int) := ⟨k.toNat, by omega⟩
  have hjn : j < n := by omega
  obtain ⟨g, off, x, rfl, hx, hq⟩ := hcell j hjn
  have hxp : pieceOf r (j : Int) = x := by
    have h := pieceOf_in (r := r) k1 k0
    rw [Int.toNat_natCast, hx] at h
    exact (Option.some.inj h).symm
  have hB : Below w.heap.size w (w.alloc (.cells (RulesCells r (.slice (some ⟨g, off, none⟩) n cp) vs ve) 26)) := (Below.refl _ _).alloc (Nat.le_refl _) _
  obtain ⟨u, d0, d1, d2, d3, _⟩ := piece_keeps _ _ _ _ _ _ hB (Nat.le_refl _) hq
  have HB : Hid _ := Lib.hid hB
  have hY := boxR_new w r (.slice (some ⟨g, off, none⟩) n cp) vs ve 26
  obtain ⟨y0, y1, y2, y3, y4, y5, y6, y7, y8, y9, y10⟩ := hY
  obtain ⟨pr, hpr⟩ : ∃ pr, pr = x.promote := ⟨_, rfl⟩
  rw [hxp, ← hpr] at g1 g2
  rw [← hpr] at d2
  have HK : Hid (∀ c, (if pr = 0 then (j : Int) else if t / r.width = (if pl = 1 then 0 else r.height - 1) then pr - 1 else (j : Int)) = c → c = kindAtI r pl (j : Int) t) := Lib.hid (fun c h => by rw [← h, kindAtI, hxp, ← hpr]; rfl)
  rw [← hn] at g2 k1 hn6
  obtain ⟨hw1, hw2⟩ := hw
  obtain ⟨hh1, hh2⟩ := hh
  have q0 : 0 ≤ t / r.width := Int.ediv_nonneg t0 (by omega)
  unfold RulesCells at HB y0 y1 y2 y3 y4 y5 y6 y7 y8 y9 y10 d0 d1 d2 d3
  unfold RulesV
  clear hr hn hz hcell hx hq hxp hpr hB k0 d0 d1 d3
  by_cases e1 : pl = 1
  · subst e1
    by_cases e2 : pr = 0
    · have K : Hid ((j : Int) = kindAtI r 1 (j : Int) t) := Lib.hid (HK.out _ (by rw [if_pos e2]))
      have e2b : (pr == 0) = true := by simpa using e2
      clear HK e2
      go_enter Try.func61, Try.ntmps61
      go_wp2
      go_ret
      exact ⟨ret_i64 K.out, HB.out⟩
    · have e2b : (pr == 0) = false := by simpa using e2
      by_cases e3 : t / r.width = 0
      · have K : Hid (pr - 1 = kindAtI r 1 (j : Int) t) := Lib.hid (HK.out _ (by rw [if_neg e2, if_pos rfl, if_pos e3]))
        have e3b : (t / r.width != 0) = false := by simpa using e3
        clear HK e2 e3
        go_enter Try.func61, Try.ntmps61
        go_wp2
        go_ret
        exact ⟨ret_i64 K.out, HB.out⟩
      · have K : Hid ((j : Int) = kindAtI r 1 (j : Int) t) := Lib.hid (HK.out _ (by rw [if_neg e2, if_pos rfl, if_neg e3]))
        have e3b : (t / r.width != 0) = true := by simpa using e3
        clear HK e2 e3
        go_enter Try.func61, Try.ntmps61
        go_wp2
        go_ret
        exact ⟨ret_i64 K.out, HB.out⟩
  · have e1b : (pl == 1) = false := by simpa using e1
    by_cases e2 : pr = 0
    · have K : Hid ((j : Int) = kindAtI r pl (j : Int) t) := Lib.hid (HK.out _ (by rw [if_pos e2]))
      have e2b : (pr == 0) = true := by simpa using e2
      clear HK e2 e1
      go_enter Try.func61, Try.ntmps61
      go_wp2
      go_ret
      exact ⟨ret_i64 K.out, HB.out⟩
    · have e2b : (pr == 0) = false := by simpa using e2
      by_cases e3 : t / r.width = r.height - 1
      · have K : Hid (pr - 1 = kindAtI r pl (j : Int) t) := Lib.hid (HK.out _ (by rw [if_neg e2, if_neg e1, if_pos e3]))
        have e3b : (t / r.width != r.height - 1) = false := by simpa using e3
        clear HK e2 e3 e1
        go_enter Try.func61, Try.ntmps61
        go_wp2
        go_ret
        exact ⟨ret_i64 K.out, HB.out⟩
      · have K : Hid ((j : Int) = kindAtI r pl (j : Int) t) := Lib.hid (HK.out _ (by rw [if_neg e2, if_neg e1, if_neg e3]))
        have e3b : (t / r.width != r.height - 1) = true := by simpa using e3
        clear HK e2 e3 e1
        go_enter Try.func61, Try.ntmps61
        go_wp2
        go_ret
        exact ⟨ret_i64 K.out, HB.out⟩
end Go.Proofs.Ythbilpgecombiaa
