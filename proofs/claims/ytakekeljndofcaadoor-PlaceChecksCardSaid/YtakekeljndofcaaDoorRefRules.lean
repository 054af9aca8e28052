/- gamehallref1.RulesError: what the reference says of rules. -/
import Derived.Test.YtakekeljndofcaaDoorRefPiece
import Derived.IntWalk
set_option maxRecDepth 100000
namespace Go.Proofs.YtakekeljndofcaaDoor
open Go.ChangeShapes Go.WideShapes Go.ChangeAt Go.RowKit

theorem endE_line2 {x : EndD} (n : Nat) (h : x.kind = 0) : endE x n = if inB x.count 1 64 && (x.piece == 0) then 0 else 4 := by
  obtain ⟨kd, pc, ct, ls⟩ := x
  obtain rfl : kd = 0 := h
  rw [endE_line]; rfl
theorem endE_reach2 {x : EndD} (n : Nat) (h : x.kind = 1) : endE x n = if (x.count == 0) && inB x.piece 0 ((n : Int) - 1) then 0 else 4 := by
  obtain ⟨kd, pc, ct, ls⟩ := x
  obtain rfl : kd = 1 := h
  rw [endE_reach]; rfl
theorem endE_take2 {x : EndD} (n : Nat) (h : x.kind = 2) : endE x n = if inB x.count 1 64 && inB x.piece 0 ((n : Int) - 1) then 0 else 4 := by
  obtain ⟨kd, pc, ct, ls⟩ := x
  obtain rfl : kd = 2 := h
  rw [endE_take]
theorem endE_none2 {x : EndD} (n : Nat) (h : inB x.kind 0 2 = false) : endE x n = 1 := by simp [endE, h]
theorem start_go {r : RulesD} {n : Nat} (hn : n = r.pieces.length) (h : (r.start.length : Int) = r.width * r.height) : startE r = if r.start.all (fun c => inB c 0 (2 * (n : Int))) then 0 else 4 := by
  rw [startE, if_neg (by simpa using h), hn]
set_option maxRecDepth 100000 in
set_option maxHeartbeats 8000000 in
theorem rulesError_any (r : RulesD) (vp vs ve : Value) (w : World) (hr : RulesIn w r vp vs ve) (hf : LettersFit r.pieces) :
    Calls Tryd.prog 10 #[RulesV r vp vs ve] w (BelPost (.int .i64 (rulesE r)) w) := by
  obtain ⟨n, hnn⟩ : ∃ n : Nat, n = r.pieces.length := ⟨_, rfl⟩
  obtain ⟨l, hll⟩ : ∃ l : Nat, l = r.start.length := ⟨_, rfl⟩
  obtain ⟨m, hm⟩ : ∃ m : Nat, m = r.ends.length := ⟨_, rfl⟩
  have hf1 := hr.1.1.fit
  have hf2 := hr.1.2.1.fit
  have hf3 := hr.1.2.2.fit
  obtain ⟨ap, cp, rfl, _, _⟩ := hr.1.1.shape hnn
  obtain ⟨sa, cs, rfl, _, hsc⟩ := hr.1.2.1.shape hll
  obtain ⟨ea, ce, rfl, _, hec⟩ := hr.1.2.2.shape hm
  have HR : Hid _ := Lib.hid hr.1
  have HNM : Hid _ := Lib.hid hr.2
  have HF : Hid _ := Lib.hid hf
  have HSC : Hid _ := Lib.hid hsc
  have HEC : Hid _ := Lib.hid hec
  have HNN : Hid _ := Lib.hid hnn
  have HLL : Hid _ := Lib.hid hll
  have HMM : Hid _ := Lib.hid hm
  rw [← hnn] at hf1
  rw [← hll] at hf2
  rw [← hm] at hf3
  have HBX : Hid _ := Lib.hid (boxR_new w r (.slice ap n cp) (.slice sa l cs) (.slice ea m ce) 26)
  have HB0 : Hid (Below w.heap.size w (w.alloc (.cells #[.string r.name, .int .i64 r.width, .int .i64 r.height, .slice ap n cp, .slice sa l cs, .bool r.falls, .bool r.keeps, .slice ea m ce, .int .i64 r.blocked, .int .i64 r.quiet, .int .i64 r.rep] 26))) := Lib.hid ((Below.refl _ _).alloc (Nat.le_refl _) _)
  unfold RulesCells at HBX
  unfold RulesV
  clear hr hnn hll hm hsc hec hf
  go_enter Tryd.func10, Tryd.ntmps10
  go_wp2_with fail
  go_at_call 24; refine (named_any r.name _ HNM.out).mono ?_; rintro e w' ⟨rfl, rfl⟩
  cases h1 : nameB r.name.data.toList
  · have K : Hid ((6 : Int) = rulesE r) := Lib.hid (by simp [rulesE, h1])
    clear h1
    go_wp2_with fail
    go_ret
    exact ⟨ret_i64 K.out, HB0.out⟩
  have K1 : Hid _ := Lib.hid h1
  clear h1
  go_wp2_with fail
  go_at_call 21; refine (turned (in_any _ _ _ _)).mono ?_; rintro e w' ⟨rfl, rfl⟩
  cases h2 : inB r.width 1 8
  · have K : Hid ((4 : Int) = rulesE r) := Lib.hid (by simp [rulesE, K1.out, h2])
    clear h2
    go_wp2_with fail
    go_ret
    exact ⟨ret_i64 K.out, HB0.out⟩
  have K2 : Hid _ := Lib.hid h2
  clear h2
  go_wp2_with fail
  go_at_call 21; refine (turned (in_any _ _ _ _)).mono ?_; rintro e w' ⟨rfl, rfl⟩
  cases h3 : inB r.height 1 8
  · have K : Hid ((4 : Int) = rulesE r) := Lib.hid (by simp [rulesE, K1.out, h3])
    clear h3
    go_wp2_with fail
    go_ret
    exact ⟨ret_i64 K.out, HB0.out⟩
  have K3 : Hid _ := Lib.hid h3
  clear h3
  have K4 : Hid (rulesE r = if piecesE r.pieces ≠ 0 then piecesE r.pieces else if startE r ≠ 0 then startE r else if endsE r ≠ 0 then endsE r else otherE r) := Lib.hid (by rw [rulesE, K1.out, K2.out, K3.out]; rfl)
  obtain ⟨A, hA⟩ : ∃ A : Int, A = r.width * r.height := ⟨_, rfl⟩
  obtain ⟨hw1, hw2⟩ := inB_iff.1 K2.out
  obtain ⟨hh1, hh2⟩ := inB_iff.1 K3.out
  have hA1 : 1 ≤ A := by rw [hA]; have := Int.mul_le_mul hw1 hh1 (by omega) (by omega); simpa using this
  have hA2 : A ≤ 64 := by rw [hA]; have := Int.mul_le_mul hw2 hh2 (by omega) (by omega); simpa using this
  have HA : Hid _ := Lib.hid hA
  clear K1 K2 K3 hA
  by_cases h0 : n = 0
  · have K : Hid ((8 : Int) = rulesE r) := Lib.hid (by
      have : piecesE r.pieces = 8 := by rw [piecesE, ← HNN.out, if_pos h0]
      rw [K4.out, this]; rfl)
    subst h0
    go_wp2_with fail
    go_ret
    exact ⟨ret_i64 K.out, HB0.out⟩
  have hne : ((n : Int) == 0) = false := by simp; omega
  by_cases h6 : 6 < n
  · have K : Hid ((2 : Int) = rulesE r) := Lib.hid (by
      have : piecesE r.pieces = 2 := by rw [piecesE, ← HNN.out, if_neg h0, if_pos h6]
      rw [K4.out, this]; rfl)
    clear h0
    go_wp2_with fail
    go_ret
    exact ⟨ret_i64 K.out, HB0.out⟩
  have KP : Hid (piecesE r.pieces = piecesGo r.pieces 0 n) := Lib.hid (by simp [piecesE, ← HNN.out, h0, h6])
  clear h0
  go_wp2_with fail
  go_loopw [4, 5, 36] (fun _ _ i wr => ∃ k : Nat, k ≤ n ∧ i = .int .i64 (k : Int) ∧ Hid (piecesE r.pieces = piecesGo r.pieces k (n - k)) ∧ Hid (BoxR wr w.heap.size r (.slice ap n cp) (.slice sa l cs) (.slice ea m ce)) ∧ Hid (Below w.heap.size w wr)) (fun _ _ i _ => n - (intOf i).toNat)
  case atStart => exact ⟨0, by omega, rfl, KP, HBX, HB0⟩
  case round =>
    clear KP HBX HB0
    obtain ⟨k, hk, rfl, hgo, hbx, hbel⟩ := hrel
    by_cases hlt : k < n
    · obtain ⟨x, hx⟩ : ∃ x, r.pieces[k]? = some x := ⟨_, List.getElem?_eq_getElem (by have := HNN.out; omega)⟩
      have HX : Hid _ := Lib.hid hx
      have b3 := hbx.out.2.2.2.1
      clear hx
      go_wp2_with fail
      go_at_call 25; refine (pieceError_any r.pieces _ k x _ (HR.out.below hbel.out (Nat.le_refl _)).1 HX.out HF.out (by have := HNN.out; omega)).mono ?_; rintro e w2 ⟨rfl, hb2⟩
      rw [← HNN.out]
      have HB : Hid (Below w.heap.size w w2) := Lib.hid (hbel.out.trans (hb2.mono hbel.out.size))
      have HBX : Hid _ := Lib.hid (hbx.out.below hb2 (Nat.le_refl _))
      clear hb2 b3 hbel hbx
      by_cases hz : pieceE x (r.pieces.take k) n = 0
      · have KG : Hid (piecesE r.pieces = piecesGo r.pieces (k + 1) (n - (k + 1))) := Lib.hid (by
          rw [hgo.out, show n - k = (n - (k + 1)) + 1 by omega, piecesGo_step HX.out (by rw [← HNN.out]; exact hz)])
        rw [hz]
        clear hz
        go_wp2_with fail
        go_roundw
        case rel => exact ⟨k + 1, by omega, by go_num, KG, HBX, HB⟩
        case measure => simp [intOf]; omega
      · have KG : Hid (pieceE x (r.pieces.take k) n = rulesE r) := Lib.hid (by
          have : piecesE r.pieces = pieceE x (r.pieces.take k) n := by rw [hgo.out, show n - k = (n - (k + 1)) + 1 by omega, piecesGo_stop HX.out (by rw [← HNN.out]; exact hz), ← HNN.out]
          rw [K4.out, this, if_pos hz])
        obtain ⟨c, hc⟩ : ∃ c : Int, c = pieceE x (r.pieces.take k) n := ⟨_, rfl⟩
        rw [← hc] at hz KG ⊢
        have hne2 : (c != 0) = true := by simpa using hz
        clear hz hc
        go_wp2_with fail
        go_ret
        exact ⟨ret_i64 KG.out, HB.out⟩
    have K5 : Hid (rulesE r = if startE r ≠ 0 then startE r else if endsE r ≠ 0 then endsE r else otherE r) := Lib.hid (by
      have : piecesE r.pieces = 0 := by rw [hgo.out, show n - k = 0 by omega]; rfl
      rw [K4.out, if_neg (by simpa using this)])
    obtain ⟨b0, b1, b2, b3, b4, b5, b6, b7, b8, b9, b10⟩ := hbx.out
    have hmul : r.width * r.height = A := HA.out.symm
    clear K4 hgo
    by_cases hla : (l : Int) = A
    · have hne3 : ((l : Int) != A) = false := by simpa using hla
      have KS : Hid (startE r = if r.start.all (fun c => inB c 0 (2 * (n : Int))) then 0 else 4) := Lib.hid (start_go HNN.out (by rw [← HLL.out, hla, HA.out]))
      clear hla
      go_wp2_with fail
      obtain ⟨wo, rfl⟩ : ∃ wo : World, wo = wr := ⟨_, rfl⟩
      go_loopw [7, 59] (fun _ i wr => ∃ q : Nat, q ≤ l ∧ i = .int .i64 (q : Int) ∧ Hid ((r.start.take q).all (fun c => inB c 0 (2 * (n : Int))) = true) ∧ wr = wo) (fun _ i _ => l - (intOf i).toNat)
      case atStart => exact ⟨0, by omega, rfl, Lib.hid rfl, rfl⟩
      case round =>
        obtain ⟨q, hq, rfl, hall, rfl⟩ := hrel
        by_cases hlt2 : q < l
        · obtain ⟨g, off, x, rfl, hx, hqq⟩ := HSC.out q hlt2
          have c0 : wr.cell? ⟨g, off + q, none⟩ = some (.int .i64 x) := by
            have h := int_keeps _ _ _ _ _ _ hbel.out (Nat.le_refl _) hqq
            rw [Nat.mul_one] at h; exact h
          have HX : Hid _ := Lib.hid hx
          clear hqq hx HSC
          go_wp2_with fail
          go_at_call 21; refine (turned (in_any _ _ _ _)).mono ?_; rintro e w' ⟨rfl, rfl⟩
          cases hb : inB x 0 (2 * (n : Int))
          · have K : Hid ((4 : Int) = rulesE r) := Lib.hid (by
              have : startE r = 4 := by rw [KS.out, all_no HX.out hb]; rfl
              rw [K5.out, this]; rfl)
            clear hb
            go_wp2_with fail
            go_ret
            exact ⟨ret_i64 K.out, hbel.out⟩
          · have K : Hid ((r.start.take (q + 1)).all (fun c => inB c 0 (2 * (n : Int))) = true) := Lib.hid (all_step HX.out hall.out hb)
            clear hb
            go_wp2_with fail
            go_roundw
            case rel => exact ⟨q + 1, by omega, by go_num, K, trivial⟩
            case measure => simp [intOf]; omega
        have K6 : Hid (rulesE r = if endsE r ≠ 0 then endsE r else otherE r) := Lib.hid (by
          have h := hall.out
          rw [List.take_of_length_le (by have := HLL.out; omega)] at h
          have : startE r = 0 := by rw [KS.out, h]; rfl
          rw [K5.out, if_neg (by simpa using this)])
        clear K5 KS hall
        by_cases hm6 : 6 < m
        · have K : Hid ((2 : Int) = rulesE r) := Lib.hid (by
            have : endsE r = 2 := by rw [endsE, ← HMM.out, if_pos hm6]
            rw [K6.out, this]; rfl)
          go_wp2_with fail
          go_ret
          exact ⟨ret_i64 K.out, hbel.out⟩
        have KE : Hid (endsE r = endsGo (r.ends.drop 0) n) := Lib.hid (by rw [endsE, ← HMM.out, if_neg hm6, ← HNN.out]; rfl)
        go_wp2_with fail
        obtain ⟨wo2, rfl⟩ : ∃ wo2 : World, wo2 = wr := ⟨_, rfl⟩
        go_loopw [9, 10, 11, 76] (fun _ _ _ i w9 => ∃ q : Nat, q ≤ m ∧ i = .int .i64 (q : Int) ∧ Hid (endsE r = endsGo (r.ends.drop q) n) ∧ Hid (BoxR w9 w.heap.size r (.slice ap n cp) (.slice sa l cs) (.slice ea m ce)) ∧ Hid (Below w.heap.size w w9)) (fun _ _ _ i _ => m - (intOf i).toNat)
        case atStart => exact ⟨0, by omega, rfl, KE, hbx, hbel⟩
        case round =>
          clear b0 b1 b2 b3 b4 b5 b6 b7 b8 b9 b10 KE
          obtain ⟨q, hq, rfl, hgo3, hbx3, hbel3⟩ := hrel
          by_cases hlt3 : q < m
          · obtain ⟨g, off, x, rfl, hx, hqq⟩ := HEC.out q hlt3
            obtain ⟨c0, c1, c2, c3⟩ := end_keeps _ _ _ _ _ _ hbel3.out (Nat.le_refl _) hqq
            have HX : Hid _ := Lib.hid hx
            clear hqq hx HEC
            have hkd : x.kind = 0 ∨ x.kind = 1 ∨ x.kind = 2 ∨ inB x.kind 0 2 = false := by
              cases h : inB x.kind 0 2
              · simp
              · rw [inB_iff] at h; omega
            rcases hkd with hkd | hkd | hkd | hkd
            · have KE : Hid _ := Lib.hid (endE_line2 n hkd)
              have KI : Hid (inB 0 0 2 = true) := Lib.hid (by decide)
              rw [hkd] at c0
              clear hkd
              cases hb : (inB x.count 1 64 && (x.piece == 0))
              · have K : Hid ((4 : Int) = rulesE r) := Lib.hid (by
                  have h1 : endE x n = 4 := by rw [KE.out, hb]; rfl
                  have : endsE r = 4 := by rw [hgo3.out, endsGo_step HX.out, h1]; rfl
                  rw [K6.out, this]; rfl)
                have KB : Hid _ := Lib.hid hb
                clear hb
                go_wp2_with fail
                go_at_call 21; refine (turned (in_any _ _ _ _)).mono ?_; rintro e w' ⟨rfl, rfl⟩
                rw [KI.out]
                go_wp2_with fail
                have hs1 : IntKind.i64.wrap ((n : Int) - 1) = (n : Int) - 1 := IntWalk.i64_in _ (by omega)
                go_quiet ((go_at_call 21; exact Calls.quiet_of_same (in_any _ _ _ _)))
                clear hs1
                go_wp2_with fail
                all_goals first
                  | (go_ret; exact ⟨ret_i64 K.out, below_drewN (hbel3.out.alloc hbel3.out.size _) _⟩)
                  | (exfalso; have := KB.out; simp_all; done)
              · have KG : Hid (endsE r = endsGo (r.ends.drop (q + 1)) n) := Lib.hid (by
                  have h1 : endE x n = 0 := by rw [KE.out, hb]; rfl
                  rw [hgo3.out, endsGo_step HX.out, if_pos h1])
                rw [Bool.and_eq_true] at hb
                obtain ⟨p1, p2⟩ := hb
                go_wp2_with fail
                go_at_call 21; refine (turned (in_any _ _ _ _)).mono ?_; rintro e w' ⟨rfl, rfl⟩
                rw [KI.out]
                go_wp2_with fail
                have hs1 : IntKind.i64.wrap ((n : Int) - 1) = (n : Int) - 1 := IntWalk.i64_in _ (by omega)
                go_quiet ((go_at_call 21; exact Calls.quiet_of_same (in_any _ _ _ _)))
                clear hs1
                go_wp2_with fail
                have hb9 := below_drewN ((Below.refl wr.heap.size wr).alloc (Nat.le_refl _) (.cells #[.int .i64 0, .int .i64 x.piece, .int .i64 x.count, .bool x.loses] 47)) nq
                have HB9 : Hid _ := Lib.hid hb9
                clear hb9
                go_roundw
                case rel => exact ⟨q + 1, by omega, by go_num, KG, Lib.hid (hbx3.out.below HB9.out (Nat.le_refl _)), Lib.hid (hbel3.out.trans (HB9.out.mono hbel3.out.size))⟩
                case measure => simp [intOf]; omega
            · have KE : Hid _ := Lib.hid (endE_reach2 n hkd)
              have KI : Hid (inB 1 0 2 = true) := Lib.hid (by decide)
              rw [hkd] at c0
              clear hkd
              cases hb : ((x.count == 0) && inB x.piece 0 ((n : Int) - 1))
              · have K : Hid ((4 : Int) = rulesE r) := Lib.hid (by
                  have h1 : endE x n = 4 := by rw [KE.out, hb]; rfl
                  have : endsE r = 4 := by rw [hgo3.out, endsGo_step HX.out, h1]; rfl
                  rw [K6.out, this]; rfl)
                have KB : Hid _ := Lib.hid hb
                clear hb
                go_wp2_with fail
                go_at_call 21; refine (turned (in_any _ _ _ _)).mono ?_; rintro e w' ⟨rfl, rfl⟩
                rw [KI.out]
                go_wp2_with fail
                have hs1 : IntKind.i64.wrap ((n : Int) - 1) = (n : Int) - 1 := IntWalk.i64_in _ (by omega)
                go_quiet ((go_at_call 21; exact Calls.quiet_of_same (in_any _ _ _ _)))
                clear hs1
                go_wp2_with fail
                all_goals first
                  | (go_ret; exact ⟨ret_i64 K.out, below_drewN (hbel3.out.alloc hbel3.out.size _) _⟩)
                  | (exfalso; have := KB.out; simp_all; done)
              · have KG : Hid (endsE r = endsGo (r.ends.drop (q + 1)) n) := Lib.hid (by
                  have h1 : endE x n = 0 := by rw [KE.out, hb]; rfl
                  rw [hgo3.out, endsGo_step HX.out, if_pos h1])
                rw [Bool.and_eq_true] at hb
                obtain ⟨p1, p2⟩ := hb
                go_wp2_with fail
                go_at_call 21; refine (turned (in_any _ _ _ _)).mono ?_; rintro e w' ⟨rfl, rfl⟩
                rw [KI.out]
                go_wp2_with fail
                have hs1 : IntKind.i64.wrap ((n : Int) - 1) = (n : Int) - 1 := IntWalk.i64_in _ (by omega)
                go_quiet ((go_at_call 21; exact Calls.quiet_of_same (in_any _ _ _ _)))
                clear hs1
                go_wp2_with fail
                have hb9 := below_drewN ((Below.refl wr.heap.size wr).alloc (Nat.le_refl _) (.cells #[.int .i64 1, .int .i64 x.piece, .int .i64 x.count, .bool x.loses] 47)) nq
                have HB9 : Hid _ := Lib.hid hb9
                clear hb9
                go_roundw
                case rel => exact ⟨q + 1, by omega, by go_num, KG, Lib.hid (hbx3.out.below HB9.out (Nat.le_refl _)), Lib.hid (hbel3.out.trans (HB9.out.mono hbel3.out.size))⟩
                case measure => simp [intOf]; omega
            · have KE : Hid _ := Lib.hid (endE_take2 n hkd)
              have KI : Hid (inB 2 0 2 = true) := Lib.hid (by decide)
              rw [hkd] at c0
              clear hkd
              cases hb : (inB x.count 1 64 && inB x.piece 0 ((n : Int) - 1))
              · have K : Hid ((4 : Int) = rulesE r) := Lib.hid (by
                  have h1 : endE x n = 4 := by rw [KE.out, hb]; rfl
                  have : endsE r = 4 := by rw [hgo3.out, endsGo_step HX.out, h1]; rfl
                  rw [K6.out, this]; rfl)
                have KB : Hid _ := Lib.hid hb
                clear hb
                go_wp2_with fail
                go_at_call 21; refine (turned (in_any _ _ _ _)).mono ?_; rintro e w' ⟨rfl, rfl⟩
                rw [KI.out]
                go_wp2_with fail
                have hs1 : IntKind.i64.wrap ((n : Int) - 1) = (n : Int) - 1 := IntWalk.i64_in _ (by omega)
                go_quiet ((go_at_call 21; exact Calls.quiet_of_same (in_any _ _ _ _)))
                clear hs1
                go_wp2_with fail
                all_goals first
                  | (go_ret; exact ⟨ret_i64 K.out, below_drewN (hbel3.out.alloc hbel3.out.size _) _⟩)
                  | (exfalso; have := KB.out; simp_all; done)
              · have KG : Hid (endsE r = endsGo (r.ends.drop (q + 1)) n) := Lib.hid (by
                  have h1 : endE x n = 0 := by rw [KE.out, hb]; rfl
                  rw [hgo3.out, endsGo_step HX.out, if_pos h1])
                rw [Bool.and_eq_true] at hb
                obtain ⟨p1, p2⟩ := hb
                go_wp2_with fail
                go_at_call 21; refine (turned (in_any _ _ _ _)).mono ?_; rintro e w' ⟨rfl, rfl⟩
                rw [KI.out]
                go_wp2_with fail
                have hs1 : IntKind.i64.wrap ((n : Int) - 1) = (n : Int) - 1 := IntWalk.i64_in _ (by omega)
                go_quiet ((go_at_call 21; exact Calls.quiet_of_same (in_any _ _ _ _)))
                clear hs1
                go_wp2_with fail
                have hb9 := below_drewN ((Below.refl wr.heap.size wr).alloc (Nat.le_refl _) (.cells #[.int .i64 2, .int .i64 x.piece, .int .i64 x.count, .bool x.loses] 47)) nq
                have HB9 : Hid _ := Lib.hid hb9
                clear hb9
                go_roundw
                case rel => exact ⟨q + 1, by omega, by go_num, KG, Lib.hid (hbx3.out.below HB9.out (Nat.le_refl _)), Lib.hid (hbel3.out.trans (HB9.out.mono hbel3.out.size))⟩
                case measure => simp [intOf]; omega
            · have K : Hid ((1 : Int) = rulesE r) := Lib.hid (by
                have h1 : endE x n = 1 := endE_none2 n hkd
                have : endsE r = 1 := by rw [hgo3.out, endsGo_step HX.out, h1]; rfl
                rw [K6.out, this]; rfl)
              have KI : Hid _ := Lib.hid hkd
              clear hkd
              go_wp2_with fail
              go_at_call 21; refine (turned (in_any _ _ _ _)).mono ?_; rintro e w' ⟨rfl, rfl⟩
              rw [KI.out]
              go_wp2_with fail
              go_ret
              exact ⟨ret_i64 K.out, hbel3.out.alloc hbel3.out.size _⟩
          have K7 : Hid (rulesE r = otherE r) := Lib.hid (by
            have : endsE r = 0 := by rw [hgo3.out, List.drop_eq_nil_of_le (by have := HMM.out; omega)]; rfl
            rw [K6.out, if_neg (by simpa using this)])
          obtain ⟨b0, b1, b2, b3, b4, b5, b6, b7, b8, b9, b10⟩ := hbx3.out
          clear K6 hgo3
          have KO : Hid (otherE r = if inB r.blocked 0 2 && (inB r.quiet 0 200 && ((r.rep == 0) || inB r.rep 2 5)) then 0 else 4) := Lib.hid rfl
          by_cases h0 : r.rep = 0
          · rw [h0] at b10 KO
            clear h0
            go_wp2_with (go_at_call 21; refine (turned (in_any _ _ _ _)).mono ?_; rintro e w' ⟨rfl, rfl⟩)
            all_goals
              go_ret
              exact ⟨ret_i64 (by rw [K7.out, KO.out]; simp_all), hbel3.out⟩
          · have hne9 : (r.rep == 0) = false := by simpa using h0
            have hne8 : (r.rep != 0) = true := by simpa using h0
            clear h0
            go_wp2_with (go_at_call 21; refine (turned (in_any _ _ _ _)).mono ?_; rintro e w' ⟨rfl, rfl⟩)
            all_goals
              go_ret
              exact ⟨ret_i64 (by rw [K7.out, KO.out]; simp_all), hbel3.out⟩
    · have hne3 : ((l : Int) != A) = true := by simpa using hla
      have K : Hid ((3 : Int) = rulesE r) := Lib.hid (by
        have : startE r = 3 := by rw [startE, if_pos (by rw [← HLL.out, ← HA.out]; exact hla)]
        rw [K5.out, this]; rfl)
      clear hla
      go_wp2_with fail
      go_ret
      exact ⟨ret_i64 K.out, hbel.out⟩
end Go.Proofs.YtakekeljndofcaaDoor
