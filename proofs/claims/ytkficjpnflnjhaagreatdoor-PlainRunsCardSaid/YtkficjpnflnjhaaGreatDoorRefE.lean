/- Merged by merge.py of the texts Named RefPiece RefRules RefPErr. -/
import Derived.Test.YtkficjpnflnjhaaGreatDoorRulA
import Derived.IntWalk
import Derived.Test.YtkficjpnflnjhaaGreatDoorPlcA
namespace Go.Proofs.YtkficjpnflnjhaaGreatDoor
open Go.ChangeShapes Go.WideShapes Go.ChangeAt Go.RowKit

theorem dig_cap {x : Int} (h : digB x = true) : capB x = false := by
  rw [digB, inB_iff] at h; rw [capB, inB_no]; omega
theorem wrap_byte (b : UInt8) : wrap64 ((b.toNat : Nat) : Int) = ((b.toNat : Nat) : Int) := by
  have := b.toNat_lt
  unfold wrap64; omega
set_option maxHeartbeats 2000000 in
theorem named_any (s : ByteArray) (w : World) (hs : s.size ≤ maxLen) :
    Calls Tryz.prog 50 #[.string s] w fun e w' => e = .returned (.bool (nameB s.data.toList)) ∧ w = w' := by
  unfold maxLen at hs
  go_enter Tryz.func50, Tryz.ntmps50
  go_wp2
  go_loop [7] (fun i => ∃ k : Nat, k ≤ s.size ∧ i = .int .i64 (k : Int) ∧ Hid (∀ j, j < k → (capB (nb s.data.toList j) || digB (nb s.data.toList j)) = true) ∧ Hid (0 < k → capB (nb s.data.toList 0) = true)) (fun i => s.size - (intOf i).toNat)
  case atStart => exact ⟨0, by omega, rfl, Lib.hid (fun j hj => by omega), Lib.hid (fun h => by omega)⟩
  case round =>
    obtain ⟨k, hk, rfl, hall, hfst⟩ := hrel
    by_cases hlt : k < s.size
    · have hn := nb_at s k hlt
      cases hd : digB (nb s.data.toList k)
      · cases hc : capB (nb s.data.toList k)
        · have K : Hid (false = nameB s.data.toList) := Lib.hid (nameB_bad (k := k) (by rw [size_list]; exact hlt) hc hd).symm
          rw [hn] at hc hd
          have HC : Hid (inB (wrap64 ↑(s[k]).toNat) 65 90 = false) := Lib.hid (by rw [wrap_byte]; exact hc)
          have HD : Hid (inB (wrap64 ↑(s[k]).toNat) 48 57 = false) := Lib.hid (by rw [wrap_byte]; exact hd)
          clear hc hd hn
          go_wp2_with fail
          go_at_call 51; refine (turned (in_any _ _ _ _)).mono ?_; rintro e w' ⟨rfl, rfl⟩
          rw [HD.out]
          go_wp2_with fail
          go_at_call 51; refine (turned (in_any _ _ _ _)).mono ?_; rintro e w' ⟨rfl, rfl⟩
          rw [HC.out]
          go_wp2_with fail
          go_ret
          exact ⟨ret_bool K.out, rfl⟩
        · have K : Hid ((capB (nb s.data.toList k) || digB (nb s.data.toList k)) = true ∧ (0 < k + 1 → capB (nb s.data.toList 0) = true)) := Lib.hid ⟨by rw [hc]; simp, fun _ => by
            by_cases e : k = 0
            · subst e; exact hc
            · exact hfst.out (by omega)⟩
          rw [hn] at hc hd
          have HC : Hid (inB (wrap64 ↑(s[k]).toNat) 65 90 = true) := Lib.hid (by rw [wrap_byte]; exact hc)
          have HD : Hid (inB (wrap64 ↑(s[k]).toNat) 48 57 = false) := Lib.hid (by rw [wrap_byte]; exact hd)
          clear hc hd hn
          go_wp2_with fail
          go_at_call 51; refine (turned (in_any _ _ _ _)).mono ?_; rintro e w' ⟨rfl, rfl⟩
          rw [HD.out]
          go_wp2_with fail
          go_at_call 51; refine (turned (in_any _ _ _ _)).mono ?_; rintro e w' ⟨rfl, rfl⟩
          rw [HC.out]
          go_wp2_with fail
          go_round
          case rel =>
            refine ⟨k + 1, by omega, by go_num, Lib.hid (fun j hj => ?_), Lib.hid K.out.2⟩
            by_cases e : j = k
            · rw [e]; exact K.out.1
            · exact hall.out j (by omega)
          case measure => simp [intOf]; omega
      · by_cases h0 : k = 0
        · subst h0
          have K : Hid (false = nameB s.data.toList) := Lib.hid (nameB_first (dig_cap hd)).symm
          rw [hn] at hd
          have HD : Hid (inB (wrap64 ↑(s[0]).toNat) 48 57 = true) := Lib.hid (by rw [wrap_byte]; exact hd)
          clear hd hn
          go_wp2_with fail
          go_at_call 51; refine (turned (in_any _ _ _ _)).mono ?_; rintro e w' ⟨rfl, rfl⟩
          rw [HD.out]
          go_wp2_with fail
          go_ret
          exact ⟨ret_bool K.out, rfl⟩
        · have K : Hid ((capB (nb s.data.toList k) || digB (nb s.data.toList k)) = true ∧ (0 < k + 1 → capB (nb s.data.toList 0) = true)) := Lib.hid ⟨by rw [hd]; simp, fun _ => hfst.out (by omega)⟩
          rw [hn] at hd
          have HD : Hid (inB (wrap64 ↑(s[k]).toNat) 48 57 = true) := Lib.hid (by rw [wrap_byte]; exact hd)
          have hne : ((k : Int) == 0) = false := by simp; omega
          clear hd hn
          go_wp2_with fail
          go_at_call 51; refine (turned (in_any _ _ _ _)).mono ?_; rintro e w' ⟨rfl, rfl⟩
          rw [HD.out]
          go_wp2_with fail
          go_round
          case rel =>
            refine ⟨k + 1, by omega, by go_num, Lib.hid (fun j hj => ?_), Lib.hid K.out.2⟩
            by_cases e : j = k
            · rw [e]; exact K.out.1
            · exact hall.out j (by omega)
          case measure => simp [intOf]; omega
    · have K : Hid (inB s.size 1 8 = nameB s.data.toList) := Lib.hid (by
        cases h : inB (s.size : Int) 1 8
        · exact (nameB_size (by rw [size_list]; exact h)).symm
        · refine (nameB_good (by rw [size_list]; exact h) (hfst.out ?_) (fun j hj => hall.out j (by rw [size_list] at hj; omega))).symm
          rw [inB_iff] at h; omega)
      go_wp2_with fail
      go_at_call 51; refine (turned (in_any _ _ _ _)).mono ?_; rintro e w' ⟨rfl, rfl⟩
      go_wp2_with fail
      go_ret
      exact ⟨ret_bool K.out, rfl⟩
end Go.Proofs.YtkficjpnflnjhaaGreatDoor

set_option maxRecDepth 100000
namespace Go.Proofs.YtkficjpnflnjhaaGreatDoor
open Go.ChangeShapes Go.WideShapes Go.ChangeAt Go.RowKit

def BoxPc (W : World) (b : Nat) (x : PieceD) (u : Value) : Prop :=
  W.cell? ⟨b, 0, none⟩ = some (.int .u8 x.letter) ∧ W.cell? ⟨b, 1, none⟩ = some (.int .i64 x.hand) ∧ W.cell? ⟨b, 2, none⟩ = some (.int .i64 x.promote) ∧ W.cell? ⟨b, 3, none⟩ = some u
theorem BoxPc.below {W W' : World} {b : Nat} {x : PieceD} {u : Value} (h : BoxPc W b x u) {n : Nat} (hb : Below n W W') (hn : W.heap.size ≤ n) : BoxPc W' b x u :=
  ⟨cell_keeps hb hn h.1, cell_keeps hb hn h.2.1, cell_keeps hb hn h.2.2.1, cell_keeps hb hn h.2.2.2⟩
theorem all_step {α : Type} {p : α → Bool} {xs : List α} {k : Nat} {x : α} (hx : xs[k]? = some x) (h : (xs.take k).all p = true) (h2 : p x = true) : (xs.take (k + 1)).all p = true := by
  rw [List.take_add_one, List.all_append, h, hx]; simp [h2]
theorem all_no {α : Type} {p : α → Bool} {xs : List α} {k : Nat} {x : α} (hx : xs[k]? = some x) (h2 : p x = false) : xs.all p = false := by
  rw [Bool.eq_false_iff]; intro h
  rw [List.all_eq_true] at h
  rw [h x (List.mem_of_getElem? hx)] at h2; cases h2
theorem wayB_parts {x : WayD} (h : wayB x = true) : inB x.dx (-7) 7 = true ∧ inB x.dy (-7) 7 = true ∧ ((x.dx == 0) = false ∨ (x.dx == 0) = true ∧ (x.dy == 0) = false) ∧ inB x.most 1 7 = true ∧ inB x.take 0 2 = true := by
  simp only [wayB, Bool.and_eq_true] at h
  obtain ⟨h1, h2, h3, h4, h5⟩ := h
  refine ⟨h1, h2, ?_, h4, h5⟩
  by_cases e : x.dx = 0
  · exact .inr ⟨by simpa using e, by simpa [e] using h3⟩
  · exact .inl (by simpa using e)
set_option maxRecDepth 100000 in
set_option maxHeartbeats 4000000 in
theorem pieceError_any (ps : List PieceD) (v : Value) (k : Nat) (x : PieceD) (w : World) (hv : IsSl PieceAt 4 w v ps) (hx : ps[k]? = some x) (hf : LettersFit ps) (hl : ps.length ≤ 6) :
    Calls Tryz.prog 52 #[v, .int .i64 (k : Int)] w (BelPost (.int .i64 (pieceE x (ps.take k) ps.length)) w) := by
  obtain ⟨n, hn⟩ : ∃ n : Nat, n = ps.length := ⟨_, rfl⟩
  have hkn : k < n := by rw [hn]; exact (List.getElem?_eq_some_iff.1 hx).1
  obtain ⟨a, cp, rfl, hcp, hcell⟩ := hv.shape hn
  obtain ⟨g, off, x', rfl, hx', hq⟩ := hcell k hkn
  obtain rfl : x = x' := Option.some.inj (hx.symm.trans hx')
  obtain ⟨u, c0, c1, c2, c3, hu⟩ := hq
  obtain ⟨m, hm⟩ : ∃ m : Nat, m = x.ways.length := ⟨_, rfl⟩
  obtain ⟨au, cu, rfl, _, hways⟩ := hu.shape hm
  obtain ⟨hl0, hl1⟩ := hf x (List.mem_of_getElem? hx)
  have hfit := hu.fit
  rw [← hm] at hfit
  rw [← hn] at hl ⊢
  have HC : Hid _ := Lib.hid hcell
  have HWY : Hid _ := Lib.hid hways
  have HM : Hid _ := Lib.hid hm
  have HX : Hid _ := Lib.hid hx
  have HN : Hid _ := Lib.hid hn
  have HB0 : Hid (Below w.heap.size w (w.alloc (.cells #[.int .u8 x.letter, .int .i64 x.hand, .int .i64 x.promote, .slice au m cu] 84))) := Lib.hid ((Below.refl _ _).alloc (Nat.le_refl _) _)
  have HX0 : Hid (BoxPc (w.alloc (.cells #[.int .u8 x.letter, .int .i64 x.hand, .int .i64 x.promote, .slice au m cu] 84)) w.heap.size x (.slice au m cu)) := Lib.hid (cells4_new w _ _ _ _ _ _ (Below.refl _ _))
  clear hcell hways hm hx hx' hn hv hu hf
  go_enter Tryz.func52, Tryz.ntmps52
  go_wp2_with fail
  go_at_call 51; refine (turned (in_any _ _ _ _)).mono ?_; rintro e w' ⟨rfl, rfl⟩
  cases h1 : inB x.letter 65 90
  · have K : Hid ((6 : Int) = pieceE x (ps.take k) n) := Lib.hid (by simp [pieceE, capB, h1])
    clear h1
    go_wp2_with fail
    go_ret
    exact ⟨ret_i64 K.out, HB0.out⟩
  · have K1 : Hid (capB x.letter = true) := Lib.hid h1
    clear h1 c0 c1 c2 c3
    go_wp2_with fail
    go_loopw [6, 19] (fun _ i wr => ∃ j : Nat, j ≤ k ∧ i = .int .i64 (j : Int) ∧ Hid ((ps.take j).any (fun y => decide (y.letter = x.letter)) = false) ∧ Hid (BoxPc wr w.heap.size x (.slice au m cu)) ∧ Hid (Below w.heap.size w wr)) (fun _ i _ => k - (intOf i).toNat)
    case atStart => exact ⟨0, by omega, rfl, Lib.hid rfl, HX0, HB0⟩
    case round =>
      clear HX0 HB0
      obtain ⟨j, hj, rfl, hany, hbx, hbel⟩ := hrel
      by_cases hlt : j < k
      · obtain ⟨g', off', y, hg, hy, hq⟩ := HC.out j (by omega)
        simp only [Option.some.injEq, Addr.mk.injEq] at hg
        obtain ⟨rfl, rfl, _⟩ := hg
        obtain ⟨u, c0, _, _, _, _⟩ := piece_keeps _ _ _ _ _ _ hbel.out (Nat.le_refl _) hq
        obtain ⟨b0, _, _, _⟩ := hbx.out
        have HY : Hid _ := Lib.hid hy
        clear hq hy HC
        by_cases hsame : y.letter = x.letter
        · have K : Hid ((7 : Int) = pieceE x (ps.take k) n) := Lib.hid (by
            have : (ps.take k).any (fun y => decide (y.letter = x.letter)) = true := List.any_eq_true.2 ⟨y, List.mem_of_getElem? (i := j) (by rw [List.getElem?_take, if_pos hlt]; exact HY.out), by simpa using hsame⟩
            simp [pieceE, K1.out, this])
          rw [hsame] at c0
          clear hsame
          go_wp2_with fail
          go_quiet (fail)
          go_wp2_with fail
          go_ret
          exact ⟨ret_i64 K.out, below_drewN hbel.out _⟩
        · have K : Hid ((ps.take (j + 1)).any (fun y => decide (y.letter = x.letter)) = false) := Lib.hid (any_step HY.out hany.out (by simpa using hsame))
          have hne : (y.letter == x.letter) = false := by simpa using hsame
          clear hsame
          go_wp2_with fail
          go_quiet (fail)
          go_wp2_with fail
          go_roundw
          case rel => exact ⟨j + 1, by omega, by go_num, K, Lib.hid (hbx.out.below (below_drewN (Below.refl wr.heap.size wr) _) (Nat.le_refl _)), Lib.hid (below_drewN hbel.out _)⟩
          case measure => simp [intOf]; omega
      · obtain rfl : k = j := by omega
        have K2 : Hid _ := Lib.hid hany.out
        obtain ⟨b0, b1, b2, b3⟩ := hbx.out
        clear HC hany
        go_wp2_with fail
        go_at_call 51; refine (turned (in_any _ _ _ _)).mono ?_; rintro e w' ⟨rfl, rfl⟩
        cases h3 : (inB x.hand 0 64 && inB x.promote 0 n)
        · have K : Hid ((4 : Int) = pieceE x (ps.take k) n) := Lib.hid (by simp only [pieceE, K1.out, K2.out, h3]; rfl)
          cases h4 : inB x.hand 0 64
          · clear h3 h4
            go_wp2_with fail
            go_ret
            exact ⟨ret_i64 K.out, hbel.out⟩
          · have K5 : Hid (inB x.promote 0 n = false) := Lib.hid (by rw [h4] at h3; simpa using h3)
            clear h3 h4
            go_wp2_with fail
            go_at_call 51; refine (turned (in_any _ _ _ _)).mono ?_; rintro e w' ⟨rfl, rfl⟩
            rw [K5.out]
            go_wp2_with fail
            go_ret
            exact ⟨ret_i64 K.out, hbel.out⟩
        · have K3 : Hid _ := Lib.hid h3
          rw [Bool.and_eq_true] at h3
          have K4 : Hid _ := Lib.hid h3
          clear h3
          rw [K4.out.1]
          go_wp2_with fail
          go_at_call 51; refine (turned (in_any _ _ _ _)).mono ?_; rintro e w' ⟨rfl, rfl⟩
          rw [K4.out.2]
          by_cases h5 : 16 < m
          · have K : Hid ((2 : Int) = pieceE x (ps.take k) n) := Lib.hid (by simp [pieceE, K1.out, K2.out, K3.out, ← HM.out, h5])
            go_wp2_with fail
            go_ret
            exact ⟨ret_i64 K.out, hbel.out⟩
          · have K6 : Hid (pieceE x (ps.take k) n = if x.ways.all wayB = false then 4 else 0) := Lib.hid (by rw [pieceE, K1.out, K2.out, K3.out, ← HM.out, if_neg h5]; rfl)
            clear K1 K2 K3 K4
            go_wp2_with fail
            obtain ⟨wo, rfl⟩ : ∃ wo : World, wo = wr := ⟨_, rfl⟩
            go_loopw [8, 50] (fun _ i w9 => ∃ q : Nat, q ≤ m ∧ i = .int .i64 (q : Int) ∧ Hid ((x.ways.take q).all wayB = true) ∧ Hid (Below w.heap.size w w9)) (fun _ i _ => m - (intOf i).toNat)
            case atStart => exact ⟨0, by omega, rfl, Lib.hid rfl, hbel⟩
            case round =>
              clear b0 b1 b2 b3 hbel hbx
              obtain ⟨q, hq, rfl, hall, hbel⟩ := hrel
              by_cases hlt : q < m
              · obtain ⟨g2, off2, y, rfl, hy, hqq⟩ := HWY.out q hlt
                obtain ⟨c0, c1, c2, c3⟩ := way_keeps _ _ _ _ _ _ hbel.out (Nat.le_refl _) hqq
                have HY : Hid _ := Lib.hid hy
                clear hqq hy HWY
                cases hb : wayB y
                · have K : Hid ((4 : Int) = pieceE x (ps.take k) n) := Lib.hid (by rw [K6.out, if_pos (all_no HY.out hb)])
                  have KB : Hid _ := Lib.hid hb
                  clear hb
                  go_wp2_with (go_at_call 51; refine (turned (in_any _ _ _ _)).mono ?_; rintro e w' ⟨rfl, rfl⟩)
                  all_goals first
                    | (go_ret; exact ⟨ret_i64 K.out, hbel.out.alloc hbel.out.size _⟩)
                    | (exfalso; have := KB.out; simp_all [wayB]; done)
                · have K : Hid ((x.ways.take (q + 1)).all wayB = true) := Lib.hid (all_step HY.out hall.out hb)
                  have HB : Hid (Below w.heap.size w (wr.alloc (.cells #[.int .i64 y.dx, .int .i64 y.dy, .int .i64 y.most, .int .i64 y.take] 93))) := Lib.hid (hbel.out.alloc hbel.out.size _)
                  obtain ⟨p1, p2, p3, p4, p5⟩ := wayB_parts hb
                  clear hb
                  rcases p3 with p3 | ⟨p3, p6⟩
                  all_goals
                    go_wp2_with (go_at_call 51; refine (turned (in_any _ _ _ _)).mono ?_; rintro e w' ⟨rfl, rfl⟩)
                    go_roundw
                    case rel => exact ⟨q + 1, by omega, by go_num, K, HB⟩
                    case measure => simp [intOf]; omega
              · have K : Hid ((0 : Int) = pieceE x (ps.take k) n) := Lib.hid (by
                  have h := hall.out
                  rw [List.take_of_length_le (by have := HM.out; omega)] at h
                  rw [K6.out, h]; rfl)
                go_wp2_with fail
                go_ret
                exact ⟨ret_i64 K.out, hbel.out⟩
end Go.Proofs.YtkficjpnflnjhaaGreatDoor

set_option maxRecDepth 100000
namespace Go.Proofs.YtkficjpnflnjhaaGreatDoor
open Go.ChangeShapes Go.WideShapes Go.ChangeAt Go.RowKit

theorem endE_line2 {x : EndD} (n : Nat) (h : x.kind = 0) : endE x n = if inB x.count 1 64 && (x.piece == 0) then 0 else 4 := by
  obtain ⟨kd, pc, ct, ls⟩ := x
  obtain rfl : kd = 0 := h
  rw [endE_line]; rfl
theorem endE_reach2 {x : EndD} (n : Nat) (h : x.kind = 1) : endE x n = if (x.count == 0) && inB x.piece 0 ((n : Int) - 1) then 0 else 4 := by
  obtain ⟨kd, pc, ct, ls⟩ := x
  obtain rfl : kd = 1 := h
  rw [endE_reach]; rfl
theorem endE_take2 {x : EndD} (n : Nat) (h : x.kind = 2) : endE x n = if inB x.count 1 64 && inB x.piece 0 ((n : Int) - 1) then 0 else 4 := by
  obtain ⟨kd, pc, ct, ls⟩ := x
  obtain rfl : kd = 2 := h
  rw [endE_take]
theorem endE_none2 {x : EndD} (n : Nat) (h : inB x.kind 0 2 = false) : endE x n = 1 := by simp [endE, h]
theorem start_go {r : RulesD} {n : Nat} (hn : n = r.pieces.length) (h : (r.start.length : Int) = r.width * r.height) : startE r = if r.start.all (fun c => inB c 0 (2 * (n : Int))) then 0 else 4 := by
  rw [startE, if_neg (by simpa using h), hn]
set_option maxRecDepth 100000 in
set_option maxHeartbeats 8000000 in
theorem rulesError_any (r : RulesD) (vp vs ve : Value) (w : World) (hr : RulesIn w r vp vs ve) (hf : LettersFit r.pieces) :
    Calls Tryz.prog 25 #[RulesV r vp vs ve] w (BelPost (.int .i64 (rulesE r)) w) := by
  obtain ⟨n, hnn⟩ : ∃ n : Nat, n = r.pieces.length := ⟨_, rfl⟩
  obtain ⟨l, hll⟩ : ∃ l : Nat, l = r.start.length := ⟨_, rfl⟩
  obtain ⟨m, hm⟩ : ∃ m : Nat, m = r.ends.length := ⟨_, rfl⟩
  have hf1 := hr.1.1.fit
  have hf2 := hr.1.2.1.fit
  have hf3 := hr.1.2.2.fit
  obtain ⟨ap, cp, rfl, _, _⟩ := hr.1.1.shape hnn
  obtain ⟨sa, cs, rfl, _, hsc⟩ := hr.1.2.1.shape hll
  obtain ⟨ea, ce, rfl, _, hec⟩ := hr.1.2.2.shape hm
  have HR : Hid _ := Lib.hid hr.1
  have HNM : Hid _ := Lib.hid hr.2
  have HF : Hid _ := Lib.hid hf
  have HSC : Hid _ := Lib.hid hsc
  have HEC : Hid _ := Lib.hid hec
  have HNN : Hid _ := Lib.hid hnn
  have HLL : Hid _ := Lib.hid hll
  have HMM : Hid _ := Lib.hid hm
  rw [← hnn] at hf1
  rw [← hll] at hf2
  rw [← hm] at hf3
  have HBX : Hid _ := Lib.hid (boxR_new w r (.slice ap n cp) (.slice sa l cs) (.slice ea m ce) 26)
  have HB0 : Hid (Below w.heap.size w (w.alloc (.cells #[.string r.name, .int .i64 r.width, .int .i64 r.height, .slice ap n cp, .slice sa l cs, .bool r.falls, .bool r.keeps, .slice ea m ce, .int .i64 r.blocked, .int .i64 r.quiet, .int .i64 r.rep] 26))) := Lib.hid ((Below.refl _ _).alloc (Nat.le_refl _) _)
  unfold RulesCells at HBX
  unfold RulesV
  clear hr hnn hll hm hsc hec hf
  go_enter Tryz.func25, Tryz.ntmps25
  go_wp2_with fail
  go_at_call 50; refine (named_any r.name _ HNM.out).mono ?_; rintro e w' ⟨rfl, rfl⟩
  cases h1 : nameB r.name.data.toList
  · have K : Hid ((6 : Int) = rulesE r) := Lib.hid (by simp [rulesE, h1])
    clear h1
    go_wp2_with fail
    go_ret
    exact ⟨ret_i64 K.out, HB0.out⟩
  have K1 : Hid _ := Lib.hid h1
  clear h1
  go_wp2_with fail
  go_at_call 51; refine (turned (in_any _ _ _ _)).mono ?_; rintro e w' ⟨rfl, rfl⟩
  cases h2 : inB r.width 1 8
  · have K : Hid ((4 : Int) = rulesE r) := Lib.hid (by simp [rulesE, K1.out, h2])
    clear h2
    go_wp2_with fail
    go_ret
    exact ⟨ret_i64 K.out, HB0.out⟩
  have K2 : Hid _ := Lib.hid h2
  clear h2
  go_wp2_with fail
  go_at_call 51; refine (turned (in_any _ _ _ _)).mono ?_; rintro e w' ⟨rfl, rfl⟩
  cases h3 : inB r.height 1 8
  · have K : Hid ((4 : Int) = rulesE r) := Lib.hid (by simp [rulesE, K1.out, h3])
    clear h3
    go_wp2_with fail
    go_ret
    exact ⟨ret_i64 K.out, HB0.out⟩
  have K3 : Hid _ := Lib.hid h3
  clear h3
  have K4 : Hid (rulesE r = if piecesE r.pieces ≠ 0 then piecesE r.pieces else if startE r ≠ 0 then startE r else if endsE r ≠ 0 then endsE r else otherE r) := Lib.hid (by rw [rulesE, K1.out, K2.out, K3.out]; rfl)
  obtain ⟨A, hA⟩ : ∃ A : Int, A = r.width * r.height := ⟨_, rfl⟩
  obtain ⟨hw1, hw2⟩ := inB_iff.1 K2.out
  obtain ⟨hh1, hh2⟩ := inB_iff.1 K3.out
  have hA1 : 1 ≤ A := by rw [hA]; have := Int.mul_le_mul hw1 hh1 (by omega) (by omega); simpa using this
  have hA2 : A ≤ 64 := by rw [hA]; have := Int.mul_le_mul hw2 hh2 (by omega) (by omega); simpa using this
  have HA : Hid _ := Lib.hid hA
  clear K1 K2 K3 hA
  by_cases h0 : n = 0
  · have K : Hid ((8 : Int) = rulesE r) := Lib.hid (by
      have : piecesE r.pieces = 8 := by rw [piecesE, ← HNN.out, if_pos h0]
      rw [K4.out, this]; rfl)
    subst h0
    go_wp2_with fail
    go_ret
    exact ⟨ret_i64 K.out, HB0.out⟩
  have hne : ((n : Int) == 0) = false := by simp; omega
  by_cases h6 : 6 < n
  · have K : Hid ((2 : Int) = rulesE r) := Lib.hid (by
      have : piecesE r.pieces = 2 := by rw [piecesE, ← HNN.out, if_neg h0, if_pos h6]
      rw [K4.out, this]; rfl)
    clear h0
    go_wp2_with fail
    go_ret
    exact ⟨ret_i64 K.out, HB0.out⟩
  have KP : Hid (piecesE r.pieces = piecesGo r.pieces 0 n) := Lib.hid (by simp [piecesE, ← HNN.out, h0, h6])
  clear h0
  go_wp2_with fail
  go_loopw [4, 5, 36] (fun _ _ i wr => ∃ k : Nat, k ≤ n ∧ i = .int .i64 (k : Int) ∧ Hid (piecesE r.pieces = piecesGo r.pieces k (n - k)) ∧ Hid (BoxR wr w.heap.size r (.slice ap n cp) (.slice sa l cs) (.slice ea m ce)) ∧ Hid (Below w.heap.size w wr)) (fun _ _ i _ => n - (intOf i).toNat)
  case atStart => exact ⟨0, by omega, rfl, KP, HBX, HB0⟩
  case round =>
    clear KP HBX HB0
    obtain ⟨k, hk, rfl, hgo, hbx, hbel⟩ := hrel
    by_cases hlt : k < n
    · obtain ⟨x, hx⟩ : ∃ x, r.pieces[k]? = some x := ⟨_, List.getElem?_eq_getElem (by have := HNN.out; omega)⟩
      have HX : Hid _ := Lib.hid hx
      have b3 := hbx.out.2.2.2.1
      clear hx
      go_wp2_with fail
      go_at_call 52; refine (pieceError_any r.pieces _ k x _ (HR.out.below hbel.out (Nat.le_refl _)).1 HX.out HF.out (by have := HNN.out; omega)).mono ?_; rintro e w2 ⟨rfl, hb2⟩
      rw [← HNN.out]
      have HB : Hid (Below w.heap.size w w2) := Lib.hid (hbel.out.trans (hb2.mono hbel.out.size))
      have HBX : Hid _ := Lib.hid (hbx.out.below hb2 (Nat.le_refl _))
      clear hb2 b3 hbel hbx
      by_cases hz : pieceE x (r.pieces.take k) n = 0
      · have KG : Hid (piecesE r.pieces = piecesGo r.pieces (k + 1) (n - (k + 1))) := Lib.hid (by
          rw [hgo.out, show n - k = (n - (k + 1)) + 1 by omega, piecesGo_step HX.out (by rw [← HNN.out]; exact hz)])
        rw [hz]
        clear hz
        go_wp2_with fail
        go_roundw
        case rel => exact ⟨k + 1, by omega, by go_num, KG, HBX, HB⟩
        case measure => simp [intOf]; omega
      · have KG : Hid (pieceE x (r.pieces.take k) n = rulesE r) := Lib.hid (by
          have : piecesE r.pieces = pieceE x (r.pieces.take k) n := by rw [hgo.out, show n - k = (n - (k + 1)) + 1 by omega, piecesGo_stop HX.out (by rw [← HNN.out]; exact hz), ← HNN.out]
          rw [K4.out, this, if_pos hz])
        obtain ⟨c, hc⟩ : ∃ c : Int, c = pieceE x (r.pieces.take k) n := ⟨_, rfl⟩
        rw [← hc] at hz KG ⊢
        have hne2 : (c != 0) = true := by simpa using hz
        clear hz hc
        go_wp2_with fail
        go_ret
        exact ⟨ret_i64 KG.out, HB.out⟩
    have K5 : Hid (rulesE r = if startE r ≠ 0 then startE r else if endsE r ≠ 0 then endsE r else otherE r) := Lib.hid (by
      have : piecesE r.pieces = 0 := by rw [hgo.out, show n - k = 0 by omega]; rfl
      rw [K4.out, if_neg (by simpa using this)])
    obtain ⟨b0, b1, b2, b3, b4, b5, b6, b7, b8, b9, b10⟩ := hbx.out
    have hmul : r.width * r.height = A := HA.out.symm
    clear K4 hgo
    by_cases hla : (l : Int) = A
    · have hne3 : ((l : Int) != A) = false := by simpa using hla
      have KS : Hid (startE r = if r.start.all (fun c => inB c 0 (2 * (n : Int))) then 0 else 4) := Lib.hid (start_go HNN.out (by rw [← HLL.out, hla, HA.out]))
      clear hla
      go_wp2_with fail
      obtain ⟨wo, rfl⟩ : ∃ wo : World, wo = wr := ⟨_, rfl⟩
      go_loopw [7, 59] (fun _ i wr => ∃ q : Nat, q ≤ l ∧ i = .int .i64 (q : Int) ∧ Hid ((r.start.take q).all (fun c => inB c 0 (2 * (n : Int))) = true) ∧ wr = wo) (fun _ i _ => l - (intOf i).toNat)
      case atStart => exact ⟨0, by omega, rfl, Lib.hid rfl, rfl⟩
      case round =>
        obtain ⟨q, hq, rfl, hall, rfl⟩ := hrel
        by_cases hlt2 : q < l
        · obtain ⟨g, off, x, rfl, hx, hqq⟩ := HSC.out q hlt2
          have c0 : wr.cell? ⟨g, off + q, none⟩ = some (.int .i64 x) := by
            have h := int_keeps _ _ _ _ _ _ hbel.out (Nat.le_refl _) hqq
            rw [Nat.mul_one] at h; exact h
          have HX : Hid _ := Lib.hid hx
          clear hqq hx HSC
          go_wp2_with fail
          go_at_call 51; refine (turned (in_any _ _ _ _)).mono ?_; rintro e w' ⟨rfl, rfl⟩
          cases hb : inB x 0 (2 * (n : Int))
          · have K : Hid ((4 : Int) = rulesE r) := Lib.hid (by
              have : startE r = 4 := by rw [KS.out, all_no HX.out hb]; rfl
              rw [K5.out, this]; rfl)
            clear hb
            go_wp2_with fail
            go_ret
            exact ⟨ret_i64 K.out, hbel.out⟩
          · have K : Hid ((r.start.take (q + 1)).all (fun c => inB c 0 (2 * (n : Int))) = true) := Lib.hid (all_step HX.out hall.out hb)
            clear hb
            go_wp2_with fail
            go_roundw
            case rel => exact ⟨q + 1, by omega, by go_num, K, trivial⟩
            case measure => simp [intOf]; omega
        have K6 : Hid (rulesE r = if endsE r ≠ 0 then endsE r else otherE r) := Lib.hid (by
          have h := hall.out
          rw [List.take_of_length_le (by have := HLL.out; omega)] at h
          have : startE r = 0 := by rw [KS.out, h]; rfl
          rw [K5.out, if_neg (by simpa using this)])
        clear K5 KS hall
        by_cases hm6 : 6 < m
        · have K : Hid ((2 : Int) = rulesE r) := Lib.hid (by
            have : endsE r = 2 := by rw [endsE, ← HMM.out, if_pos hm6]
            rw [K6.out, this]; rfl)
          go_wp2_with fail
          go_ret
          exact ⟨ret_i64 K.out, hbel.out⟩
        have KE : Hid (endsE r = endsGo (r.ends.drop 0) n) := Lib.hid (by rw [endsE, ← HMM.out, if_neg hm6, ← HNN.out]; rfl)
        go_wp2_with fail
        obtain ⟨wo2, rfl⟩ : ∃ wo2 : World, wo2 = wr := ⟨_, rfl⟩
        go_loopw [9, 10, 11, 76] (fun _ _ _ i w9 => ∃ q : Nat, q ≤ m ∧ i = .int .i64 (q : Int) ∧ Hid (endsE r = endsGo (r.ends.drop q) n) ∧ Hid (BoxR w9 w.heap.size r (.slice ap n cp) (.slice sa l cs) (.slice ea m ce)) ∧ Hid (Below w.heap.size w w9)) (fun _ _ _ i _ => m - (intOf i).toNat)
        case atStart => exact ⟨0, by omega, rfl, KE, hbx, hbel⟩
        case round =>
          clear b0 b1 b2 b3 b4 b5 b6 b7 b8 b9 b10 KE
          obtain ⟨q, hq, rfl, hgo3, hbx3, hbel3⟩ := hrel
          by_cases hlt3 : q < m
          · obtain ⟨g, off, x, rfl, hx, hqq⟩ := HEC.out q hlt3
            obtain ⟨c0, c1, c2, c3⟩ := end_keeps _ _ _ _ _ _ hbel3.out (Nat.le_refl _) hqq
            have HX : Hid _ := Lib.hid hx
            clear hqq hx HEC
            have hkd : x.kind = 0 ∨ x.kind = 1 ∨ x.kind = 2 ∨ inB x.kind 0 2 = false := by
              cases h : inB x.kind 0 2
              · simp
              · rw [inB_iff] at h; omega
            rcases hkd with hkd | hkd | hkd | hkd
            · have KE : Hid _ := Lib.hid (endE_line2 n hkd)
              have KI : Hid (inB 0 0 2 = true) := Lib.hid (by decide)
              rw [hkd] at c0
              clear hkd
              cases hb : (inB x.count 1 64 && (x.piece == 0))
              · have K : Hid ((4 : Int) = rulesE r) := Lib.hid (by
                  have h1 : endE x n = 4 := by rw [KE.out, hb]; rfl
                  have : endsE r = 4 := by rw [hgo3.out, endsGo_step HX.out, h1]; rfl
                  rw [K6.out, this]; rfl)
                have KB : Hid _ := Lib.hid hb
                clear hb
                go_wp2_with fail
                go_at_call 51; refine (turned (in_any _ _ _ _)).mono ?_; rintro e w' ⟨rfl, rfl⟩
                rw [KI.out]
                go_wp2_with fail
                have hs1 : IntKind.i64.wrap ((n : Int) - 1) = (n : Int) - 1 := IntWalk.i64_in _ (by omega)
                go_quiet ((go_at_call 51; exact Calls.quiet_of_same (in_any _ _ _ _)))
                clear hs1
                go_wp2_with fail
                all_goals first
                  | (go_ret; exact ⟨ret_i64 K.out, below_drewN (hbel3.out.alloc hbel3.out.size _) _⟩)
                  | (exfalso; have := KB.out; simp_all; done)
              · have KG : Hid (endsE r = endsGo (r.ends.drop (q + 1)) n) := Lib.hid (by
                  have h1 : endE x n = 0 := by rw [KE.out, hb]; rfl
                  rw [hgo3.out, endsGo_step HX.out, if_pos h1])
                rw [Bool.and_eq_true] at hb
                obtain ⟨p1, p2⟩ := hb
                go_wp2_with fail
                go_at_call 51; refine (turned (in_any _ _ _ _)).mono ?_; rintro e w' ⟨rfl, rfl⟩
                rw [KI.out]
                go_wp2_with fail
                have hs1 : IntKind.i64.wrap ((n : Int) - 1) = (n : Int) - 1 := IntWalk.i64_in _ (by omega)
                go_quiet ((go_at_call 51; exact Calls.quiet_of_same (in_any _ _ _ _)))
                clear hs1
                go_wp2_with fail
                have hb9 := below_drewN ((Below.refl wr.heap.size wr).alloc (Nat.le_refl _) (.cells #[.int .i64 0, .int .i64 x.piece, .int .i64 x.count, .bool x.loses] 79)) nq
                have HB9 : Hid _ := Lib.hid hb9
                clear hb9
                go_roundw
                case rel => exact ⟨q + 1, by omega, by go_num, KG, Lib.hid (hbx3.out.below HB9.out (Nat.le_refl _)), Lib.hid (hbel3.out.trans (HB9.out.mono hbel3.out.size))⟩
                case measure => simp [intOf]; omega
            · have KE : Hid _ := Lib.hid (endE_reach2 n hkd)
              have KI : Hid (inB 1 0 2 = true) := Lib.hid (by decide)
              rw [hkd] at c0
              clear hkd
              cases hb : ((x.count == 0) && inB x.piece 0 ((n : Int) - 1))
              · have K : Hid ((4 : Int) = rulesE r) := Lib.hid (by
                  have h1 : endE x n = 4 := by rw [KE.out, hb]; rfl
                  have : endsE r = 4 := by rw [hgo3.out, endsGo_step HX.out, h1]; rfl
                  rw [K6.out, this]; rfl)
                have KB : Hid _ := Lib.hid hb
                clear hb
                go_wp2_with fail
                go_at_call 51; refine (turned (in_any _ _ _ _)).mono ?_; rintro e w' ⟨rfl, rfl⟩
                rw [KI.out]
                go_wp2_with fail
                have hs1 : IntKind.i64.wrap ((n : Int) - 1) = (n : Int) - 1 := IntWalk.i64_in _ (by omega)
                go_quiet ((go_at_call 51; exact Calls.quiet_of_same (in_any _ _ _ _)))
                clear hs1
                go_wp2_with fail
                all_goals first
                  | (go_ret; exact ⟨ret_i64 K.out, below_drewN (hbel3.out.alloc hbel3.out.size _) _⟩)
                  | (exfalso; have := KB.out; simp_all; done)
              · have KG : Hid (endsE r = endsGo (r.ends.drop (q + 1)) n) := Lib.hid (by
                  have h1 : endE x n = 0 := by rw [KE.out, hb]; rfl
                  rw [hgo3.out, endsGo_step HX.out, if_pos h1])
                rw [Bool.and_eq_true] at hb
                obtain ⟨p1, p2⟩ := hb
                go_wp2_with fail
                go_at_call 51; refine (turned (in_any _ _ _ _)).mono ?_; rintro e w' ⟨rfl, rfl⟩
                rw [KI.out]
                go_wp2_with fail
                have hs1 : IntKind.i64.wrap ((n : Int) - 1) = (n : Int) - 1 := IntWalk.i64_in _ (by omega)
                go_quiet ((go_at_call 51; exact Calls.quiet_of_same (in_any _ _ _ _)))
                clear hs1
                go_wp2_with fail
                have hb9 := below_drewN ((Below.refl wr.heap.size wr).alloc (Nat.le_refl _) (.cells #[.int .i64 1, .int .i64 x.piece, .int .i64 x.count, .bool x.loses] 79)) nq
                have HB9 : Hid _ := Lib.hid hb9
                clear hb9
                go_roundw
                case rel => exact ⟨q + 1, by omega, by go_num, KG, Lib.hid (hbx3.out.below HB9.out (Nat.le_refl _)), Lib.hid (hbel3.out.trans (HB9.out.mono hbel3.out.size))⟩
                case measure => simp [intOf]; omega
            · have KE : Hid _ := Lib.hid (endE_take2 n hkd)
              have KI : Hid (inB 2 0 2 = true) := Lib.hid (by decide)
              rw [hkd] at c0
              clear hkd
              cases hb : (inB x.count 1 64 && inB x.piece 0 ((n : Int) - 1))
              · have K : Hid ((4 : Int) = rulesE r) := Lib.hid (by
                  have h1 : endE x n = 4 := by rw [KE.out, hb]; rfl
                  have : endsE r = 4 := by rw [hgo3.out, endsGo_step HX.out, h1]; rfl
                  rw [K6.out, this]; rfl)
                have KB : Hid _ := Lib.hid hb
                clear hb
                go_wp2_with fail
                go_at_call 51; refine (turned (in_any _ _ _ _)).mono ?_; rintro e w' ⟨rfl, rfl⟩
                rw [KI.out]
                go_wp2_with fail
                have hs1 : IntKind.i64.wrap ((n : Int) - 1) = (n : Int) - 1 := IntWalk.i64_in _ (by omega)
                go_quiet ((go_at_call 51; exact Calls.quiet_of_same (in_any _ _ _ _)))
                clear hs1
                go_wp2_with fail
                all_goals first
                  | (go_ret; exact ⟨ret_i64 K.out, below_drewN (hbel3.out.alloc hbel3.out.size _) _⟩)
                  | (exfalso; have := KB.out; simp_all; done)
              · have KG : Hid (endsE r = endsGo (r.ends.drop (q + 1)) n) := Lib.hid (by
                  have h1 : endE x n = 0 := by rw [KE.out, hb]; rfl
                  rw [hgo3.out, endsGo_step HX.out, if_pos h1])
                rw [Bool.and_eq_true] at hb
                obtain ⟨p1, p2⟩ := hb
                go_wp2_with fail
                go_at_call 51; refine (turned (in_any _ _ _ _)).mono ?_; rintro e w' ⟨rfl, rfl⟩
                rw [KI.out]
                go_wp2_with fail
                have hs1 : IntKind.i64.wrap ((n : Int) - 1) = (n : Int) - 1 := IntWalk.i64_in _ (by omega)
                go_quiet ((go_at_call 51; exact Calls.quiet_of_same (in_any _ _ _ _)))
                clear hs1
                go_wp2_with fail
                have hb9 := below_drewN ((Below.refl wr.heap.size wr).alloc (Nat.le_refl _) (.cells #[.int .i64 2, .int .i64 x.piece, .int .i64 x.count, .bool x.loses] 79)) nq
                have HB9 : Hid _ := Lib.hid hb9
                clear hb9
                go_roundw
                case rel => exact ⟨q + 1, by omega, by go_num, KG, Lib.hid (hbx3.out.below HB9.out (Nat.le_refl _)), Lib.hid (hbel3.out.trans (HB9.out.mono hbel3.out.size))⟩
                case measure => simp [intOf]; omega
            · have K : Hid ((1 : Int) = rulesE r) := Lib.hid (by
                have h1 : endE x n = 1 := endE_none2 n hkd
                have : endsE r = 1 := by rw [hgo3.out, endsGo_step HX.out, h1]; rfl
                rw [K6.out, this]; rfl)
              have KI : Hid _ := Lib.hid hkd
              clear hkd
              go_wp2_with fail
              go_at_call 51; refine (turned (in_any _ _ _ _)).mono ?_; rintro e w' ⟨rfl, rfl⟩
              rw [KI.out]
              go_wp2_with fail
              go_ret
              exact ⟨ret_i64 K.out, hbel3.out.alloc hbel3.out.size _⟩
          have K7 : Hid (rulesE r = otherE r) := Lib.hid (by
            have : endsE r = 0 := by rw [hgo3.out, List.drop_eq_nil_of_le (by have := HMM.out; omega)]; rfl
            rw [K6.out, if_neg (by simpa using this)])
          obtain ⟨b0, b1, b2, b3, b4, b5, b6, b7, b8, b9, b10⟩ := hbx3.out
          clear K6 hgo3
          have KO : Hid (otherE r = if inB r.blocked 0 2 && (inB r.quiet 0 200 && ((r.rep == 0) || inB r.rep 2 5)) then 0 else 4) := Lib.hid rfl
          by_cases h0 : r.rep = 0
          · rw [h0] at b10 KO
            clear h0
            go_wp2_with (go_at_call 51; refine (turned (in_any _ _ _ _)).mono ?_; rintro e w' ⟨rfl, rfl⟩)
            all_goals
              go_ret
              exact ⟨ret_i64 (by rw [K7.out, KO.out]; simp_all), hbel3.out⟩
          · have hne9 : (r.rep == 0) = false := by simpa using h0
            have hne8 : (r.rep != 0) = true := by simpa using h0
            clear h0
            go_wp2_with (go_at_call 51; refine (turned (in_any _ _ _ _)).mono ?_; rintro e w' ⟨rfl, rfl⟩)
            all_goals
              go_ret
              exact ⟨ret_i64 (by rw [K7.out, KO.out]; simp_all), hbel3.out⟩
    · have hne3 : ((l : Int) != A) = true := by simpa using hla
      have K : Hid ((3 : Int) = rulesE r) := Lib.hid (by
        have : startE r = 3 := by rw [startE, if_pos (by rw [← HLL.out, ← HA.out]; exact hla)]
        rw [K5.out, this]; rfl)
      clear hla
      go_wp2_with fail
      go_ret
      exact ⟨ret_i64 K.out, hbel.out⟩
end Go.Proofs.YtkficjpnflnjhaaGreatDoor

set_option maxRecDepth 100000
namespace Go.Proofs.YtkficjpnflnjhaaGreatDoor
open Go.ChangeShapes Go.WideShapes Go.ChangeAt Go.RowKit

theorem all_take {p : Int → Bool} {l : List Int} {k : Nat} {x : Int} (h : l[k]? = some x) : (l.take (k + 1)).all p = ((l.take k).all p && p x) := by
  rw [List.take_add_one, h]; simp
/-! ### The numbers -/
theorem idx_two0 (a b : Option Addr) (n c m d : Nat) : ∀ w, Sem.run Tryz.prog (Instr.index 36 (.agg #[.slice a n c, .slice b m d]) (.int .i64 0)) w = .ok (.slice a n c) w := fun _ => by kernel_rfl
theorem idx_two1 (a b : Option Addr) (n c m d : Nat) : ∀ w, Sem.run Tryz.prog (Instr.index 36 (.agg #[.slice a n c, .slice b m d]) (.int .i64 1)) w = .ok (.slice b m d) w := fun _ => by kernel_rfl

end Go.Proofs.YtkficjpnflnjhaaGreatDoor
