/- Merged by merge.py of the texts Named RefPiece RefRules RefPErr. -/
import Derived.Test.YtdhhdkbnlddnbaaGreatDoorRulA
import Derived.IntWalk
import Derived.Test.YtdhhdkbnlddnbaaGreatDoorPlcA
namespace Go.Proofs.YtdhhdkbnlddnbaaGreatDoor
open Go.ChangeShapes Go.WideShapes Go.ChangeAt Go.RowKit

theorem dig_cap {x : Int} (h : digB x = true) : capB x = false := by
  rw [digB, inB_iff] at h; rw [capB, inB_no]; omega
theorem wrap_byte (b : UInt8) : wrap64 ((b.toNat : Nat) : Int) = ((b.toNat : Nat) : Int) := by
  have := b.toNat_lt
  unfold wrap64; omega
set_option maxHeartbeats 2000000 in
theorem named_any (s : ByteArray) (w : World) (hs : s.size ≤ maxLen) :
    Calls Tryz.prog 83 #[.string s] w fun e w' => e = .returned (.bool (nameB s.data.toList)) ∧ w = w' := by
  unfold maxLen at hs
  go_enter Tryz.func83, Tryz.ntmps83
  go_wp2
  go_loop [7] (fun i => ∃ k : Nat, k ≤ s.size ∧ i = .int .i64 (k : Int) ∧ Hid (∀ j, j < k → (capB (nb s.data.toList j) || digB (nb s.data.toList j)) = true) ∧ Hid (0 < k → capB (nb s.data.toList 0) = true)) (fun i => s.size - (intOf i).toNat)
  case atStart => exact ⟨0, by omega, rfl, Lib.hid (fun j hj => by omega), Lib.hid (fun h => by omega)⟩
  case round =>
    obtain ⟨k, hk, rfl, hall, hfst⟩ := hrel
    by_cases hlt : k < s.size
    · have hn := nb_at s k hlt
      cases hd : digB (nb s.data.toList k)
      · cases hc : capB (nb s.data.toList k)
        · have K : Hid (false = nameB s.data.toList) := Lib.hid (nameB_bad (k := k) (by rw [size_list]; exact hlt) hc hd).symm
          rw [hn] at hc hd
          have HC : Hid (inB (wrap64 ↑(s[k]).toNat) 65 90 = false) := Lib.hid (by rw [wrap_byte]; exact hc)
          have HD : Hid (inB (wrap64 ↑(s[k]).toNat) 48 57 = false) := Lib.hid (by rw [wrap_byte]; exact hd)
          clear hc hd hn
          go_wp2_with fail
          go_at_call 40; refine (turned (in_any _ _ _ _)).mono ?_; rintro e w' ⟨rfl, rfl⟩
          rw [HD.out]
          go_wp2_with fail
          go_at_call 40; refine (turned (in_any _ _ _ _)).mono ?_; rintro e w' ⟨rfl, rfl⟩
          rw [HC.out]
          go_wp2_with fail
          go_ret
          exact ⟨ret_bool K.out, rfl⟩
        · have K : Hid ((capB (nb s.data.toList k) || digB (nb s.data.toList k)) = true ∧ (0 < k + 1 → capB (nb s.data.toList 0) = true)) := Lib.hid ⟨by rw [hc]; simp, fun _ => by
            by_cases e : k = 0
            · subst e; exact hc
            · exact hfst.out (by omega)⟩
          rw [hn] at hc hd
          have HC : Hid (inB (wrap64 ↑(s[k]).toNat) 65 90 = true) := Lib.hid (by rw [wrap_byte]; exact hc)
          have HD : Hid (inB (wrap64 ↑(s[k]).toNat) 48 57 = false) := Lib.hid (by rw [wrap_byte]; exact hd)
          clear hc hd hn
          go_wp2_with fail
          go_at_call 40; refine (turned (in_any _ _ _ _)).mono ?_; rintro e w' ⟨rfl, rfl⟩
          rw [HD.out]
          go_wp2_with fail
          go_at_call 40; refine (turned (in_any _ _ _ _)).mono ?_; rintro e w' ⟨rfl, rfl⟩
          rw [HC.out]
          go_wp2_with fail
          go_round
          case rel =>
            refine ⟨k + 1, by omega, by go_num, Lib.hid (fun j hj => ?_), Lib.hid K.out.2⟩
            by_cases e : j = k
            · rw [e]; exact K.out.1
            · exact hall.out j (by omega)
          case measure => simp [intOf]; omega
      · by_cases h0 : k = 0
        · subst h0
          have K : Hid (false = nameB s.data.toList) := Lib.hid (nameB_first (dig_cap hd)).symm
          rw [hn] at hd
          have HD : Hid (inB (wrap64 ↑(s[0]).toNat) 48 57 = true) := Lib.hid (by rw [wrap_byte]; exact hd)
          clear hd hn
          go_wp2_with fail
          go_at_call 40; refine (turned (in_any _ _ _ _)).mono ?_; rintro e w' ⟨rfl, rfl⟩
          rw [HD.out]
          go_wp2_with fail
          go_ret
          exact ⟨ret_bool K.out, rfl⟩
        · have K : Hid ((capB (nb s.data.toList k) || digB (nb s.data.toList k)) = true ∧ (0 < k + 1 → capB (nb s.data.toList 0) = true)) := Lib.hid ⟨by rw [hd]; simp, fun _ => hfst.out (by omega)⟩
          rw [hn] at hd
          have HD : Hid (inB (wrap64 ↑(s[k]).toNat) 48 57 = true) := Lib.hid (by rw [wrap_byte]; exact hd)
          have hne : ((k : Int) == 0) = false := by simp; omega
          clear hd hn
          go_wp2_with fail
          go_at_call 40; refine (turned (in_any _ _ _ _)).mono ?_; rintro e w' ⟨rfl, rfl⟩
          rw [HD.out]
          go_wp2_with fail
          go_round
          case rel =>
            refine ⟨k + 1, by omega, by go_num, Lib.hid (fun j hj => ?_), Lib.hid K.out.2⟩
            by_cases e : j = k
            · rw [e]; exact K.out.1
            · exact hall.out j (by omega)
          case measure => simp [intOf]; omega
    · have K : Hid (inB s.size 1 8 = nameB s.data.toList) := Lib.hid (by
        cases h : inB (s.size : Int) 1 8
        · exact (nameB_size (by rw [size_list]; exact h)).symm
        · refine (nameB_good (by rw [size_list]; exact h) (hfst.out ?_) (fun j hj => hall.out j (by rw [size_list] at hj; omega))).symm
          rw [inB_iff] at h; omega)
      go_wp2_with fail
      go_at_call 40; refine (turned (in_any _ _ _ _)).mono ?_; rintro e w' ⟨rfl, rfl⟩
      go_wp2_with fail
      go_ret
      exact ⟨ret_bool K.out, rfl⟩
end Go.Proofs.YtdhhdkbnlddnbaaGreatDoor

set_option maxRecDepth 100000
namespace Go.Proofs.YtdhhdkbnlddnbaaGreatDoor
open Go.ChangeShapes Go.WideShapes Go.ChangeAt Go.RowKit

def BoxPc (W : World) (b : Nat) (x : PieceD) (u : Value) : Prop :=
  W.cell? ⟨b, 0, none⟩ = some (.int .u8 x.letter) ∧ W.cell? ⟨b, 1, none⟩ = some (.int .i64 x.hand) ∧ W.cell? ⟨b, 2, none⟩ = some (.int .i64 x.promote) ∧ W.cell? ⟨b, 3, none⟩ = some u
theorem BoxPc.below {W W' : World} {b : Nat} {x : PieceD} {u : Value} (h : BoxPc W b x u) {n : Nat} (hb : Below n W W') (hn : W.heap.size ≤ n) : BoxPc W' b x u :=
  ⟨cell_keeps hb hn h.1, cell_keeps hb hn h.2.1, cell_keeps hb hn h.2.2.1, cell_keeps hb hn h.2.2.2⟩
theorem all_step {α : Type} {p : α → Bool} {xs : List α} {k : Nat} {x : α} (hx : xs[k]? = some x) (h : (xs.take k).all p = true) (h2 : p x = true) : (xs.take (k + 1)).all p = true := by
  rw [List.take_add_one, List.all_append, h, hx]; simp [h2]
theorem all_no {α : Type} {p : α → Bool} {xs : List α} {k : Nat} {x : α} (hx : xs[k]? = some x) (h2 : p x = false) : xs.all p = false := by
  rw [Bool.eq_false_iff]; intro h
  rw [List.all_eq_true] at h
  rw [h x (List.mem_of_getElem? hx)] at h2; cases h2
theorem wayB_parts {x : WayD} (h : wayB x = true) : inB x.dx (-7) 7 = true ∧ inB x.dy (-7) 7 = true ∧ ((x.dx == 0) = false ∨ (x.dx == 0) = true ∧ (x.dy == 0) = false) ∧ inB x.most 1 7 = true ∧ inB x.take 0 2 = true := by
  simp only [wayB, Bool.and_eq_true] at h
  obtain ⟨h1, h2, h3, h4, h5⟩ := h
  refine ⟨h1, h2, ?_, h4, h5⟩
  by_cases e : x.dx = 0
  · exact .inr ⟨by simpa using e, by simpa [e] using h3⟩
  · exact .inl (by simpa using e)
set_option maxRecDepth 100000 in
set_option maxHeartbeats 4000000 in
theorem pieceError_any (ps : List PieceD) (v : Value) (k : Nat) (x : PieceD) (w : World) (hv : IsSl PieceAt 4 w v ps) (hx : ps[k]? = some x) (hf : LettersFit ps) (hl : ps.length ≤ 6) :
    Calls Tryz.prog 84 #[v, .int .i64 (k : Int)] w (BelPost (.int .i64 (pieceE x (ps.take k) ps.length)) w) := by
  obtain ⟨n, hn⟩ : ∃ n : Nat, n = ps.length := ⟨_, rfl⟩
  have hkn : k < n := by rw [hn]; exact (List.getElem?_eq_some_iff.1 hx).1
  obtain ⟨a, cp, rfl, hcp, hcell⟩ := hv.shape hn
  obtain ⟨g, off, x', rfl, hx', hq⟩ := hcell k hkn
  obtain rfl : x = x' := Option.some.inj (hx.symm.trans hx')
  obtain ⟨u, c0, c1, c2, c3, hu⟩ := hq
  obtain ⟨m, hm⟩ : ∃ m : Nat, m = x.ways.length := ⟨_, rfl⟩
  obtain ⟨au, cu, rfl, _, hways⟩ := hu.shape hm
  obtain ⟨hl0, hl1⟩ := hf x (List.mem_of_getElem? hx)
  have hfit := hu.fit
  rw [← hm] at hfit
  rw [← hn] at hl ⊢
  have HC : Hid _ := Lib.hid hcell
  have HWY : Hid _ := Lib.hid hways
  have HM : Hid _ := Lib.hid hm
  have HX : Hid _ := Lib.hid hx
  have HN : Hid _ := Lib.hid hn
  have HB0 : Hid (Below w.heap.size w (w.alloc (.cells #[.int .u8 x.letter, .int .i64 x.hand, .int .i64 x.promote, .slice au m cu] 60))) := Lib.hid ((Below.refl _ _).alloc (Nat.le_refl _) _)
  have HX0 : Hid (BoxPc (w.alloc (.cells #[.int .u8 x.letter, .int .i64 x.hand, .int .i64 x.promote, .slice au m cu] 60)) w.heap.size x (.slice au m cu)) := Lib.hid (cells4_new w _ _ _ _ _ _ (Below.refl _ _))
  clear hcell hways hm hx hx' hn hv hu hf
  go_enter Tryz.func84, Tryz.ntmps84
  go_wp2_with fail
  go_at_call 40; refine (turned (in_any _ _ _ _)).mono ?_; rintro e w' ⟨rfl, rfl⟩
  cases h1 : inB x.letter 65 90
  · have K : Hid ((6 : Int) = pieceE x (ps.take k) n) := Lib.hid (by simp [pieceE, capB, h1])
    clear h1
    go_wp2_with fail
    go_ret
    exact ⟨ret_i64 K.out, HB0.out⟩
  · have K1 : Hid (capB x.letter = true) := Lib.hid h1
    clear h1 c0 c1 c2 c3
    go_wp2_with fail
    go_loopw [6, 19] (fun _ i wr => ∃ j : Nat, j ≤ k ∧ i = .int .i64 (j : Int) ∧ Hid ((ps.take j).any (fun y => decide (y.letter = x.letter)) = false) ∧ Hid (BoxPc wr w.heap.size x (.slice au m cu)) ∧ Hid (Below w.heap.size w wr)) (fun _ i _ => k - (intOf i).toNat)
    case atStart => exact ⟨0, by omega, rfl, Lib.hid rfl, HX0, HB0⟩
    case round =>
      clear HX0 HB0
      obtain ⟨j, hj, rfl, hany, hbx, hbel⟩ := hrel
      by_cases hlt : j < k
      · obtain ⟨g', off', y, hg, hy, hq⟩ := HC.out j (by omega)
        simp only [Option.some.injEq, Addr.mk.injEq] at hg
        obtain ⟨rfl, rfl, _⟩ := hg
        obtain ⟨u, c0, _, _, _, _⟩ := piece_keeps _ _ _ _ _ _ hbel.out (Nat.le_refl _) hq
        obtain ⟨b0, _, _, _⟩ := hbx.out
        have HY : Hid _ := Lib.hid hy
        clear hq hy HC
        by_cases hsame : y.letter = x.letter
        · have K : Hid ((7 : Int) = pieceE x (ps.take k) n) := Lib.hid (by
            have : (ps.take k).any (fun y => decide (y.letter = x.letter)) = true := List.any_eq_true.2 ⟨y, List.mem_of_getElem? (i := j) (by rw [List.getElem?_take, if_pos hlt]; exact HY.out), by simpa using hsame⟩
            simp [pieceE, K1.out, this])
          rw [hsame] at c0
          clear hsame
          go_wp2_with fail
          go_quiet (fail)
          go_wp2_with fail
          go_ret
          exact ⟨ret_i64 K.out, below_drewN hbel.out _⟩
        · have K : Hid ((ps.take (j + 1)).any (fun y => decide (y.letter = x.letter)) = false) := Lib.hid (any_step HY.out hany.out (by simpa using hsame))
          have hne : (y.letter == x.letter) = false := by simpa using hsame
          clear hsame
          go_wp2_with fail
          go_quiet (fail)
          go_wp2_with fail
          go_roundw
          case rel => exact ⟨j + 1, by omega, by go_num, K, Lib.hid (hbx.out.below (below_drewN (Below.refl wr.heap.size wr) _) (Nat.le_refl _)), Lib.hid (below_drewN hbel.out _)⟩
          case measure => simp [intOf]; omega
      · obtain rfl : k = j := by omega
        have K2 : Hid _ := Lib.hid hany.out
        obtain ⟨b0, b1, b2, b3⟩ := hbx.out
        clear HC hany
        go_wp2_with fail
        go_at_call 40; refine (turned (in_any _ _ _ _)).mono ?_; rintro e w' ⟨rfl, rfl⟩
        cases h3 : (inB x.hand 0 64 && inB x.promote 0 n)
        · have K : Hid ((4 : Int) = pieceE x (ps.take k) n) := Lib.hid (by simp only [pieceE, K1.out, K2.out, h3]; rfl)
          cases h4 : inB x.hand 0 64
          · clear h3 h4
            go_wp2_with fail
            go_ret
            exact ⟨ret_i64 K.out, hbel.out⟩
          · have K5 : Hid (inB x.promote 0 n = false) := Lib.hid (by rw [h4] at h3; simpa using h3)
            clear h3 h4
            go_wp2_with fail
            go_at_call 40; refine (turned (in_any _ _ _ _)).mono ?_; rintro e w' ⟨rfl, rfl⟩
            rw [K5.out]
            go_wp2_with fail
            go_ret
            exact ⟨ret_i64 K.out, hbel.out⟩
        · have K3 : Hid _ := Lib.hid h3
          rw [Bool.and_eq_true] at h3
          have K4 : Hid _ := Lib.hid h3
          clear h3
          rw [K4.out.1]
          go_wp2_with fail
          go_at_call 40; refine (turned (in_any _ _ _ _)).mono ?_; rintro e w' ⟨rfl, rfl⟩
          rw [K4.out.2]
          by_cases h5 : 16 < m
          · have K : Hid ((2 : Int) = pieceE x (ps.take k) n) := Lib.hid (by simp [pieceE, K1.out, K2.out, K3.out, ← HM.out, h5])
            go_wp2_with fail
            go_ret
            exact ⟨ret_i64 K.out, hbel.out⟩
          · have K6 : Hid (pieceE x (ps.take k) n = if x.ways.all wayB = false then 4 else 0) := Lib.hid (by rw [pieceE, K1.out, K2.out, K3.out, ← HM.out, if_neg h5]; rfl)
            clear K1 K2 K3 K4
            go_wp2_with fail
            obtain ⟨wo, rfl⟩ : ∃ wo : World, wo = wr := ⟨_, rfl⟩
            go_loopw [8, 50] (fun _ i w9 => ∃ q : Nat, q ≤ m ∧ i = .int .i64 (q : Int) ∧ Hid ((x.ways.take q).all wayB = true) ∧ Hid (Below w.heap.size w w9)) (fun _ i _ => m - (intOf i).toNat)
            case atStart => exact ⟨0, by omega, rfl, Lib.hid rfl, hbel⟩
            case round =>
              clear b0 b1 b2 b3 hbel hbx
              obtain ⟨q, hq, rfl, hall, hbel⟩ := hrel
              by_cases hlt : q < m
              · obtain ⟨g2, off2, y, rfl, hy, hqq⟩ := HWY.out q hlt
                obtain ⟨c0, c1, c2, c3⟩ := way_keeps _ _ _ _ _ _ hbel.out (Nat.le_refl _) hqq
                have HY : Hid _ := Lib.hid hy
                clear hqq hy HWY
                cases hb : wayB y
                · have K : Hid ((4 : Int) = pieceE x (ps.take k) n) := Lib.hid (by rw [K6.out, if_pos (all_no HY.out hb)])
                  have KB : Hid _ := Lib.hid hb
                  clear hb
                  go_wp2_with (go_at_call 40; refine (turned (in_any _ _ _ _)).mono ?_; rintro e w' ⟨rfl, rfl⟩)
                  all_goals first
                    | (go_ret; exact ⟨ret_i64 K.out, hbel.out.alloc hbel.out.size _⟩)
                    | (exfalso; have := KB.out; simp_all [wayB]; done)
                · have K : Hid ((x.ways.take (q + 1)).all wayB = true) := Lib.hid (all_step HY.out hall.out hb)
                  have HB : Hid (Below w.heap.size w (wr.alloc (.cells #[.int .i64 y.dx, .int .i64 y.dy, .int .i64 y.most, .int .i64 y.take] 94))) := Lib.hid (hbel.out.alloc hbel.out.size _)
                  obtain ⟨p1, p2, p3, p4, p5⟩ := wayB_parts hb
                  clear hb
                  rcases p3 with p3 | ⟨p3, p6⟩
                  all_goals
                    go_wp2_with (go_at_call 40; refine (turned (in_any _ _ _ _)).mono ?_; rintro e w' ⟨rfl, rfl⟩)
                    go_roundw
                    case rel => exact ⟨q + 1, by omega, by go_num, K, HB⟩
                    case measure => simp [intOf]; omega
              · have K : Hid ((0 : Int) = pieceE x (ps.take k) n) := Lib.hid (by
                  have h := hall.out
                  rw [List.take_of_length_le (by have := HM.out; omega)] at h
                  rw [K6.out, h]; rfl)
                go_wp2_with fail
                go_ret
                exact ⟨ret_i64 K.out, hbel.out⟩
end Go.Proofs.YtdhhdkbnlddnbaaGreatDoor

set_option maxRecDepth 100000
namespace Go.Proofs.YtdhhdkbnlddnbaaGreatDoor
open Go.ChangeShapes Go.WideShapes Go.ChangeAt Go.RowKit

theorem endE_line2 {x : EndD} (n : Nat) (h : x.kind = 0) : endE x n = if inB x.count 1 64 && (x.piece == 0) then 0 else 4 := by
  obtain ⟨kd, pc, ct, ls⟩ := x
  obtain rfl : kd = 0 := h
  rw [endE_line]; rfl
theorem endE_reach2 {x : EndD} (n : Nat) (h : x.kind = 1) : endE x n = if (x.count == 0) && inB x.piece 0 ((n : Int) - 1) then 0 else 4 := by
  obtain ⟨kd, pc, ct, ls⟩ := x
  obtain rfl : kd = 1 := h
  rw [endE_reach]; rfl
theorem endE_take2 {x : EndD} (n : Nat) (h : x.kind = 2) : endE x n = if inB x.count 1 64 && inB x.piece 0 ((n : Int) - 1) then 0 else 4 := by
  obtain ⟨kd, pc, ct, ls⟩ := x
  obtain rfl : kd = 2 := h
  rw [endE_take]
theorem endE_none2 {x : EndD} (n : Nat) (h : inB x.kind 0 2 = false) : endE x n = 1 := by simp [endE, h]
theorem start_go {r : RulesD} {n : Nat} (hn : n = r.pieces.length) (h : (r.start.length : Int) = r.width * r.height) : startE r = if r.start.all (fun c => inB c 0 (2 * (n : Int))) then 0 else 4 := by
  rw [startE, if_neg (by simpa using h), hn]
set_option maxRecDepth 100000 in
set_option maxHeartbeats 8000000 in
theorem rulesError_any (r : RulesD) (vp vs ve : Value) (w : World) (hr : RulesIn w r vp vs ve) (hf : LettersFit r.pieces) :
    Calls Tryz.prog 57 #[RulesV r vp vs ve] w (BelPost (.int .i64 (rulesE r)) w) := by
  obtain ⟨n, hnn⟩ : ∃ n : Nat, n = r.pieces.length := ⟨_, rfl⟩
  obtain ⟨l, hll⟩ : ∃ l : Nat, l = r.start.length := ⟨_, rfl⟩
  obtain ⟨m, hm⟩ : ∃ m : Nat, m = r.ends.length := ⟨_, rfl⟩
  have hf1 := hr.1.1.fit
  have hf2 := hr.1.2.1.fit
  have hf3 := hr.1.2.2.fit
  obtain ⟨ap, cp, rfl, _, _⟩ := hr.1.1.shape hnn
  obtain ⟨sa, cs, rfl, _, hsc⟩ := hr.1.2.1.shape hll
  obtain ⟨ea, ce, rfl, _, hec⟩ := hr.1.2.2.shape hm
  have HR : Hid _ := Lib.hid hr.1
  have HNM : Hid _ := Lib.hid hr.2
  have HF : Hid _ := Lib.hid hf
  have HSC : Hid _ := Lib.hid hsc
  have HEC : Hid _ := Lib.hid hec
  have HNN : Hid _ := Lib.hid hnn
  have HLL : Hid _ := Lib.hid hll
  have HMM : Hid _ := Lib.hid hm
  rw [← hnn] at hf1
  rw [← hll] at hf2
  rw [← hm] at hf3
  have HBX : Hid _ := Lib.hid (boxR_new w r (.slice ap n cp) (.slice sa l cs) (.slice ea m ce) 26)
  have HB0 : Hid (Below w.heap.size w (w.alloc (.cells #[.string r.name, .int .i64 r.width, .int .i64 r.height, .slice ap n cp, .slice sa l cs, .bool r.falls, .bool r.keeps, .slice ea m ce, .int .i64 r.blocked, .int .i64 r.quiet, .int .i64 r.rep] 26))) := Lib.hid ((Below.refl _ _).alloc (Nat.le_refl _) _)
  unfold RulesCells at HBX
  unfold RulesV
  clear hr hnn hll hm hsc hec hf
  go_enter Tryz.func57, Tryz.ntmps57
  go_wp2_with fail
  go_at_call 83; refine (named_any r.name _ HNM.out).mono ?_; rintro e w' ⟨rfl, rfl⟩
  cases h1 : nameB r.name.data.toList
  · have K : Hid ((6 : Int) = rulesE r) := Lib.hid (by simp [rulesE, h1])
    clear h1
    go_wp2_with fail
    go_ret
    exact ⟨ret_i64 K.out, HB0.out⟩
  have K1 : Hid _ := Lib.hid h1
  clear h1
  go_wp2_with fail
  go_at_call 40; refine (turned (in_any _ _ _ _)).mono ?_; rintro e w' ⟨rfl, rfl⟩
  cases h2 : inB r.width 1 8
  · have K : Hid ((4 : Int) = rulesE r) := Lib.hid (by simp [rulesE, K1.out, h2])
    clear h2
    go_wp2_with fail
    go_ret
    exact ⟨ret_i64 K.out, HB0.out⟩
  have K2 : Hid _ := Lib.hid h2
  clear h2
  go_wp2_with fail
  go_at_call 40; refine (turned (in_any _ _ _ _)).mono ?_; rintro e w' ⟨rfl, rfl⟩
  cases h3 : inB r.height 1 8
  · have K : Hid ((4 : Int) = rulesE r) := Lib.hid (by simp [rulesE, K1.out, h3])
    clear h3
    go_wp2_with fail
    go_ret
    exact ⟨ret_i64 K.out, HB0.out⟩
  have K3 : Hid _ := Lib.hid h3
  clear h3
  have K4 : Hid (rulesE r = if piecesE r.pieces ≠ 0 then piecesE r.pieces else if startE r ≠ 0 then startE r else if endsE r ≠ 0 then endsE r else otherE r) := Lib.hid (by rw [rulesE, K1.out, K2.out, K3.out]; rfl)
  obtain ⟨A, hA⟩ : ∃ A : Int, A = r.width * r.height := ⟨_, rfl⟩
  obtain ⟨hw1, hw2⟩ := inB_iff.1 K2.out
  obtain ⟨hh1, hh2⟩ := inB_iff.1 K3.out
  have hA1 : 1 ≤ A := by rw [hA]; have := Int.mul_le_mul hw1 hh1 (by omega) (by omega); simpa using this
  have hA2 : A ≤ 64 := by rw [hA]; have := Int.mul_le_mul hw2 hh2 (by omega) (by omega); simpa using this
  have HA : Hid _ := Lib.hid hA
  clear K1 K2 K3 hA
  by_cases h0 : n = 0
  · have K : Hid ((8 : Int) = rulesE r) := Lib.hid (by
      have : piecesE r.pieces = 8 := by rw [piecesE, ← HNN.out, if_pos h0]
      rw [K4.out, this]; rfl)
    subst h0
    go_wp2_with fail
    go_ret
    exact ⟨ret_i64 K.out, HB0.out⟩
  have hne : ((n : Int) == 0) = false := by simp; omega
  by_cases h6 : 6 < n
  · have K : Hid ((2 : Int) = rulesE r) := Lib.hid (by
      have : piecesE r.pieces = 2 := by rw [piecesE, ← HNN.out, if_neg h0, if_pos h6]
      rw [K4.out, this]; rfl)
    clear h0
    go_wp2_with fail
    go_ret
    exact ⟨ret_i64 K.out, HB0.out⟩
  have KP : Hid (piecesE r.pieces = piecesGo r.pieces 0 n) := Lib.hid (by simp [piecesE, ← HNN.out, h0, h6])
  clear h0
  go_wp2_with fail
  go_loopw [4, 5, 36] (fun _ _ i wr => ∃ k : Nat, k ≤ n ∧ i = .int .i64 (k : Int) ∧ Hid (piecesE r.pieces = piecesGo r.pieces k (n - k)) ∧ Hid (BoxR wr w.heap.size r (.slice ap n cp) (.slice sa l cs) (.slice ea m ce)) ∧ Hid (Below w.heap.size w wr)) (fun _ _ i _ => n - (intOf i).toNat)
  case atStart => exact ⟨0, by omega, rfl, KP, HBX, HB0⟩
  case round =>
    clear KP HBX HB0
    obtain ⟨k, hk, rfl, hgo, hbx, hbel⟩ := hrel
    by_cases hlt : k < n
    · obtain ⟨x, hx⟩ : ∃ x, r.pieces[k]? = some x := ⟨_, List.getElem?_eq_getElem (by have := HNN.out; omega)⟩
      have HX : Hid _ := Lib.hid hx
      have b3 := hbx.out.2.2.2.1
      clear hx
      go_wp2_with fail
      go_at_call 84; refine (pieceError_any r.pieces _ k x _ (HR.out.below hbel.out (Nat.le_refl _)).1 HX.out HF.out (by have := HNN.out; omega)).mono ?_; rintro e w2 ⟨rfl, hb2⟩
      rw [← HNN.out]
      have HB : Hid (Below w.heap.size w w2) := Lib.hid (hbel.out.trans (hb2.mono hbel.out.size))
      have HBX : Hid _ := Lib.hid (hbx.out.below hb2 (Nat.le_refl _))
      clear hb2 b3 hbel hbx
      by_cases hz : pieceE x (r.pieces.take k) n = 0
      · have KG : Hid (piecesE r.pieces = piecesGo r.pieces (k + 1) (n - (k + 1))) := Lib.hid (by
          rw [hgo.out, show n - k = (n - (k + 1)) + 1 by omega, piecesGo_step HX.out (by rw [← HNN.out]; exact hz)])
        rw [hz]
        clear hz
        go_wp2_with fail
        go_roundw
        case rel => exact ⟨k + 1, by omega, by go_num, KG, HBX, HB⟩
        case measure => simp [intOf]; omega
      · have KG : Hid (pieceE x (r.pieces.take k) n = rulesE r) := Lib.hid (by
          have : piecesE r.pieces = pieceE x (r.pieces.take k) n := by rw [hgo.out, show n - k = (n - (k + 1)) + 1 by omega, piecesGo_stop HX.out (by rw [← HNN.out]; exact hz), ← HNN.out]
          rw [K4.out, this, if_pos hz])
        obtain ⟨c, hc⟩ : ∃ c : Int, c = pieceE x (r.pieces.take k) n := ⟨_, rfl⟩
        rw [← hc] at hz KG ⊢
        have hne2 : (c != 0) = true := by simpa using hz
        clear hz hc
        go_wp2_with fail
        go_ret
        exact ⟨ret_i64 KG.out, HB.out⟩
    have K5 : Hid (rulesE r = if startE r ≠ 0 then startE r else if endsE r ≠ 0 then endsE r else otherE r) := Lib.hid (by
      have : piecesE r.pieces = 0 := by rw [hgo.out, show n - k = 0 by omega]; rfl
      rw [K4.out, if_neg (by simpa using this)])
    obtain ⟨b0, b1, b2, b3, b4, b5, b6, b7, b8, b9, b10⟩ := hbx.out
    have hmul : r.width * r.height = A := HA.out.symm
    clear K4 hgo
    by_cases hla : (l : Int) = A
    · have hne3 : ((l : Int) != A) = false := by simpa using hla
      have KS : Hid (startE r = if r.start.all (fun c => inB c 0 (2 * (n : Int))) then 0 else 4) := Lib.hid (start_go HNN.out (by rw [← HLL.out, hla, HA.out]))
      clear hla
      go_wp2_with fail
      obtain ⟨wo, rfl⟩ : ∃ wo : World, wo = wr := ⟨_, rfl⟩
      go_loopw [7, 59] (fun _ i wr => ∃ q : Nat, q ≤ l ∧ i = .int .i64 (q : Int) ∧ Hid ((r.start.take q).all (fun c => inB c 0 (2 * (n : Int))) = true) ∧ wr = wo) (fun _ i _ => l - (intOf i).toNat)
      case atStart => exact ⟨0, by omega, rfl, Lib.hid rfl, rfl⟩
      case round =>
        obtain ⟨q, hq, rfl, hall, rfl⟩ := hrel
        by_cases hlt2 : q < l
        · obtain ⟨g, off, x, rfl, hx, hqq⟩ := HSC.out q hlt2
          have c0 : wr.cell? ⟨g, off + q, none⟩ = some (.int .i64 x) := by
            have h := int_keeps _ _ _ _ _ _ hbel.out (Nat.le_refl _) hqq
            rw [Nat.mul_one] at h; exact h
          have HX : Hid _ := Lib.hid hx
          clear hqq hx HSC
          go_wp2_with fail
          go_at_call 40; refine (turned (in_any _ _ _ _)).mono ?_; rintro e w' ⟨rfl, rfl⟩
          cases hb : inB x 0 (2 * (n : Int))
          · have K : Hid ((4 : Int) = rulesE r) := Lib.hid (by
              have : startE r = 4 := by rw [KS.out, all_no HX.out hb]; rfl
              rw [K5.out, this]; rfl)
            clear hb
            go_wp2_with fail
            go_ret
            exact ⟨ret_i64 K.out, hbel.out⟩
          · have K : Hid ((r.start.take (q + 1)).all (fun c => inB c 0 (2 * (n : Int))) = true) := Lib.hid (all_step HX.out hall.out hb)
            clear hb
            go_wp2_with fail
            go_roundw
            case rel => exact ⟨q + 1, by omega, by go_num, K, trivial⟩
            case measure => simp [intOf]; omega
        have K6 : Hid (rulesE r = if endsE r ≠ 0 then endsE r else otherE r) := Lib.hid (by
          have h := hall.out
          rw [List.take_of_length_le (by have := HLL.out; omega)] at h
          have : startE r = 0 := by rw [KS.out, h]; rfl
          rw [K5.out, if_neg (by simpa using this)])
        clear K5 KS hall
        by_cases hm6 : 6 < m
        · have K : Hid ((2 : Int) = rulesE r) := Lib.hid (by
            have : endsE r = 2 := by rw [endsE, ← HMM.out, if_pos hm6]
            rw [K6.out, this]; rfl)
          go_wp2_with fail
          go_ret
          exact ⟨ret_i64 K.out, hbel.out⟩
        have KE : Hid (endsE r = endsGo (r.ends.drop 0) n) := Lib.hid (by rw [endsE, ← HMM.out, if_neg hm6, ← HNN.out]; rfl)
        go_wp2_with fail
        obtain ⟨wo2, rfl⟩ : ∃ wo2 : World, wo2 = wr := ⟨_, rfl⟩
        go_loopw [9, 10, 11, 76] (fun _ _ _ i w9 => ∃ q : Nat, q ≤ m ∧ i = .int .i64 (q : Int) ∧ Hid (endsE r = endsGo (r.ends.drop q) n) ∧ Hid (BoxR w9 w.heap.size r (.slice ap n cp) (.slice sa l cs) (.slice ea m ce)) ∧ Hid (Below w.heap.size w w9)) (fun _ _ _ i _ => m - (intOf i).toNat)
        case atStart => exact ⟨0, by omega, rfl, KE, hbx, hbel⟩
        case round =>
          clear b0 b1 b2 b3 b4 b5 b6 b7 b8 b9 b10 KE
          obtain ⟨q, hq, rfl, hgo3, hbx3, hbel3⟩ := hrel
          by_cases hlt3 : q < m
          · obtain ⟨g, off, x, rfl, hx, hqq⟩ := HEC.out q hlt3
            obtain ⟨c0, c1, c2, c3⟩ := end_keeps _ _ _ _ _ _ hbel3.out (Nat.le_refl _) hqq
            have HX : Hid _ := Lib.hid hx
            clear hqq hx HEC
            have hkd : x.kind = 0 ∨ x.kind = 1 ∨ x.kind = 2 ∨ inB x.kind 0 2 = false := by
              cases h : inB x.kind 0 2
              · simp
              · rw [inB_iff] at h; omega
            rcases hkd with hkd | hkd | hkd | hkd
            · have KE : Hid _ := Lib.hid (endE_line2 n hkd)
              have KI : Hid (inB 0 0 2 = true) := Lib.hid (by decide)
              rw [hkd] at c0
              clear hkd
              cases hb : (inB x.count 1 64 && (x.piece == 0))
              · have K : Hid ((4 : Int) = rulesE r) := Lib.hid (by
                  have h1 : endE x n = 4 := by rw [KE.out, hb]; rfl
                  have : endsE r = 4 := by rw [hgo3.out, endsGo_step HX.out, h1]; rfl
                  rw [K6.out, this]; rfl)
                have KB : Hid _ := Lib.hid hb
                clear hb
                go_wp2_with fail
                go_at_call 40; refine (turned (in_any _ _ _ _)).mono ?_; rintro e w' ⟨rfl, rfl⟩
                rw [KI.out]
                go_wp2_with fail
                have hs1 : IntKind.i64.wrap ((n : Int) - 1) = (n : Int) - 1 := IntWalk.i64_in _ (by omega)
                go_quiet ((go_at_call 40; exact Calls.quiet_of_same (in_any _ _ _ _)))
                clear hs1
                go_wp2_with fail
                all_goals first
                  | (go_ret; exact ⟨ret_i64 K.out, below_drewN (hbel3.out.alloc hbel3.out.size _) _⟩)
                  | (exfalso; have := KB.out; simp_all; done)
              · have KG : Hid (endsE r = endsGo (r.ends.drop (q + 1)) n) := Lib.hid (by
                  have h1 : endE x n = 0 := by rw [KE.out, hb]; rfl
                  rw [hgo3.out, endsGo_step HX.out, if_pos h1])
                rw [Bool.and_eq_true] at hb
                obtain ⟨p1, p2⟩ := hb
                go_wp2_with fail
                go_at_call 40; refine (turned (in_any _ _ _ _)).mono ?_; rintro e w' ⟨rfl, rfl⟩
                rw [KI.out]
                go_wp2_with fail
                have hs1 : IntKind.i64.wrap ((n : Int) - 1) = (n : Int) - 1 := IntWalk.i64_in _ (by omega)
                go_quiet ((go_at_call 40; exact Calls.quiet_of_same (in_any _ _ _ _)))
                clear hs1
                go_wp2_with fail
                have hb9 := below_drewN ((Below.refl wr.heap.size wr).alloc (Nat.le_refl _) (.cells #[.int .i64 0, .int .i64 x.piece, .int .i64 x.count, .bool x.loses] 62)) nq
                have HB9 : Hid _ := Lib.hid hb9
                clear hb9
                go_roundw
                case rel => exact ⟨q + 1, by omega, by go_num, KG, Lib.hid (hbx3.out.below HB9.out (Nat.le_refl _)), Lib.hid (hbel3.out.trans (HB9.out.mono hbel3.out.size))⟩
                case measure => simp [intOf]; omega
            · have KE : Hid _ := Lib.hid (endE_reach2 n hkd)
              have KI : Hid (inB 1 0 2 = true) := Lib.hid (by decide)
              rw [hkd] at c0
              clear hkd
              cases hb : ((x.count == 0) && inB x.piece 0 ((n : Int) - 1))
              · have K : Hid ((4 : Int) = rulesE r) := Lib.hid (by
                  have h1 : endE x n = 4 := by rw [KE.out, hb]; rfl
                  have : endsE r = 4 := by rw [hgo3.out, endsGo_step HX.out, h1]; rfl
                  rw [K6.out, this]; rfl)
                have KB : Hid _ := Lib.hid hb
                clear hb
                go_wp2_with fail
                go_at_call 40; refine (turned (in_any _ _ _ _)).mono ?_; rintro e w' ⟨rfl, rfl⟩
                rw [KI.out]
                go_wp2_with fail
                have hs1 : IntKind.i64.wrap ((n : Int) - 1) = (n : Int) - 1 := IntWalk.i64_in _ (by omega)
                go_quiet ((go_at_call 40; exact Calls.quiet_of_same (in_any _ _ _ _)))
                clear hs1
                go_wp2_with fail
                all_goals first
                  | (go_ret; exact ⟨ret_i64 K.out, below_drewN (hbel3.out.alloc hbel3.out.size _) _⟩)
                  | (exfalso; have := KB.out; simp_all; done)
              · have KG : Hid (endsE r = endsGo (r.ends.drop (q + 1)) n) := Lib.hid (by
                  have h1 : endE x n = 0 := by rw [KE.out, hb]; rfl
                  rw [hgo3.out, endsGo_step HX.out, if_pos h1])
                rw [Bool.and_eq_true] at hb
                obtain ⟨p1, p2⟩ := hb
                go_wp2_with fail
                go_at_call 40; refine (turned (in_any _ _ _ _)).mono ?_; rintro e w' ⟨rfl, rfl⟩
                rw [KI.out]
                go_wp2_with fail
                have hs1 : IntKind.i64.wrap ((n : Int) - 1) = (n : Int) - 1 := IntWalk.i64_in _ (by omega)
                go_quiet ((go_at_call 40; exact Calls.quiet_of_same (in_any _ _ _ _)))
                clear hs1
                go_wp2_with fail
                have hb9 := below_drewN ((Below.refl wr.heap.size wr).alloc (Nat.le_refl _) (.cells #[.int .i64 1, .int .i64 x.piece, .int .i64 x.count, .bool x.loses] 62)) nq
                have HB9 : Hid _ := Lib.hid hb9
                clear hb9
                go_roundw
                case rel => exact ⟨q + 1, by omega, by go_num, KG, Lib.hid (hbx3.out.below HB9.out (Nat.le_refl _)), Lib.hid (hbel3.out.trans (HB9.out.mono hbel3.out.size))⟩
                case measure => simp [intOf]; omega
            · have KE : Hid _ := Lib.hid (endE_take2 n hkd)
              have KI : Hid (inB 2 0 2 = true) := Lib.hid (by decide)
              rw [hkd] at c0
              clear hkd
              cases hb : (inB x.count 1 64 && inB x.piece 0 ((n : Int) - 1))
              · have K : Hid ((4 : Int) = rulesE r) := Lib.hid (by
                  have h1 : endE x n = 4 := by rw [KE.out, hb]; rfl
                  have : endsE r = 4 := by rw [hgo3.out, endsGo_step HX.out, h1]; rfl
                  rw [K6.out, this]; rfl)
                have KB : Hid _ := Lib.hid hb
                clear hb
                go_wp2_with fail
                go_at_call 40; refine (turned (in_any _ _ _ _)).mono ?_; rintro e w' ⟨rfl, rfl⟩
                rw [KI.out]
                go_wp2_with fail
                have hs1 : IntKind.i64.wrap ((n : Int) - 1) = (n : Int) - 1 := IntWalk.i64_in _ (by omega)
                go_quiet ((go_at_call 40; exact Calls.quiet_of_same (in_any _ _ _ _)))
                clear hs1
                go_wp2_with fail
                all_goals first
                  | (go_ret; exact ⟨ret_i64 K.out, below_drewN (hbel3.out.alloc hbel3.out.size _) _⟩)
                  | (exfalso; have := KB.out; simp_all; done)
              · have KG : Hid (endsE r = endsGo (r.ends.drop (q + 1)) n) := Lib.hid (by
                  have h1 : endE x n = 0 := by rw [KE.out, hb]; rfl
                  rw [hgo3.out, endsGo_step HX.out, if_pos h1])
                rw [Bool.and_eq_true] at hb
                obtain ⟨p1, p2⟩ := hb
                go_wp2_with fail
                go_at_call 40; refine (turned (in_any _ _ _ _)).mono ?_; rintro e w' ⟨rfl, rfl⟩
                rw [KI.out]
                go_wp2_with fail
                have hs1 : IntKind.i64.wrap ((n : Int) - 1) = (n : Int) - 1 := IntWalk.i64_in _ (by omega)
                go_quiet ((go_at_call 40; exact Calls.quiet_of_same (in_any _ _ _ _)))
                clear hs1
                go_wp2_with fail
                have hb9 := below_drewN ((Below.refl wr.heap.size wr).alloc (Nat.le_refl _) (.cells #[.int .i64 2, .int .i64 x.piece, .int .i64 x.count, .bool x.loses] 62)) nq
                have HB9 : Hid _ := Lib.hid hb9
                clear hb9
                go_roundw
                case rel => exact ⟨q + 1, by omega, by go_num, KG, Lib.hid (hbx3.out.below HB9.out (Nat.le_refl _)), Lib.hid (hbel3.out.trans (HB9.out.mono hbel3.out.size))⟩
                case measure => simp [intOf]; omega
            · have K : Hid ((1 : Int) = rulesE r) := Lib.hid (by
                have h1 : endE x n = 1 := endE_none2 n hkd
                have : endsE r = 1 := by rw [hgo3.out, endsGo_step HX.out, h1]; rfl
                rw [K6.out, this]; rfl)
              have KI : Hid _ := Lib.hid hkd
              clear hkd
              go_wp2_with fail
              go_at_call 40; refine (turned (in_any _ _ _ _)).mono ?_; rintro e w' ⟨rfl, rfl⟩
              rw [KI.out]
              go_wp2_with fail
              go_ret
              exact ⟨ret_i64 K.out, hbel3.out.alloc hbel3.out.size _⟩
          have K7 : Hid (rulesE r = otherE r) := Lib.hid (by
            have : endsE r = 0 := by rw [hgo3.out, List.drop_eq_nil_of_le (by have := HMM.out; omega)]; rfl
            rw [K6.out, if_neg (by simpa using this)])
          obtain ⟨b0, b1, b2, b3, b4, b5, b6, b7, b8, b9, b10⟩ := hbx3.out
          clear K6 hgo3
          have KO : Hid (otherE r = if inB r.blocked 0 2 && (inB r.quiet 0 200 && ((r.rep == 0) || inB r.rep 2 5)) then 0 else 4) := Lib.hid rfl
          by_cases h0 : r.rep = 0
          · rw [h0] at b10 KO
            clear h0
            go_wp2_with (go_at_call 40; refine (turned (in_any _ _ _ _)).mono ?_; rintro e w' ⟨rfl, rfl⟩)
            all_goals
              go_ret
              exact ⟨ret_i64 (by rw [K7.out, KO.out]; simp_all), hbel3.out⟩
          · have hne9 : (r.rep == 0) = false := by simpa using h0
            have hne8 : (r.rep != 0) = true := by simpa using h0
            clear h0
            go_wp2_with (go_at_call 40; refine (turned (in_any _ _ _ _)).mono ?_; rintro e w' ⟨rfl, rfl⟩)
            all_goals
              go_ret
              exact ⟨ret_i64 (by rw [K7.out, KO.out]; simp_all), hbel3.out⟩
    · have hne3 : ((l : Int) != A) = true := by simpa using hla
      have K : Hid ((3 : Int) = rulesE r) := Lib.hid (by
        have : startE r = 3 := by rw [startE, if_pos (by rw [← HLL.out, ← HA.out]; exact hla)]
        rw [K5.out, this]; rfl)
      clear hla
      go_wp2_with fail
      go_ret
      exact ⟨ret_i64 K.out, hbel.out⟩
end Go.Proofs.YtdhhdkbnlddnbaaGreatDoor

set_option maxRecDepth 100000
namespace Go.Proofs.YtdhhdkbnlddnbaaGreatDoor
open Go.ChangeShapes Go.WideShapes Go.ChangeAt Go.RowKit

theorem all_take {p : Int → Bool} {l : List Int} {k : Nat} {x : Int} (h : l[k]? = some x) : (l.take (k + 1)).all p = ((l.take k).all p && p x) := by
  rw [List.take_add_one, h]; simp
set_option maxHeartbeats 4000000 in
theorem placeErr_form (r : RulesD) (p : PlaceD) (vp vs ve vc v0 v1 : Value) (w : World) (hr : RulesIn w r vp vs ve) (hf : LettersFit r.pieces) (hp : PlaceIn w p vc v0 v1) (h : rulesE r ≠ 0 ∨ formB r p = false) :
    Calls Tryz.prog 39 #[RulesV r vp vs ve, PlaceV p vc v0 v1] w (BelPost (.int .i64 (placeE r p)) w) := by
  obtain ⟨c, hc⟩ : ∃ c : Int, c = rulesE r := ⟨_, rfl⟩
  have HRE : Hid (∀ W, Below w.heap.size w W → Calls Tryz.prog 57 #[RulesV r vp vs ve] W (BelPost (.int .i64 c) W)) := Lib.hid (fun W h => by rw [hc]; exact rulesError_any r vp vs ve W (hr.below h (Nat.le_refl _)) hf)
  obtain ⟨n, hn⟩ : ∃ n : Nat, n = r.pieces.length := ⟨_, rfl⟩
  obtain ⟨m, hm⟩ : ∃ m : Nat, m = p.cells.length := ⟨_, rfl⟩
  obtain ⟨k0, hk0⟩ : ∃ m : Nat, m = p.h0.length := ⟨_, rfl⟩
  obtain ⟨k1, hk1⟩ : ∃ m : Nat, m = p.h1.length := ⟨_, rfl⟩
  obtain ⟨ap, cp, rfl, _, _⟩ := hr.1.1.shape hn
  obtain ⟨ca, cc, rfl, _, _⟩ := hp.c.shape hm
  obtain ⟨a0, c0, rfl, _, _⟩ := hp.a.shape hk0
  obtain ⟨a1, c1, rfl, _, _⟩ := hp.b.shape hk1
  have hB : Below w.heap.size w ((w.alloc (.cells (RulesCells r (.slice ap n cp) vs ve) 26)).alloc (.cells (PlaceCells p (.slice ca m cc) (.slice a0 k0 c0) (.slice a1 k1 c1)) 29)) := ((Below.refl _ _).alloc (Nat.le_refl _) _).alloc (by simp) _
  have HB : Hid _ := Lib.hid hB
  have hX : BoxP ((w.alloc (.cells (RulesCells r (.slice ap n cp) vs ve) 26)).alloc (.cells (PlaceCells p (.slice ca m cc) (.slice a0 k0 c0) (.slice a1 k1 c1)) 29)) (w.heap.size + 1) p (.slice ca m cc) (.slice a0 k0 c0) (.slice a1 k1 c1) := by
    have h := boxP_new (w.alloc (.cells (RulesCells r (.slice ap n cp) vs ve) 26)) p (.slice ca m cc) (.slice a0 k0 c0) (.slice a1 k1 c1) 29
    rwa [World.size_alloc] at h
  have HX : Hid _ := Lib.hid hX
  have HY : Hid (BoxR ((w.alloc (.cells (RulesCells r (.slice ap n cp) vs ve) 26)).alloc (.cells (PlaceCells p (.slice ca m cc) (.slice a0 k0 c0) (.slice a1 k1 c1)) 29)) w.heap.size r (.slice ap n cp) vs ve) :=
    Lib.hid ((boxR_new w r (.slice ap n cp) vs ve 26).below ((Below.refl _ _).alloc (Nat.le_refl _) _) (Nat.le_refl _))
  have hn6 : n ≤ 9223372036854775807 := by rw [hn]; exact hr.1.1.fit
  have hm6 : m ≤ 9223372036854775807 := by rw [hm]; exact hp.c.fit
  have hk06 : k0 ≤ 9223372036854775807 := by rw [hk0]; exact hp.a.fit
  have hk16 : k1 ≤ 9223372036854775807 := by rw [hk1]; exact hp.b.fit
  by_cases hz : c = 0
  · have hz0 : rulesE r = 0 := by rw [← hc]; exact hz
    have hff : formB r p = false := h.resolve_left (fun h => h hz0)
    obtain ⟨A, hA⟩ : ∃ A : Int, A = r.width * r.height := ⟨_, rfl⟩
    obtain ⟨_, hw, hh, _⟩ := rulesE_ok hz0
    rw [inB_iff] at hw hh
    have hA1 : 1 ≤ A := by rw [hA]; have := Int.mul_le_mul hw.1 hh.1 (by omega) (by omega); simpa using this
    have hA2 : A ≤ 64 := by rw [hA]; have := Int.mul_le_mul hw.2 hh.2 (by omega) (by omega); simpa using this
    have K : Hid ((3 : Int) = placeE r p) := Lib.hid (placeE_form hz0 hff).symm
    have hmul : r.width * r.height = A := hA.symm
    rw [formB, ← hm, ← hk0, ← hk1, ← hn, ← hA] at hff
    obtain ⟨hw1, hw2⟩ := hw
    obtain ⟨hh1, hh2⟩ := hh
    subst hz
    unfold RulesCells PlaceCells at HB HX HY
    unfold RulesV at HRE ⊢
    unfold PlaceV PlaceCells
    clear hr hp hn hm hk0 hk1 hA hB hX h hf hc hz0
    go_enter Tryz.func39, Tryz.ntmps39
    go_wp2_with fail
    go_at_call 57; refine (HRE.out _ HB.out).mono ?_; rintro e w1 ⟨rfl, hb⟩
    have HB1 := Lib.hid (HB.out.trans (hb.mono HB.out.size))
    obtain ⟨x0, x1, x2, x3, x4⟩ := HX.out.below hb (Nat.le_refl _)
    obtain ⟨y0, y1, y2, y3, y4, y5, y6, y7, y8, y9, y10⟩ := HY.out.below hb (Nat.le_refl _)
    clear hb HB HX HY HRE
    by_cases h1 : (m : Int) = A
    · have e1 : ((m : Int) != A) = false := by simpa using h1
      by_cases h2 : k0 = n
      · have e2 : ((k0 : Int) != (n : Int)) = false := by rw [h2]; simp
        have h3 : ¬ k1 = n := fun h3 => by simp [h1, h2, h3] at hff
        have e3 : ((k1 : Int) != (n : Int)) = true := by simp; omega
        clear h1 h2 h3 hff
        go_wp2_with fail
        go_ret
        exact ⟨ret_i64 K.out, HB1.out⟩
      · have e2 : ((k0 : Int) != (n : Int)) = true := by simp; omega
        clear h1 h2 hff
        go_wp2_with fail
        go_ret
        exact ⟨ret_i64 K.out, HB1.out⟩
    · have e1 : ((m : Int) != A) = true := by simpa using h1
      clear h1 hff
      go_wp2_with fail
      go_ret
      exact ⟨ret_i64 K.out, HB1.out⟩
  · have K : Hid (c = placeE r p) := Lib.hid (by rw [placeE_rules (by rw [← hc]; exact hz), hc])
    have hne : (c != 0) = true := by simpa using hz
    unfold RulesCells PlaceCells at HB HX HY
    unfold RulesV at HRE ⊢
    unfold PlaceV PlaceCells
    clear hr hp hn hm hk0 hk1 hB hX h hf hc hz
    go_enter Tryz.func39, Tryz.ntmps39
    go_wp2_with fail
    go_at_call 57; refine (HRE.out _ HB.out).mono ?_; rintro e w1 ⟨rfl, hb⟩
    have HB1 := Lib.hid (HB.out.trans (hb.mono HB.out.size))
    clear hb HB HX HY HRE
    go_wp2_with fail
    go_ret
    exact ⟨ret_i64 K.out, HB1.out⟩
/-! ### The numbers -/
theorem idx_two0 (a b : Option Addr) (n c m d : Nat) : ∀ w, Sem.run Tryz.prog (Instr.index 27 (.agg #[.slice a n c, .slice b m d]) (.int .i64 0)) w = .ok (.slice a n c) w := fun _ => by kernel_rfl
theorem idx_two1 (a b : Option Addr) (n c m d : Nat) : ∀ w, Sem.run Tryz.prog (Instr.index 27 (.agg #[.slice a n c, .slice b m d]) (.int .i64 1)) w = .ok (.slice b m d) w := fun _ => by kernel_rfl
set_option maxHeartbeats 16000000 in
theorem placeErr_num (r : RulesD) (p : PlaceD) (vp vs ve vc v0 v1 : Value) (w : World) (hr : RulesIn w r vp vs ve) (hf : LettersFit r.pieces) (hp : PlaceIn w p vc v0 v1) (hz : rulesE r = 0) (hff : formB r p = true) :
    Calls Tryz.prog 39 #[RulesV r vp vs ve, PlaceV p vc v0 v1] w (BelPost (.int .i64 (placeE r p)) w) := by
  have HRE : Hid (∀ W, Below w.heap.size w W → Calls Tryz.prog 57 #[RulesV r vp vs ve] W (BelPost (.int .i64 0) W)) := Lib.hid (fun W h => by have := rulesError_any r vp vs ve W (hr.below h (Nat.le_refl _)) hf; rwa [hz] at this)
  have HPE : Hid (placeE r p = if rangeB r p = false then 4 else 0) := Lib.hid (by rw [placeE, if_neg (by simpa using hz), if_neg (by simp [hff])])
  simp only [formB, Bool.and_eq_true, decide_eq_true_eq] at hff
  obtain ⟨f0, f1, f2⟩ := hff
  obtain ⟨_, hw, hh, hps, _⟩ := rulesE_ok hz
  rw [inB_iff] at hw hh
  obtain ⟨n, hn⟩ : ∃ n : Nat, n = r.pieces.length := ⟨_, rfl⟩
  obtain ⟨m, hm⟩ : ∃ m : Nat, m = p.cells.length := ⟨_, rfl⟩
  have hn6 : n ≤ 6 := by rw [hn]; exact (piecesE_ok hps).2
  have hmA : (m : Int) = r.width * r.height := by rw [hm]; exact f0
  have hA2 : r.width * r.height ≤ 64 := by have := Int.mul_le_mul hw.2 hh.2 (by omega) (by omega); simpa using this
  have hm64 : m ≤ 64 := by omega
  have hmul : r.width * r.height = (m : Int) := hmA.symm
  have hl0 : n = p.h0.length := by rw [hn, f1]
  have hl1 : n = p.h1.length := by rw [hn, f2]
  obtain ⟨ap, cp, rfl, _, _⟩ := hr.1.1.shape hn
  obtain ⟨ac, cc, rfl, hcp, hac⟩ := hp.c.shape hm
  obtain ⟨a0, c0', rfl, hcp0, ha0⟩ := hp.a.shape hl0
  obtain ⟨a1, c1', rfl, hcp1, ha1⟩ := hp.b.shape hl1
  have hgen : ∀ {a : Option Addr} {N : Nat} {xs : List Int} (hat : ∀ j, j < N → ∃ g off x, a = some ⟨g, off, none⟩ ∧ xs[j]? = some x ∧ IntAt w g (off + j * 1) x), ∀ k, k < N → ∃ g off x, a = some ⟨g, off, none⟩ ∧ xs[k]? = some x ∧ ∀ V, Below w.heap.size w V → V.cell? ⟨g, off + k, none⟩ = some (.int .i64 x) := fun hat k hk => by
    obtain ⟨g, off, x, e, hx, hq⟩ := hat k hk
    refine ⟨g, off, x, e, hx, fun V hV => ?_⟩
    have := cell_keeps hV (Nat.le_refl _) hq
    rwa [Nat.mul_one] at this
  have HAC := Lib.hid (hgen hac)
  have HA0 := Lib.hid (hgen ha0)
  have HA1 := Lib.hid (hgen ha1)
  have HLC := Lib.hid hm.symm
  have HL0 := Lib.hid hl0.symm
  have HL1 := Lib.hid hl1.symm
  obtain ⟨tq, htq⟩ : ∃ t, t = (inN 1 p.turn && inN 200 p.quiet) := ⟨_, rfl⟩
  obtain ⟨ca, hca⟩ : ∃ t, t = p.cells.all (inN (2 * (n : Int))) := ⟨_, rfl⟩
  obtain ⟨h0, hh0⟩ : ∃ t, t = p.h0.all (inN 1000) := ⟨_, rfl⟩
  obtain ⟨h1, hh1⟩ : ∃ t, t = p.h1.all (inN 1000) := ⟨_, rfl⟩
  have HRG : Hid (rangeB r p = (((tq && ca) && h0) && h1)) := Lib.hid (by
    rw [rangeB, ← hn, ← hca, ← hh0, ← hh1, htq]
    show (ca && (h0 && (h1 && (inN 1 p.turn && inN 200 p.quiet)))) = _
    cases ca <;> cases h0 <;> cases h1 <;> simp)
  have HCA := Lib.hid hca.symm
  have HH0 := Lib.hid hh0.symm
  have HH1 := Lib.hid hh1.symm
  have HTQ0 := Lib.hid htq
  have hX : BoxP ((w.alloc (.cells (RulesCells r (.slice ap n cp) vs ve) 26)).alloc (.cells (PlaceCells p (.slice ac m cc) (.slice a0 n c0') (.slice a1 n c1')) 29)) (w.heap.size + 1) p (.slice ac m cc) (.slice a0 n c0') (.slice a1 n c1') := by
    have h := boxP_new (w.alloc (.cells (RulesCells r (.slice ap n cp) vs ve) 26)) p (.slice ac m cc) (.slice a0 n c0') (.slice a1 n c1') 29
    rwa [World.size_alloc] at h
  obtain ⟨W1, hW1⟩ : ∃ W1, W1 = (w.alloc (.cells (RulesCells r (.slice ap n cp) vs ve) 26)).alloc (.cells (PlaceCells p (.slice ac m cc) (.slice a0 n c0') (.slice a1 n c1')) 29) := ⟨_, rfl⟩
  have HB : Hid (Below w.heap.size w W1) := Lib.hid (by rw [hW1]; exact ((Below.refl _ _).alloc (Nat.le_refl _) _).alloc (by simp) _)
  rw [← hW1] at hX
  have HX : Hid _ := Lib.hid hX
  have HY : Hid (BoxR W1 w.heap.size r (.slice ap n cp) vs ve) := Lib.hid (by rw [hW1]; exact (boxR_new w r (.slice ap n cp) vs ve 26).below ((Below.refl _ _).alloc (Nat.le_refl _) _) (Nat.le_refl _))
  have HW1 : Hid ((w.alloc (.cells #[.string r.name, .int .i64 r.width, .int .i64 r.height, .slice ap n cp, vs, .bool r.falls, .bool r.keeps, ve, .int .i64 r.blocked, .int .i64 r.quiet, .int .i64 r.rep] 26)).alloc (.cells #[.slice ac m cc, .slice a0 n c0', .slice a1 n c1', .int .i64 p.turn, .int .i64 p.quiet] 29) = W1) := Lib.hid (by rw [hW1]; rfl)
  obtain ⟨hw1, hw2⟩ := hw
  obtain ⟨hh1', hh2'⟩ := hh
  unfold RulesV at HRE ⊢
  unfold PlaceV PlaceCells
  clear hr hp hn hm hX hf hz f0 f1 f2 hps hac ha0 ha1 hl0 hl1 htq hca hh0 hh1 hA2 hmA hW1 hgen
  go_enter Tryz.func39, Tryz.ntmps39
  go_wp2_with fail
  rw [HW1.out]
  clear HW1
  go_at_call 57; refine (HRE.out _ HB.out).mono ?_; rintro e w1 ⟨rfl, hb⟩
  have HB1 := Lib.hid (HB.out.trans (hb.mono HB.out.size))
  have hxx := HX.out.below hb (Nat.le_refl _)
  have hyy := HY.out.below hb (Nat.le_refl _)
  obtain ⟨x0, x1, x2, x3, x4⟩ := hxx
  obtain ⟨y0, y1, y2, y3, y4, y5, y6, y7, y8, y9, y10⟩ := hyy
  clear hb HB HX HY HRE y0 y4 y5 y6 y7 y8 y9 y10
  obtain ⟨b3, hb3⟩ : ∃ b, b = inN 1 p.turn := ⟨_, rfl⟩
  obtain ⟨b4, hb4⟩ : ∃ b, b = inN 200 p.quiet := ⟨_, rfl⟩
  rw [← hb3, ← hb4] at HTQ0
  have C3 : Hid (∀ W, Calls Tryz.prog 40 #[.int .i64 p.turn, .int .i64 0, .int .i64 1] W fun e w' => e = .returned (.bool b3) ∧ W = w') := Lib.hid (fun W => by rw [hb3]; exact turned (in_any _ _ _ _))
  have C4 : Hid (∀ W, Calls Tryz.prog 40 #[.int .i64 p.quiet, .int .i64 0, .int .i64 200] W fun e w' => e = .returned (.bool b4) ∧ W = w') := Lib.hid (fun W => by rw [hb4]; exact turned (in_any _ _ _ _))
  clear hb3 hb4
  go_wp2_with fail
  go_at_call 40; refine (C3.out _).mono ?_; rintro e w' ⟨rfl, rfl⟩
  cases b3
  · have HTQ : Hid (false = tq) := Lib.hid (by rw [HTQ0.out]; rfl)
    clear HTQ0
    go_wp2_with fail
    go_loopw [7, 9, 58] (fun v _ j V => ∃ (k : Nat) (T : Bool), k ≤ m ∧ j = .int .i64 (k : Int) ∧ v = .bool T ∧ Hid (T = (tq && (p.cells.take k).all (inN (2 * (n : Int))))) ∧ w1 = V) (fun _ _ j _ => m - (intOf j).toNat)
    case atStart => exact ⟨0, _, by omega, rfl, rfl, Lib.hid (by rw [← HTQ.out]; simp), by first | rfl | trivial⟩
    case round =>
      obtain ⟨k, T, hk, rfl, rfl, hT, rfl⟩ := hrel
      by_cases hlt : k < m
      · obtain ⟨g, o, x, rfl, hx, hcx⟩ := HAC.out k hlt
        have c0 := hcx _ HB1.out
        have HXX := Lib.hid hx
        clear hx hcx
        cases T
        · go_wp2_with fail
          go_roundw
          case rel => exact ⟨k + 1, false, by omega, by go_num, rfl, Lib.hid (by rw [all_take HXX.out, ← Bool.and_assoc, ← hT.out]; rfl), by first | rfl | trivial⟩
          case measure => simp [intOf]; omega
        · obtain ⟨b, hb⟩ : ∃ b, b = inN (2 * (n : Int)) x := ⟨_, rfl⟩
          have HIN : Hid (∀ W, Calls Tryz.prog 40 #[.int .i64 x, .int .i64 0, .int .i64 (2 * (n : Int))] W fun e w' => e = .returned (.bool b) ∧ W = w') := Lib.hid (fun W => by rw [hb]; exact turned (in_any _ _ _ _))
          have HT1 : Hid (b = (tq && (p.cells.take (k + 1)).all (inN (2 * (n : Int))))) := Lib.hid (by rw [all_take HXX.out, ← Bool.and_assoc, ← hT.out, hb]; rfl)
          clear hb
          go_wp2_with fail
          go_at_call 40; refine (HIN.out _).mono ?_; rintro e w' ⟨rfl, rfl⟩
          go_wp2_with fail
          go_roundw
          case rel => exact ⟨k + 1, b, by omega, by go_num, rfl, HT1, by first | rfl | trivial⟩
          case measure => simp [intOf]; omega
      · obtain rfl : k = m := by omega
        have HTC : Hid (T = (tq && ca)) := Lib.hid (by rw [hT.out, List.take_of_length_le (by rw [HLC.out]; exact Nat.le_refl _), HCA.out])
        clear hT
        go_wp2_with fail
        go_loopw [7, 11, 72] (fun v _ j V => ∃ (i : Nat) (T : Bool), i ≤ 2 ∧ j = .int .i64 (i : Int) ∧ v = .bool T ∧ Hid (T = (if i = 0 then (tq && ca) else if i = 1 then ((tq && ca) && h0) else (((tq && ca) && h0) && h1))) ∧ w1 = V) (fun _ _ j _ => 2 - (intOf j).toNat)
        case atStart => exact ⟨0, T, by omega, rfl, rfl, HTC, by first | rfl | trivial⟩
        case round =>
          clear HTC
          obtain ⟨i, T, hi, rfl, rfl, hT, rfl⟩ := hrel
          obtain rfl | rfl | rfl : i = 0 ∨ i = 1 ∨ i = 2 := by omega
          · have hT : Hid (T = (tq && ca)) := hT
            have hix := idx_two0 a0 a1 n c0' n c1'
            go_wp2_with fail
            go_loopw [7, 13, 77] (fun v _ j V => ∃ (k : Nat) (T : Bool), k ≤ n ∧ j = .int .i64 (k : Int) ∧ v = .bool T ∧ Hid (T = ((tq && ca) && (p.h0.take k).all (inN 1000))) ∧ w1 = V) (fun _ _ j _ => n - (intOf j).toNat)
            case atStart => exact ⟨0, T, by omega, rfl, rfl, Lib.hid (by rw [hT.out]; simp), by first | rfl | trivial⟩
            case round =>
              clear hT
              obtain ⟨k, T, hk, rfl, rfl, hT, rfl⟩ := hrel
              by_cases hlt : k < n
              · obtain ⟨g, o, x, rfl, hx, hcx⟩ := HA0.out k hlt
                have c0 := hcx _ HB1.out
                have HXX := Lib.hid hx
                clear hx hcx
                cases T
                · go_wp2_with fail
                  go_roundw
                  case rel => exact ⟨k + 1, false, by omega, by go_num, rfl, Lib.hid (by rw [all_take HXX.out, ← Bool.and_assoc, ← hT.out]; rfl), by first | rfl | trivial⟩
                  case measure => simp [intOf]; omega
                · obtain ⟨b, hb⟩ : ∃ b, b = inN 1000 x := ⟨_, rfl⟩
                  have HIN : Hid (∀ W, Calls Tryz.prog 40 #[.int .i64 x, .int .i64 0, .int .i64 1000] W fun e w' => e = .returned (.bool b) ∧ W = w') := Lib.hid (fun W => by rw [hb]; exact turned (in_any _ _ _ _))
                  have HT1 : Hid (b = ((tq && ca) && (p.h0.take (k + 1)).all (inN 1000))) := Lib.hid (by rw [all_take HXX.out, ← Bool.and_assoc, ← hT.out, hb]; rfl)
                  clear hb
                  go_wp2_with fail
                  go_at_call 40; refine (HIN.out _).mono ?_; rintro e w' ⟨rfl, rfl⟩
                  go_wp2_with fail
                  go_roundw
                  case rel => exact ⟨k + 1, b, by omega, by go_num, rfl, HT1, by first | rfl | trivial⟩
                  case measure => simp [intOf]; omega
              · obtain rfl : k = n := by omega
                have HTE : Hid (T = ((tq && ca) && p.h0.all (inN 1000))) := Lib.hid (by rw [hT.out, List.take_of_length_le (by rw [HL0.out]; exact Nat.le_refl _)])
                clear hT
                go_wp2_with fail
                go_roundw
                case rel => exact ⟨1, T, by omega, by go_num, rfl, Lib.hid (by rw [HTE.out, HH0.out]; rfl), by first | rfl | trivial⟩
                case measure => simp [intOf]
          · have hT : Hid (T = ((tq && ca) && h0)) := hT
            have hix := idx_two1 a0 a1 n c0' n c1'
            go_wp2_with fail
            go_loopw [7, 13, 77] (fun v _ j V => ∃ (k : Nat) (T : Bool), k ≤ n ∧ j = .int .i64 (k : Int) ∧ v = .bool T ∧ Hid (T = (((tq && ca) && h0) && (p.h1.take k).all (inN 1000))) ∧ w1 = V) (fun _ _ j _ => n - (intOf j).toNat)
            case atStart => exact ⟨0, T, by omega, rfl, rfl, Lib.hid (by rw [hT.out]; simp), by first | rfl | trivial⟩
            case round =>
              clear hT
              obtain ⟨k, T, hk, rfl, rfl, hT, rfl⟩ := hrel
              by_cases hlt : k < n
              · obtain ⟨g, o, x, rfl, hx, hcx⟩ := HA1.out k hlt
                have c0 := hcx _ HB1.out
                have HXX := Lib.hid hx
                clear hx hcx
                cases T
                · go_wp2_with fail
                  go_roundw
                  case rel => exact ⟨k + 1, false, by omega, by go_num, rfl, Lib.hid (by rw [all_take HXX.out, ← Bool.and_assoc, ← hT.out]; rfl), by first | rfl | trivial⟩
                  case measure => simp [intOf]; omega
                · obtain ⟨b, hb⟩ : ∃ b, b = inN 1000 x := ⟨_, rfl⟩
                  have HIN : Hid (∀ W, Calls Tryz.prog 40 #[.int .i64 x, .int .i64 0, .int .i64 1000] W fun e w' => e = .returned (.bool b) ∧ W = w') := Lib.hid (fun W => by rw [hb]; exact turned (in_any _ _ _ _))
                  have HT1 : Hid (b = (((tq && ca) && h0) && (p.h1.take (k + 1)).all (inN 1000))) := Lib.hid (by rw [all_take HXX.out, ← Bool.and_assoc, ← hT.out, hb]; rfl)
                  clear hb
                  go_wp2_with fail
                  go_at_call 40; refine (HIN.out _).mono ?_; rintro e w' ⟨rfl, rfl⟩
                  go_wp2_with fail
                  go_roundw
                  case rel => exact ⟨k + 1, b, by omega, by go_num, rfl, HT1, by first | rfl | trivial⟩
                  case measure => simp [intOf]; omega
              · obtain rfl : k = n := by omega
                have HTE : Hid (T = (((tq && ca) && h0) && p.h1.all (inN 1000))) := Lib.hid (by rw [hT.out, List.take_of_length_le (by rw [HL1.out]; exact Nat.le_refl _)])
                clear hT
                go_wp2_with fail
                go_roundw
                case rel => exact ⟨2, T, by omega, by go_num, rfl, Lib.hid (by rw [HTE.out, HH1.out]; rfl), by first | rfl | trivial⟩
                case measure => simp [intOf]
          · have hT : Hid (T = (((tq && ca) && h0) && h1)) := hT
            cases T
            · have K : Hid ((4 : Int) = placeE r p) := Lib.hid (by rw [HPE.out, HRG.out, ← hT.out]; rfl)
              go_wp2_with fail
              go_ret
              exact ⟨ret_i64 K.out, HB1.out⟩
            · have K : Hid ((0 : Int) = placeE r p) := Lib.hid (by rw [HPE.out, HRG.out, ← hT.out]; rfl)
              go_wp2_with fail
              go_ret
              exact ⟨ret_i64 K.out, HB1.out⟩
  · go_wp2_with fail
    go_at_call 40; refine (C4.out _).mono ?_; rintro e w' ⟨rfl, rfl⟩
    have HTQ : Hid (b4 = tq) := Lib.hid (by rw [HTQ0.out]; cases b4 <;> rfl)
    clear HTQ0
    go_wp2_with fail
    go_loopw [7, 9, 58] (fun v _ j V => ∃ (k : Nat) (T : Bool), k ≤ m ∧ j = .int .i64 (k : Int) ∧ v = .bool T ∧ Hid (T = (tq && (p.cells.take k).all (inN (2 * (n : Int))))) ∧ w1 = V) (fun _ _ j _ => m - (intOf j).toNat)
    case atStart => exact ⟨0, _, by omega, rfl, rfl, Lib.hid (by rw [← HTQ.out]; simp), by first | rfl | trivial⟩
    case round =>
      obtain ⟨k, T, hk, rfl, rfl, hT, rfl⟩ := hrel
      by_cases hlt : k < m
      · obtain ⟨g, o, x, rfl, hx, hcx⟩ := HAC.out k hlt
        have c0 := hcx _ HB1.out
        have HXX := Lib.hid hx
        clear hx hcx
        cases T
        · go_wp2_with fail
          go_roundw
          case rel => exact ⟨k + 1, false, by omega, by go_num, rfl, Lib.hid (by rw [all_take HXX.out, ← Bool.and_assoc, ← hT.out]; rfl), by first | rfl | trivial⟩
          case measure => simp [intOf]; omega
        · obtain ⟨b, hb⟩ : ∃ b, b = inN (2 * (n : Int)) x := ⟨_, rfl⟩
          have HIN : Hid (∀ W, Calls Tryz.prog 40 #[.int .i64 x, .int .i64 0, .int .i64 (2 * (n : Int))] W fun e w' => e = .returned (.bool b) ∧ W = w') := Lib.hid (fun W => by rw [hb]; exact turned (in_any _ _ _ _))
          have HT1 : Hid (b = (tq && (p.cells.take (k + 1)).all (inN (2 * (n : Int))))) := Lib.hid (by rw [all_take HXX.out, ← Bool.and_assoc, ← hT.out, hb]; rfl)
          clear hb
          go_wp2_with fail
          go_at_call 40; refine (HIN.out _).mono ?_; rintro e w' ⟨rfl, rfl⟩
          go_wp2_with fail
          go_roundw
          case rel => exact ⟨k + 1, b, by omega, by go_num, rfl, HT1, by first | rfl | trivial⟩
          case measure => simp [intOf]; omega
      · obtain rfl : k = m := by omega
        have HTC : Hid (T = (tq && ca)) := Lib.hid (by rw [hT.out, List.take_of_length_le (by rw [HLC.out]; exact Nat.le_refl _), HCA.out])
        clear hT
        go_wp2_with fail
        go_loopw [7, 11, 72] (fun v _ j V => ∃ (i : Nat) (T : Bool), i ≤ 2 ∧ j = .int .i64 (i : Int) ∧ v = .bool T ∧ Hid (T = (if i = 0 then (tq && ca) else if i = 1 then ((tq && ca) && h0) else (((tq && ca) && h0) && h1))) ∧ w1 = V) (fun _ _ j _ => 2 - (intOf j).toNat)
        case atStart => exact ⟨0, T, by omega, rfl, rfl, HTC, by first | rfl | trivial⟩
        case round =>
          clear HTC
          obtain ⟨i, T, hi, rfl, rfl, hT, rfl⟩ := hrel
          obtain rfl | rfl | rfl : i = 0 ∨ i = 1 ∨ i = 2 := by omega
          · have hT : Hid (T = (tq && ca)) := hT
            have hix := idx_two0 a0 a1 n c0' n c1'
            go_wp2_with fail
            go_loopw [7, 13, 77] (fun v _ j V => ∃ (k : Nat) (T : Bool), k ≤ n ∧ j = .int .i64 (k : Int) ∧ v = .bool T ∧ Hid (T = ((tq && ca) && (p.h0.take k).all (inN 1000))) ∧ w1 = V) (fun _ _ j _ => n - (intOf j).toNat)
            case atStart => exact ⟨0, T, by omega, rfl, rfl, Lib.hid (by rw [hT.out]; simp), by first | rfl | trivial⟩
            case round =>
              clear hT
              obtain ⟨k, T, hk, rfl, rfl, hT, rfl⟩ := hrel
              by_cases hlt : k < n
              · obtain ⟨g, o, x, rfl, hx, hcx⟩ := HA0.out k hlt
                have c0 := hcx _ HB1.out
                have HXX := Lib.hid hx
                clear hx hcx
                cases T
                · go_wp2_with fail
                  go_roundw
                  case rel => exact ⟨k + 1, false, by omega, by go_num, rfl, Lib.hid (by rw [all_take HXX.out, ← Bool.and_assoc, ← hT.out]; rfl), by first | rfl | trivial⟩
                  case measure => simp [intOf]; omega
                · obtain ⟨b, hb⟩ : ∃ b, b = inN 1000 x := ⟨_, rfl⟩
                  have HIN : Hid (∀ W, Calls Tryz.prog 40 #[.int .i64 x, .int .i64 0, .int .i64 1000] W fun e w' => e = .returned (.bool b) ∧ W = w') := Lib.hid (fun W => by rw [hb]; exact turned (in_any _ _ _ _))
                  have HT1 : Hid (b = ((tq && ca) && (p.h0.take (k + 1)).all (inN 1000))) := Lib.hid (by rw [all_take HXX.out, ← Bool.and_assoc, ← hT.out, hb]; rfl)
                  clear hb
                  go_wp2_with fail
                  go_at_call 40; refine (HIN.out _).mono ?_; rintro e w' ⟨rfl, rfl⟩
                  go_wp2_with fail
                  go_roundw
                  case rel => exact ⟨k + 1, b, by omega, by go_num, rfl, HT1, by first | rfl | trivial⟩
                  case measure => simp [intOf]; omega
              · obtain rfl : k = n := by omega
                have HTE : Hid (T = ((tq && ca) && p.h0.all (inN 1000))) := Lib.hid (by rw [hT.out, List.take_of_length_le (by rw [HL0.out]; exact Nat.le_refl _)])
                clear hT
                go_wp2_with fail
                go_roundw
                case rel => exact ⟨1, T, by omega, by go_num, rfl, Lib.hid (by rw [HTE.out, HH0.out]; rfl), by first | rfl | trivial⟩
                case measure => simp [intOf]
          · have hT : Hid (T = ((tq && ca) && h0)) := hT
            have hix := idx_two1 a0 a1 n c0' n c1'
            go_wp2_with fail
            go_loopw [7, 13, 77] (fun v _ j V => ∃ (k : Nat) (T : Bool), k ≤ n ∧ j = .int .i64 (k : Int) ∧ v = .bool T ∧ Hid (T = (((tq && ca) && h0) && (p.h1.take k).all (inN 1000))) ∧ w1 = V) (fun _ _ j _ => n - (intOf j).toNat)
            case atStart => exact ⟨0, T, by omega, rfl, rfl, Lib.hid (by rw [hT.out]; simp), by first | rfl | trivial⟩
            case round =>
              clear hT
              obtain ⟨k, T, hk, rfl, rfl, hT, rfl⟩ := hrel
              by_cases hlt : k < n
              · obtain ⟨g, o, x, rfl, hx, hcx⟩ := HA1.out k hlt
                have c0 := hcx _ HB1.out
                have HXX := Lib.hid hx
                clear hx hcx
                cases T
                · go_wp2_with fail
                  go_roundw
                  case rel => exact ⟨k + 1, false, by omega, by go_num, rfl, Lib.hid (by rw [all_take HXX.out, ← Bool.and_assoc, ← hT.out]; rfl), by first | rfl | trivial⟩
                  case measure => simp [intOf]; omega
                · obtain ⟨b, hb⟩ : ∃ b, b = inN 1000 x := ⟨_, rfl⟩
                  have HIN : Hid (∀ W, Calls Tryz.prog 40 #[.int .i64 x, .int .i64 0, .int .i64 1000] W fun e w' => e = .returned (.bool b) ∧ W = w') := Lib.hid (fun W => by rw [hb]; exact turned (in_any _ _ _ _))
                  have HT1 : Hid (b = (((tq && ca) && h0) && (p.h1.take (k + 1)).all (inN 1000))) := Lib.hid (by rw [all_take HXX.out, ← Bool.and_assoc, ← hT.out, hb]; rfl)
                  clear hb
                  go_wp2_with fail
                  go_at_call 40; refine (HIN.out _).mono ?_; rintro e w' ⟨rfl, rfl⟩
                  go_wp2_with fail
                  go_roundw
                  case rel => exact ⟨k + 1, b, by omega, by go_num, rfl, HT1, by first | rfl | trivial⟩
                  case measure => simp [intOf]; omega
              · obtain rfl : k = n := by omega
                have HTE : Hid (T = (((tq && ca) && h0) && p.h1.all (inN 1000))) := Lib.hid (by rw [hT.out, List.take_of_length_le (by rw [HL1.out]; exact Nat.le_refl _)])
                clear hT
                go_wp2_with fail
                go_roundw
                case rel => exact ⟨2, T, by omega, by go_num, rfl, Lib.hid (by rw [HTE.out, HH1.out]; rfl), by first | rfl | trivial⟩
                case measure => simp [intOf]
          · have hT : Hid (T = (((tq && ca) && h0) && h1)) := hT
            cases T
            · have K : Hid ((4 : Int) = placeE r p) := Lib.hid (by rw [HPE.out, HRG.out, ← hT.out]; rfl)
              go_wp2_with fail
              go_ret
              exact ⟨ret_i64 K.out, HB1.out⟩
            · have K : Hid ((0 : Int) = placeE r p) := Lib.hid (by rw [HPE.out, HRG.out, ← hT.out]; rfl)
              go_wp2_with fail
              go_ret
              exact ⟨ret_i64 K.out, HB1.out⟩

theorem placeErr_any (r : RulesD) (p : PlaceD) (vp vs ve vc v0 v1 : Value) (w : World) (hr : RulesIn w r vp vs ve) (hf : LettersFit r.pieces) (hp : PlaceIn w p vc v0 v1) :
    Calls Tryz.prog 39 #[RulesV r vp vs ve, PlaceV p vc v0 v1] w (BelPost (.int .i64 (placeE r p)) w) := by
  by_cases hz : rulesE r = 0
  · cases hff : formB r p
    · exact placeErr_form r p vp vs ve vc v0 v1 w hr hf hp (.inr hff)
    · exact placeErr_num r p vp vs ve vc v0 v1 w hr hf hp hz hff
  · exact placeErr_form r p vp vs ve vc v0 v1 w hr hf hp (.inl hz)
end Go.Proofs.YtdhhdkbnlddnbaaGreatDoor
