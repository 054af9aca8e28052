/- gamehallref1.pieceError: the error of a type of pieces. -/
import Derived.Test.YtakekeljndofcaaDoorCheckR
import Derived.Test.YtakekeljndofcaaDoorNamed
set_option maxRecDepth 100000
namespace Go.Proofs.YtakekeljndofcaaDoor
open Go.ChangeShapes Go.WideShapes Go.ChangeAt Go.RowKit

def BoxPc (W : World) (b : Nat) (x : PieceD) (u : Value) : Prop :=
  W.cell? ⟨b, 0, none⟩ = some (.int .u8 x.letter) ∧ W.cell? ⟨b, 1, none⟩ = some (.int .i64 x.hand) ∧ W.cell? ⟨b, 2, none⟩ = some (.int .i64 x.promote) ∧ W.cell? ⟨b, 3, none⟩ = some u
theorem BoxPc.below {W W' : World} {b : Nat} {x : PieceD} {u : Value} (h : BoxPc W b x u) {n : Nat} (hb : Below n W W') (hn : W.heap.size ≤ n) : BoxPc W' b x u :=
  ⟨cell_keeps hb hn h.1, cell_keeps hb hn h.2.1, cell_keeps hb hn h.2.2.1, cell_keeps hb hn h.2.2.2⟩
theorem all_step {α : Type} {p : α → Bool} {xs : List α} {k : Nat} {x : α} (hx : xs[k]? = some x) (h : (xs.take k).all p = true) (h2 : p x = true) : (xs.take (k + 1)).all p = true := by
  rw [List.take_add_one, List.all_append, h, hx]; simp [h2]
theorem all_no {α : Type} {p : α → Bool} {xs : List α} {k : Nat} {x : α} (hx : xs[k]? = some x) (h2 : p x = false) : xs.all p = false := by
  rw [Bool.eq_false_iff]; intro h
  rw [List.all_eq_true] at h
  rw [h x (List.mem_of_getElem? hx)] at h2; cases h2
theorem wayB_parts {x : WayD} (h : wayB x = true) : inB x.dx (-7) 7 = true ∧ inB x.dy (-7) 7 = true ∧ ((x.dx == 0) = false ∨ (x.dx == 0) = true ∧ (x.dy == 0) = false) ∧ inB x.most 1 7 = true ∧ inB x.take 0 2 = true := by
  simp only [wayB, Bool.and_eq_true] at h
  obtain ⟨h1, h2, h3, h4, h5⟩ := h
  refine ⟨h1, h2, ?_, h4, h5⟩
  by_cases e : x.dx = 0
  · exact .inr ⟨by simpa using e, by simpa [e] using h3⟩
  · exact .inl (by simpa using e)
set_option maxRecDepth 100000 in
set_option maxHeartbeats 4000000 in
theorem pieceError_any (ps : List PieceD) (v : Value) (k : Nat) (x : PieceD) (w : World) (hv : IsSl PieceAt 4 w v ps) (hx : ps[k]? = some x) (hf : LettersFit ps) (hl : ps.length ≤ 6) :
    Calls Tryd.prog 25 #[v, .int .i64 (k : Int)] w (BelPost (.int .i64 (pieceE x (ps.take k) ps.length)) w) := by
  obtain ⟨n, hn⟩ : ∃ n : Nat, n = ps.length := ⟨_, rfl⟩
  have hkn : k < n := by rw [hn]; exact (List.getElem?_eq_some_iff.1 hx).1
  obtain ⟨a, cp, rfl, hcp, hcell⟩ := hv.shape hn
  obtain ⟨g, off, x', rfl, hx', hq⟩ := hcell k hkn
  obtain rfl : x = x' := Option.some.inj (hx.symm.trans hx')
  obtain ⟨u, c0, c1, c2, c3, hu⟩ := hq
  obtain ⟨m, hm⟩ : ∃ m : Nat, m = x.ways.length := ⟨_, rfl⟩
  obtain ⟨au, cu, rfl, _, hways⟩ := hu.shape hm
  obtain ⟨hl0, hl1⟩ := hf x (List.mem_of_getElem? hx)
  have hfit := hu.fit
  rw [← hm] at hfit
  rw [← hn] at hl ⊢
  have HC : Hid _ := Lib.hid hcell
  have HWY : Hid _ := Lib.hid hways
  have HM : Hid _ := Lib.hid hm
  have HX : Hid _ := Lib.hid hx
  have HN : Hid _ := Lib.hid hn
  have HB0 : Hid (Below w.heap.size w (w.alloc (.cells #[.int .u8 x.letter, .int .i64 x.hand, .int .i64 x.promote, .slice au m cu] 45))) := Lib.hid ((Below.refl _ _).alloc (Nat.le_refl _) _)
  have HX0 : Hid (BoxPc (w.alloc (.cells #[.int .u8 x.letter, .int .i64 x.hand, .int .i64 x.promote, .slice au m cu] 45)) w.heap.size x (.slice au m cu)) := Lib.hid (cells4_new w _ _ _ _ _ _ (Below.refl _ _))
  clear hcell hways hm hx hx' hn hv hu hf
  go_enter Tryd.func25, Tryd.ntmps25
  go_wp2_with fail
  go_at_call 21; refine (turned (in_any _ _ _ _)).mono ?_; rintro e w' ⟨rfl, rfl⟩
  cases h1 : inB x.letter 65 90
  · have K : Hid ((6 : Int) = pieceE x (ps.take k) n) := Lib.hid (by simp [pieceE, capB, h1])
    clear h1
    go_wp2_with fail
    go_ret
    exact ⟨ret_i64 K.out, HB0.out⟩
  · have K1 : Hid (capB x.letter = true) := Lib.hid h1
    clear h1 c0 c1 c2 c3
    go_wp2_with fail
    go_loopw [6, 19] (fun _ i wr => ∃ j : Nat, j ≤ k ∧ i = .int .i64 (j : Int) ∧ Hid ((ps.take j).any (fun y => decide (y.letter = x.letter)) = false) ∧ Hid (BoxPc wr w.heap.size x (.slice au m cu)) ∧ Hid (Below w.heap.size w wr)) (fun _ i _ => k - (intOf i).toNat)
    case atStart => exact ⟨0, by omega, rfl, Lib.hid rfl, HX0, HB0⟩
    case round =>
      clear HX0 HB0
      obtain ⟨j, hj, rfl, hany, hbx, hbel⟩ := hrel
      by_cases hlt : j < k
      · obtain ⟨g', off', y, hg, hy, hq⟩ := HC.out j (by omega)
        simp only [Option.some.injEq, Addr.mk.injEq] at hg
        obtain ⟨rfl, rfl, _⟩ := hg
        obtain ⟨u, c0, _, _, _, _⟩ := piece_keeps _ _ _ _ _ _ hbel.out (Nat.le_refl _) hq
        obtain ⟨b0, _, _, _⟩ := hbx.out
        have HY : Hid _ := Lib.hid hy
        clear hq hy HC
        by_cases hsame : y.letter = x.letter
        · have K : Hid ((7 : Int) = pieceE x (ps.take k) n) := Lib.hid (by
            have : (ps.take k).any (fun y => decide (y.letter = x.letter)) = true := List.any_eq_true.2 ⟨y, List.mem_of_getElem? (i := j) (by rw [List.getElem?_take, if_pos hlt]; exact HY.out), by simpa using hsame⟩
            simp [pieceE, K1.out, this])
          rw [hsame] at c0
          clear hsame
          go_wp2_with fail
          go_quiet (fail)
          go_wp2_with fail
          go_ret
          exact ⟨ret_i64 K.out, below_drewN hbel.out _⟩
        · have K : Hid ((ps.take (j + 1)).any (fun y => decide (y.letter = x.letter)) = false) := Lib.hid (any_step HY.out hany.out (by simpa using hsame))
          have hne : (y.letter == x.letter) = false := by simpa using hsame
          clear hsame
          go_wp2_with fail
          go_quiet (fail)
          go_wp2_with fail
          go_roundw
          case rel => exact ⟨j + 1, by omega, by go_num, K, Lib.hid (hbx.out.below (below_drewN (Below.refl wr.heap.size wr) _) (Nat.le_refl _)), Lib.hid (below_drewN hbel.out _)⟩
          case measure => simp [intOf]; omega
      · obtain rfl : k = j := by omega
        have K2 : Hid _ := Lib.hid hany.out
        obtain ⟨b0, b1, b2, b3⟩ := hbx.out
        clear HC hany
        go_wp2_with fail
        go_at_call 21; refine (turned (in_any _ _ _ _)).mono ?_; rintro e w' ⟨rfl, rfl⟩
        cases h3 : (inB x.hand 0 64 && inB x.promote 0 n)
        · have K : Hid ((4 : Int) = pieceE x (ps.take k) n) := Lib.hid (by simp only [pieceE, K1.out, K2.out, h3]; rfl)
          cases h4 : inB x.hand 0 64
          · clear h3 h4
            go_wp2_with fail
            go_ret
            exact ⟨ret_i64 K.out, hbel.out⟩
          · have K5 : Hid (inB x.promote 0 n = false) := Lib.hid (by rw [h4] at h3; simpa using h3)
            clear h3 h4
            go_wp2_with fail
            go_at_call 21; refine (turned (in_any _ _ _ _)).mono ?_; rintro e w' ⟨rfl, rfl⟩
            rw [K5.out]
            go_wp2_with fail
            go_ret
            exact ⟨ret_i64 K.out, hbel.out⟩
        · have K3 : Hid _ := Lib.hid h3
          rw [Bool.and_eq_true] at h3
          have K4 : Hid _ := Lib.hid h3
          clear h3
          rw [K4.out.1]
          go_wp2_with fail
          go_at_call 21; refine (turned (in_any _ _ _ _)).mono ?_; rintro e w' ⟨rfl, rfl⟩
          rw [K4.out.2]
          by_cases h5 : 16 < m
          · have K : Hid ((2 : Int) = pieceE x (ps.take k) n) := Lib.hid (by simp [pieceE, K1.out, K2.out, K3.out, ← HM.out, h5])
            go_wp2_with fail
            go_ret
            exact ⟨ret_i64 K.out, hbel.out⟩
          · have K6 : Hid (pieceE x (ps.take k) n = if x.ways.all wayB = false then 4 else 0) := Lib.hid (by rw [pieceE, K1.out, K2.out, K3.out, ← HM.out, if_neg h5]; rfl)
            clear K1 K2 K3 K4
            go_wp2_with fail
            obtain ⟨wo, rfl⟩ : ∃ wo : World, wo = wr := ⟨_, rfl⟩
            go_loopw [8, 50] (fun _ i w9 => ∃ q : Nat, q ≤ m ∧ i = .int .i64 (q : Int) ∧ Hid ((x.ways.take q).all wayB = true) ∧ Hid (Below w.heap.size w w9)) (fun _ i _ => m - (intOf i).toNat)
            case atStart => exact ⟨0, by omega, rfl, Lib.hid rfl, hbel⟩
            case round =>
              clear b0 b1 b2 b3 hbel hbx
              obtain ⟨q, hq, rfl, hall, hbel⟩ := hrel
              by_cases hlt : q < m
              · obtain ⟨g2, off2, y, rfl, hy, hqq⟩ := HWY.out q hlt
                obtain ⟨c0, c1, c2, c3⟩ := way_keeps _ _ _ _ _ _ hbel.out (Nat.le_refl _) hqq
                have HY : Hid _ := Lib.hid hy
                clear hqq hy HWY
                cases hb : wayB y
                · have K : Hid ((4 : Int) = pieceE x (ps.take k) n) := Lib.hid (by rw [K6.out, if_pos (all_no HY.out hb)])
                  have KB : Hid _ := Lib.hid hb
                  clear hb
                  go_wp2_with (go_at_call 21; refine (turned (in_any _ _ _ _)).mono ?_; rintro e w' ⟨rfl, rfl⟩)
                  all_goals first
                    | (go_ret; exact ⟨ret_i64 K.out, hbel.out.alloc hbel.out.size _⟩)
                    | (exfalso; have := KB.out; simp_all [wayB]; done)
                · have K : Hid ((x.ways.take (q + 1)).all wayB = true) := Lib.hid (all_step HY.out hall.out hb)
                  have HB : Hid (Below w.heap.size w (wr.alloc (.cells #[.int .i64 y.dx, .int .i64 y.dy, .int .i64 y.most, .int .i64 y.take] 72))) := Lib.hid (hbel.out.alloc hbel.out.size _)
                  obtain ⟨p1, p2, p3, p4, p5⟩ := wayB_parts hb
                  clear hb
                  rcases p3 with p3 | ⟨p3, p6⟩
                  all_goals
                    go_wp2_with (go_at_call 21; refine (turned (in_any _ _ _ _)).mono ?_; rintro e w' ⟨rfl, rfl⟩)
                    go_roundw
                    case rel => exact ⟨q + 1, by omega, by go_num, K, HB⟩
                    case measure => simp [intOf]; omega
              · have K : Hid ((0 : Int) = pieceE x (ps.take k) n) := Lib.hid (by
                  have h := hall.out
                  rw [List.take_of_length_le (by have := HM.out; omega)] at h
                  rw [K6.out, h]; rfl)
                go_wp2_with fail
                go_ret
                exact ⟨ret_i64 K.out, hbel.out⟩
end Go.Proofs.YtakekeljndofcaaDoor
