/- ruletext's parser: piece, cell. -/
import Derived.Test.YtjfkecadfnepjaaGreatDoorParC
set_option maxRecDepth 100000
namespace Go.Proofs.YtjfkecadfnepjaaGreatDoor
open Go.ChangeShapes Go.WideShapes Go.ChangeAt Go.RowKit

set_option maxHeartbeats 1000000 in
theorem idxPieces (ps : List PieceD) (y : List UInt8) (v : Value) (wb : Nat) (w : World) (hv : IsSl PieceAt 4 w v ps) (hl : ps.length ≤ 9000) (hf : LettersFit ps) (hb : w.cell? ⟨wb, 0, none⟩ = some (.string (str y))) :
    Calls Tryz.prog 91 #[v, .func (.func 92) #[] #[.pointer (some ⟨wb, 0, none⟩)]] w (BelPost (.int .i64 (optI (idxV (fun q => lettB q == y) ps))) w) := by
  obtain ⟨n, hn⟩ : ∃ n : Nat, n = ps.length := ⟨_, rfl⟩
  obtain ⟨a, cp, rfl, _, hcell⟩ := hv.shape hn
  have HN : Hid _ := Lib.hid hn
  have HC : Hid _ := Lib.hid hcell
  have HP : Hid (∀ (x : PieceD) (u : Value) W, x ∈ ps → Below w.heap.size w W → Calls Tryz.prog 92 #[.agg #[.int .u8 x.letter, .int .i64 x.hand, .int .i64 x.promote, u], .pointer (some ⟨wb, 0, none⟩)] W (BelPost (.bool (lettB x == y)) W)) := Lib.hid (fun x u W hx hW => pieceFn_any x u y wb W (hf x hx).1 (hf x hx).2 (cell_keeps hW (Nat.le_refl _) hb))
  rw [← hn] at hl
  clear hcell hn hv hf hb
  go_enter Tryz.func91, Tryz.ntmps91
  go_wp2
  go_loopw [8] (fun i wr => ∃ k : Nat, k ≤ n ∧ i = .int .i64 (k : Int) ∧ Hid (∀ j q, j < k → ps[j]? = some q → (lettB q == y) = false) ∧ Hid (Below w.heap.size w wr)) (fun i _ => n - (intOf i).toNat)
  case atStart => exact ⟨0, by omega, rfl, Lib.hid (fun j q hj => absurd hj (Nat.not_lt_zero _)), Lib.hid (Below.refl _ _)⟩
  case round =>
    obtain ⟨k, hk, rfl, hall, hbel⟩ := hrel
    by_cases hlt : k < n
    · obtain ⟨g, off, x, rfl, hx, u, c0, c1, c2, c3, -⟩ := HC.out k hlt
      have c0 := cell_keeps hbel.out (Nat.le_refl _) c0
      have c1 := cell_keeps hbel.out (Nat.le_refl _) c1
      have c2 := cell_keeps hbel.out (Nat.le_refl _) c2
      have c3 := cell_keeps hbel.out (Nat.le_refl _) c3
      have HX : Hid _ := Lib.hid hx
      have HQ : Hid _ := Lib.hid (HP.out x u wr (List.mem_of_getElem? hx) hbel.out)
      clear hx HC HP
      cases hpx : (lettB x == y)
      · rw [hpx] at HQ
        have KP : Hid _ := Lib.hid hpx
        clear hpx
        go_wp2_with fail
        go_at_call 92; refine HQ.out.mono ?_; rintro e w2 ⟨rfl, hb2⟩
        have HB : Hid (Below w.heap.size w w2) := Lib.hid (hbel.out.trans (hb2.mono hbel.out.size))
        clear hb2
        go_wp2_with fail
        go_roundw
        case rel =>
          refine ⟨k + 1, by omega, by go_num, Lib.hid (fun j q hj hq => ?_), HB⟩
          by_cases hjk : j < k
          · exact hall.out j q hjk hq
          · obtain rfl : k = j := by omega
            rw [HX.out] at hq
            obtain rfl := Option.some.inj hq
            exact KP.out
        case measure => simp [intOf]; omega
      · rw [hpx] at HQ
        have KP : Hid ((k : Int) = optI (idxV (fun q => lettB q == y) ps)) := Lib.hid (by rw [findIdx_at HX.out hpx (fun j q hj hq => hall.out j q hj hq)]; rfl)
        clear hpx
        go_wp2_with fail
        go_at_call 92; refine HQ.out.mono ?_; rintro e w2 ⟨rfl, hb2⟩
        have HB : Hid (Below w.heap.size w w2) := Lib.hid (hbel.out.trans (hb2.mono hbel.out.size))
        clear hb2
        go_wp2_with fail
        go_ret
        exact ⟨ret_i64 KP.out, HB.out⟩
    · have KP : Hid ((-1 : Int) = optI (idxV (fun q => lettB q == y) ps)) := Lib.hid (by
        rw [idxV_none (fun i q hq => hall.out i q (by have := (List.getElem?_eq_some_iff.1 hq).1; have := HN.out; omega) hq)]; rfl)
      go_wp2_with fail
      go_ret
      exact ⟨ret_i64 KP.out, hbel.out⟩
set_option maxHeartbeats 1000000 in
theorem piece_par (B b : Nat) (x : List UInt8) (ps : List PieceD) (v : Value) (s : PS) (w : World) (h : PAt w b s) (hv : IsSl PieceAt 4 w v ps) (hl : ps.length ≤ 9000) (hf : LettersFit ps) (hB : B ≤ b) :
    Calls Tryz.prog 70 #[.pointer (some ⟨b, 0, none⟩), .string (str x), v] w (ParPost B b (.int .i64 (pieceM x ps s).1) (pieceM x ps s).2 w) := by
  obtain ⟨i, hi⟩ : ∃ i, i = optI (idxV (fun q => lettB q == x) ps) := ⟨_, rfl⟩
  obtain ⟨X, hX⟩ : ∃ X, X = str x := ⟨_, rfl⟩
  have hb0 := (Below.refl w.heap.size w).alloc (Nat.le_refl _) (.cells #[.string X] 9)
  have HI : Hid (Calls Tryz.prog 91 #[v, .func (.func 92) #[] #[.pointer (some ⟨w.heap.size, 0, none⟩)]] (w.alloc (.cells #[.string X] 9)) (BelPost (.int .i64 i) (w.alloc (.cells #[.string X] 9)))) := Lib.hid (by
    rw [hi]
    refine idxPieces ps x v w.heap.size _ (hv.below piece_keeps hb0 (Nat.le_refl _)) hl hf ?_
    rw [cell_of_row _ w.heap.size 0 _ _ (0, 0) (heap_alloc_new w _), hX]; rfl)
  have HB0 := Lib.hid hb0
  have HP := Lib.hid h
  obtain ⟨k0, k1⟩ := optI_ge (fun q => lettB q == x) ps
  rw [← hi] at k0 k1
  have k2 : i ≤ 9000 := by omega
  have HQ := Lib.hid hi
  obtain ⟨a, cp, rfl, -, -⟩ := hv.shape (n := ps.length) rfl
  obtain ⟨n, hn⟩ : ∃ n, n = ps.length := ⟨_, rfl⟩
  rw [← hn] at HI ⊢
  rw [← hX]
  clear h hv hl hf hX hi k1 hb0 hn
  go_enter Tryz.func70, Tryz.ntmps70
  go_wp2_with fail
  go_at_call 91; refine HI.out.mono ?_; rintro e w1 ⟨rfl, hb1⟩
  have HP1 := Lib.hid (HP.out.keepB hB (HB0.out.trans (hb1.mono HB0.out.size)))
  clear hb1
  obtain ⟨u, bad, c0, c1, f1⟩ := bad_at HP1.out.1
  rcases Int.lt_or_le i 0 with hneg | hpos
  · have HM : Hid (pieceM x ps s = (0, failS s)) := Lib.hid (optM_none (optI_lt (by rw [← HQ.out]; exact hneg)) s)
    go_wp2_with fail
    go_ret
    rw [HM.out]
    exact par_fail hB HP1.out.1 HP1.out.2
  · have HM : Hid (pieceM x ps s = (i, s)) := Lib.hid (by rw [HQ.out]; exact optM_some (optI_nn (by rw [← HQ.out]; exact hpos)) s)
    go_wp2_with fail
    go_ret
    rw [HM.out]
    exact ⟨rfl, HP1.out.1, HP1.out.2⟩
theorem cellGo_at {c : UInt8} {ps : List PieceD} {k : Nat} {x : PieceD} (hx : ps[k]? = some x) : cellGo c (ps.drop k) k = if (c.toNat : Int) = x.letter then some (2 * (k : Int) + 1) else if (97 ≤ c.toNat ∧ c.toNat ≤ 122) ∧ (c.toNat : Int) = (x.letter + 32) % 256 then some (2 * (k : Int) + 2) else cellGo c (ps.drop (k + 1)) (k + 1) := by
  obtain ⟨h1, h2⟩ := List.getElem?_eq_some_iff.1 hx
  rw [List.drop_eq_getElem_cons h1, h2]; rfl
set_option maxHeartbeats 2000000 in
theorem cell_par (B b : Nat) (c : UInt8) (ps : List PieceD) (v : Value) (s : PS) (w : World) (h : PAt w b s) (hv : IsSl PieceAt 4 w v ps) (hl : ps.length ≤ 9000) (hf : LettersFit ps) (hB : B ≤ b) :
    Calls Tryz.prog 71 #[.pointer (some ⟨b, 0, none⟩), .int .u8 c.toNat, v] w (ParPost B b (.int .i64 (cellM c ps s).1) (cellM c ps s).2 w) := by
  obtain ⟨n, hn⟩ : ∃ n : Nat, n = ps.length := ⟨_, rfl⟩
  obtain ⟨a, cp, rfl, _, hcell⟩ := hv.shape hn
  have HN : Hid _ := Lib.hid hn
  have HC : Hid _ := Lib.hid hcell
  have HP := Lib.hid h
  have HF := Lib.hid hf
  obtain ⟨C, hC⟩ : ∃ C : Int, C = (c.toNat : Int) := ⟨_, rfl⟩
  have C0 : 0 ≤ C := by omega
  have C1 : C ≤ 255 := by have := c.toNat_lt; omega
  rw [← hn] at hl
  rw [← hC]
  by_cases h46 : c = 46
  · have e46 : C = 46 := by rw [hC, h46]; rfl
    have HM : Hid (cellM c ps s = (0, s)) := Lib.hid (by rw [cellM, cellV, if_pos h46]; rfl)
    subst e46
    clear hcell hn hv hf h hC h46
    go_enter Tryz.func71, Tryz.ntmps71
    go_wp2_with fail
    go_ret
    rw [HM.out]
    exact ⟨rfl, HP.out, Fr.refl _ _ _⟩
  · have e46 : C ≠ 46 := by
      intro e
      apply h46
      apply UInt8.toNat_inj.1
      show c.toNat = 46
      omega
    have HM : Hid (cellM c ps s = optM (cellGo c (ps.drop 0) 0) s) := Lib.hid (by rw [cellM, cellV, if_neg h46]; rfl)
    have HCC := Lib.hid hC
    clear hcell hn hv hf h hC h46
    go_enter Tryz.func71, Tryz.ntmps71
    go_wp2_with fail
    go_loopw [7, 8, 13, 18, 27] (fun _ _ i _ _ wr => ∃ k : Nat, k ≤ n ∧ i = .int .i64 (k : Int) ∧ Hid (cellM c ps s = optM (cellGo c (ps.drop k) k) s) ∧ Hid (Below w.heap.size w wr)) (fun _ _ i _ _ _ => n - (intOf i).toNat)
    case atStart => exact ⟨0, by omega, rfl, HM, Lib.hid (Below.refl _ _)⟩
    case round =>
      clear HM
      obtain ⟨k, hk, rfl, hinv, hbel⟩ := hrel
      by_cases hlt : k < n
      · obtain ⟨g, off, x, rfl, hx, u, c0, c1, c2, c3, hu⟩ := HC.out k hlt
        obtain ⟨nw, hnw⟩ : ∃ nw, nw = x.ways.length := ⟨_, rfl⟩
        obtain ⟨aw, cw, rfl, -, -⟩ := hu.shape hnw
        have c0 := cell_keeps hbel.out (Nat.le_refl _) c0
        have c1 := cell_keeps hbel.out (Nat.le_refl _) c1
        have c2 := cell_keeps hbel.out (Nat.le_refl _) c2
        have c3 := cell_keeps hbel.out (Nat.le_refl _) c3
        have hfx := HF.out x (List.mem_of_getElem? hx)
        have l0 := hfx.1
        have l1 := hfx.2
        have HX : Hid _ := Lib.hid (cellGo_at (c := c) hx)
        clear hx HC hfx hu hnw
        have hba := (Below.refl wr.heap.size wr).alloc (Nat.le_refl _) (.cells #[.int .u8 x.letter, .int .i64 x.hand, .int .i64 x.promote, .slice aw nw cw] 58)
        have HBA : Hid (Below w.heap.size w (wr.alloc (.cells #[.int .u8 x.letter, .int .i64 x.hand, .int .i64 x.promote, .slice aw nw cw] 58))) := Lib.hid (hbel.out.trans (hba.mono hbel.out.size))
        clear hba
        rcases Bool.eq_false_or_eq_true (C == x.letter) with e1 | e1
        · have HM : Hid (cellM c ps s = (2 * (k : Int) + 1, s)) := Lib.hid (by rw [hinv.out, HX.out, if_pos (by rw [← HCC.out]; exact beq_iff_eq.1 e1)]; rfl)
          go_wp2_with fail
          go_ret
          rw [HM.out]
          have hk2 := HP.out.keepB hB HBA.out
          exact ⟨rfl, hk2.1, hk2.2⟩
        · have n1 : ¬ (c.toNat : Int) = x.letter := by rw [← HCC.out]; exact beq_eq_false_iff_ne.1 e1
          by_cases hr : 97 ≤ C ∧ C ≤ 122
          · obtain ⟨r0, r1⟩ := hr
            rcases Bool.eq_false_or_eq_true (C == (x.letter + 32) % 256) with e2 | e2
            · have HM : Hid (cellM c ps s = (2 * (k : Int) + 1 + 1, s)) := Lib.hid (by
                rw [hinv.out, HX.out, if_neg n1, if_pos ⟨by have := HCC.out; omega, by rw [← HCC.out]; exact beq_iff_eq.1 e2⟩, Int.add_assoc]; rfl)
              clear n1
              go_wp2_with fail
              go_ret
              rw [HM.out]
              have hk2 := HP.out.keepB hB HBA.out
              exact ⟨rfl, hk2.1, hk2.2⟩
            · have HM : Hid (cellM c ps s = optM (cellGo c (ps.drop (k + 1)) (k + 1)) s) := Lib.hid (by
                rw [hinv.out, HX.out, if_neg n1, if_neg (fun h => by have := h.2; rw [← HCC.out] at this; exact beq_eq_false_iff_ne.1 e2 this)])
              clear n1
              go_wp2_with fail
              go_roundw
              case rel => exact ⟨k + 1, by omega, by go_num, HM, HBA⟩
              case measure => simp [intOf]; omega
          · have HM : Hid (cellM c ps s = optM (cellGo c (ps.drop (k + 1)) (k + 1)) s) := Lib.hid (by
              rw [hinv.out, HX.out, if_neg n1, if_neg (fun h => hr (by have := h.1; have := HCC.out; omega))])
            clear n1
            rcases Int.lt_or_le C 97 with r0 | r0
            · clear hr
              go_wp2_with fail
              refine ⟨⟨_, _, _, _, ⟨k + 1, by omega, rfl, HM⟩, rfl, rfl, rfl, by simp⟩, by simp [intOf]; omega⟩
            · have r1 : 122 < C := by omega
              clear hr
              go_wp2_with fail
              refine ⟨⟨_, _, _, _, ⟨k + 1, by omega, rfl, HM⟩, rfl, rfl, rfl, by simp⟩, by simp [intOf]; omega⟩
      · have HM : Hid (cellM c ps s = (0, failS s)) := Lib.hid (by
          rw [hinv.out, List.drop_eq_nil_of_le (by have := HN.out; omega)]; rfl)
        have HK2 := Lib.hid (HP.out.keepB hB hbel.out)
        obtain ⟨u, bad, c0, c1, f1⟩ := bad_at HK2.out.1
        go_wp2_with fail
        go_ret
        rw [HM.out]
        exact par_fail hB HK2.out.1 HK2.out.2
end Go.Proofs.YtjfkecadfnepjaaGreatDoor
