/- ruletext's rows: what the cells hold at first, from the last row down. -/
import Derived.Test.YtomclohfppbegaaGreatDoorPcs
import Derived.Test.YtomclohfppbegaaGreatDoorRulA
import Derived.Test.YtomclohfppbegaaGreatDoorRulB
import Derived.Laws.IdiomStrings
import Derived.StillTailTactics
set_option maxRecDepth 100000
namespace Go.Proofs.YtomclohfppbegaaGreatDoor
open Go.ChangeShapes Go.WideShapes Go.ChangeAt Go.RowKit

/-- A row of which the first j cells are written. -/
def rowTo (ps : List PieceD) (st : List Int) (W y j : Nat) : List UInt8 := (List.range W).map fun x => if x < j then cellB ps (st[y * W + x]?.getD 0) else 0
def bytesV (l : List UInt8) : List Value := l.map fun c => .int .u8 (c.toNat : Int)
theorem rowTo_len (ps : List PieceD) (st : List Int) (W y j : Nat) : (bytesV (rowTo ps st W y j)).length = W := by simp [bytesV, rowTo]
theorem rowTo_zero (ps : List PieceD) (st : List Int) (W y : Nat) : bytesV (rowTo ps st W y 0) = List.replicate W (.int .u8 0) := by
  apply List.ext_getElem
  · simp [bytesV, rowTo]
  · intro i h1 h2; simp [bytesV, rowTo]
theorem rowTo_full (ps : List PieceD) (st : List Int) (W y : Nat) : rowTo ps st W y W = rowB ps st W y := by
  unfold rowTo rowB
  apply List.map_congr_left
  intro x hx
  rw [if_pos (by simpa using hx)]
theorem rowTo_set (ps : List PieceD) (st : List Int) (W y j : Nat) {c : Int} (hc : st[y * W + j]? = some c) : (bytesV (rowTo ps st W y j)).set j (.int .u8 ((cellB ps c).toNat : Int)) = bytesV (rowTo ps st W y (j + 1)) := by
  apply List.ext_getElem
  · simp [bytesV, rowTo]
  · intro p h1 h2
    rw [List.getElem_set]
    by_cases e : j = p
    · subst e
      rw [if_pos rfl]
      simp [bytesV, rowTo, hc]
    · rw [if_neg e]
      simp only [bytesV, rowTo, List.map_map, List.getElem_map, List.getElem_range, Function.comp]
      by_cases h4 : p < j
      · rw [if_pos h4, if_pos (by omega)]
      · rw [if_neg h4, if_neg (by omega)]
theorem rowB_len (ps : List PieceD) (st : List Int) (W y : Nat) : (rowB ps st W y).length = W := by simp [rowB]
theorem rowL_len (ps : List PieceD) (st : List Int) (W y : Nat) : (rowL ps st W y).length = W + 5 := by
  simp only [rowL, lineB_cons, lineB_one, List.length_append, List.length_cons, List.length_nil, rowB_len]; omega
theorem rowsL_len (ps : List PieceD) (st : List Int) (W : Nat) : ∀ k, (rowsL ps st W k).length = k * (W + 5)
  | 0 => by simp [rowsL]
  | k + 1 => by rw [rowsL, List.length_append, rowL_len, rowsL_len ps st W k, Nat.succ_mul]; omega
/-- The rows from the last one down to the k-th. -/
def Done (ps : List PieceD) (st : List Int) (W H k : Nat) (D : List UInt8) : Prop := D ++ rowsL ps st W k = rowsL ps st W H
theorem Done.len {ps : List PieceD} {st : List Int} {W H k : Nat} {D : List UInt8} (h : Done ps st W H k D) (hW : W ≤ 8) (hH : H ≤ 8) : D.length ≤ 104 := by
  have h1 := congrArg List.length h
  rw [List.length_append, rowsL_len, rowsL_len] at h1
  have h2 : H * (W + 5) ≤ 8 * 13 := Nat.mul_le_mul hH (by omega)
  omega
theorem Done.next {ps : List PieceD} {st : List Int} {W H k : Nat} {D : List UInt8} (h : Done ps st W H (k + 1) D) : Done ps st W H k (D ++ rowL ps st W k) := by
  unfold Done at *
  rw [rowsL] at h
  rw [List.append_assoc]; exact h
theorem RBox.kept {B b rb : Nat} {l : List UInt8} {W W' : World} {r : RulesD} {vp vs ve : Value} (h : RBox W rb 26 r vp vs ve) (hx : Boxes b W W') (hb : Bld B b l W) : RBox W' rb 26 r vp vs ve := hx.box hb (by decide) (by decide) h
set_option maxHeartbeats 4000000 in
theorem rowsT_any (B b : Nat) (l : List UInt8) (r : RulesD) (vp vs ve : Value) (w0 w : World) (hbl : Bld B b l w) (hB0 : B = w0.heap.size) (hb0 : Below B w0 w) (hr : IsRules w0 r vp vs ve) (hok : ROk r) (hl : l.length ≤ 20000) :
    Calls Tryz.prog 20 #[.pointer (some ⟨b, 0, none⟩), RulesV r vp vs ve] w (PrPost B b (l ++ rowsL r.pieces r.start r.width.toNat r.height.toNat) w) := by
  obtain ⟨i0, hi, hz0, hz1, hz2⟩ := byte_info
  have hBw : B ≤ w.heap.size := by have := hb0.size; omega
  obtain ⟨W, hW⟩ := Int.eq_ofNat_of_zero_le (show 0 ≤ r.width by have := hok.w1; omega)
  obtain ⟨H, hH⟩ := Int.eq_ofNat_of_zero_le (show 0 ≤ r.height by have := hok.h1; omega)
  obtain ⟨hW1, hW8⟩ : 1 ≤ W ∧ W ≤ 8 := by have := hok.w1; have := hok.w2; omega
  obtain ⟨hH1, hH8⟩ : 1 ≤ H ∧ H ≤ 8 := by have := hok.h1; have := hok.h2; omega
  obtain ⟨A, hA⟩ : ∃ A : Nat, A = r.start.length := ⟨_, rfl⟩
  have hAA : A = W * H := by have := hok.sl; rw [hW, hH, ← hA, ← Int.natCast_mul] at this; exact Int.ofNat_inj.1 this
  obtain ⟨sa, cs, rfl, hcs, hst⟩ := hr.2.1.shape hA
  have HST : Hid (∀ k, k < A → ∃ g0 o0 x, sa = some ⟨g0, o0, none⟩ ∧ r.start[k]? = some x ∧ ∀ V, Below B w V → V.cell? ⟨g0, o0 + k * 1, none⟩ = some (.int .i64 x)) := Lib.hid (fun k hk => by
    obtain ⟨g0, o0, x, e, hx, hc⟩ := hst k hk
    exact ⟨g0, o0, x, e, hx, fun V hV => cell_keeps (hb0.trans hV) (by omega) hc⟩)
  have HCB : Hid (∀ c V, c ∈ r.start → Below B w V → Calls Tryz.prog 53 #[vp, .int .i64 c] V fun e w' => e = .returned (.int .u8 (cellB r.pieces c).toNat) ∧ w' = V) := Lib.hid (fun c V hc hV =>
    cellByte_any r.pieces vp c V (hr.1.below piece_keeps (hb0.trans hV) (by omega)) hok.p6 (hok.st c hc).1 (hok.st c hc).2 (fun x hx => (hok.ps x hx).1))
  have hba := (Below.refl w.heap.size w).alloc (Nat.le_refl _) (.cells (RulesCells r vp (.slice sa A cs) ve) 26)
  have HX := Lib.hid (RBox.new w 26 r vp (.slice sa A cs) ve)
  have HI : Hid (∃ D, Done r.pieces r.start W H H D ∧ PrAt B b (l ++ D) (w.alloc (.cells (RulesCells r vp (.slice sa A cs) ve) 26)) (w.alloc (.cells (RulesCells r vp (.slice sa A cs) ve) 26))) :=
    Lib.hid ⟨[], by simp [Done], by simpa using hbl.below hba, Below.refl _ _, Boxes.refl _ _⟩
  have HBA : Hid (Below B w (w.alloc (.cells (RulesCells r vp (.slice sa A cs) ve) 26)) ∧ Boxes b w (w.alloc (.cells (RulesCells r vp (.slice sa A cs) ve) 26))) := Lib.hid ⟨hba.mono hBw, Boxes.of hba⟩
  have hBw1 : B ≤ (w.alloc (.cells (RulesCells r vp (.slice sa A cs) ve) 26)).heap.size := by have := hba.size; omega
  have HAA := Lib.hid hAA
  have HBL := Lib.hid hbl
  have HWE := Lib.hid hW
  have HHE := Lib.hid hH
  rw [hW, hH, Int.toNat_natCast, Int.toNat_natCast]
  unfold RulesV
  rw [hW, hH]
  obtain ⟨⟨b0, b1, b2, b3, b4, -⟩, -⟩ := HX.out.facts
  rw [hW] at b1
  rw [hH] at b2
  obtain ⟨w1, hw1⟩ : ∃ w1, w1 = w.alloc (.cells (RulesCells r vp (.slice sa A cs) ve) 26) := ⟨_, rfl⟩
  have HW1 : Hid (w.alloc (.cells #[.string r.name, .int .i64 (W : Int), .int .i64 (H : Int), vp, .slice sa A cs, .bool r.falls, .bool r.keeps, ve, .int .i64 r.blocked, .int .i64 r.quiet, .int .i64 r.rep] 26) = w1) := Lib.hid (by rw [hw1, RulesCells, hW, hH])
  rw [← hw1] at HX HI HBA hBw1 b1 b2 b3 b4
  have HLA := Lib.hid hA
  clear hbl hB0 hb0 hr hok hst hAA hba b0 hW hH hA
  go_enter Tryz.func20, Tryz.ntmps20
  go_wp2_with fail
  rw [HW1.out]
  have HB1 : Hid (Bld B b l w1) := Lib.hid (by have h := HI.out; obtain ⟨D, hD, h1, _⟩ := h; rw [hw1]; exact HBL.out.below ((Below.refl w.heap.size w).alloc (Nat.le_refl _) _))
  clear hw1 HW1 HBL b1 b2 b3 b4
  go_loopw [4, 5, 6] (fun y _ _ wr => ∃ k : Nat, k ≤ H ∧ y = .int .i64 ((k : Int) - 1) ∧ Hid (∃ D, Done r.pieces r.start W H k D ∧ PrAt B b (l ++ D) w1 wr)) (fun y _ _ _ => (intOf y + 1).toNat)
  case atStart => exact ⟨H, Nat.le_refl _, rfl, HI⟩
  case round =>
    clear HI
    obtain ⟨k, hk, rfl, hinv⟩ := hrel
    obtain ⟨D, hD, hp⟩ := hinv.out
    have HD := Lib.hid hD
    have HP := Lib.hid hp
    clear hD hp hinv
    obtain ⟨V, hV⟩ : ∃ V, V = wr := ⟨_, rfl⟩
    subst hV
    have hBV : B ≤ V.heap.size := Nat.le_trans hBw1 HP.out.2.1.size
    rcases k with _ | y
    · have HE : Hid (PrAt B b (l ++ rowsL r.pieces r.start W H) w V) := Lib.hid (by
        have h1 := HD.out
        unfold Done at h1
        rw [rowsL, List.append_nil] at h1
        rw [← h1]
        exact ⟨HP.out.1, HBA.out.1.trans HP.out.2.1, HBA.out.2.trans HP.out.2.2⟩)
      rw [show (((0 : Nat) : Int) - 1) = -1 from rfl]
      go_wp2_with fail
      go_end0
      exact ⟨rfl, HE.out⟩
    · rw [show (((y + 1 : Nat) : Int) - 1) = (y : Int) by omega]
      have HXV := Lib.hid (HX.out.kept HP.out.2.2 HB1.out)
      obtain ⟨⟨b0, b1, b2, b3, b4, -⟩, -⟩ := HXV.out.facts
      rw [HWE.out] at b1
      clear b0 b2
      go_wp2_with (at_make; refine wpList_make_full _ rfl _ _ 54 rfl V.heap.size 5 i0 (.int .u8 0) 1 Tryz.underlying54 hi hz0 hz1 .i64 .i64 W W W rfl rfl rfl rfl (by rw [hz2]; omega) (by unfold maxLen; omega) (Nat.le_refl _) ?_; intro wm hownm hgrowm)
      have hown0 : wm.ownsRow V.heap.size 5 1 (.slice (some ⟨V.heap.size, 0, none⟩) W W) W (bytesV (rowTo r.pieces r.start W y 0)) := by
        rw [rowTo_zero, ← toList_madeCells_one]; rw [Nat.mul_one] at hownm; exact hownm
      have HBM : Hid (Below V.heap.size V wm) := Lib.hid ((Below.refl _ V).grown hgrowm (Nat.le_refl _) (fun k e => by cases e))
      clear hownm hgrowm
      clear b1 b3 b4
      go_loopw [6, 19] (fun _ i wx => ∃ j : Nat, j ≤ W ∧ i = .int .i64 (j : Int) ∧ wx.ownsRow V.heap.size 5 1 (.slice (some ⟨V.heap.size, 0, none⟩) W W) W (bytesV (rowTo r.pieces r.start W y j)) ∧ Hid (Below V.heap.size V wx)) (fun _ i _ => W - (intOf i).toNat)
      case atStart => exact ⟨0, by omega, rfl, hown0, HBM⟩
      case round =>
        clear hown0 HBM
        obtain ⟨j, hj, rfl, hown, hbel⟩ := hrel
        by_cases hlt : j < W
        · obtain ⟨P, hP⟩ : ∃ P : Nat, P = y * W := ⟨_, rfl⟩
          obtain ⟨m, hm⟩ : ∃ m : Nat, m = P + j := ⟨_, rfl⟩
          have hPA : P + W ≤ A := by
            rw [hP, HAA.out, ← Nat.succ_mul, Nat.mul_comm W H]; exact Nat.mul_le_mul_right W (by omega)
          have hA64 : A ≤ 64 := by rw [HAA.out]; exact Nat.mul_le_mul hW8 hH8
          have hmA : m < A := by omega
          have hPI : (y : Int) * (W : Int) = (P : Int) := by rw [hP, Int.natCast_mul]
          have Q3 : Hid (IntKind.i64.wrap ((y : Int) * (W : Int)) = (P : Int)) := Lib.hid (by rw [hPI, IntWalk.i64_in _ (by omega)])
          have Q4 : Hid (IntKind.i64.wrap ((P : Int) + (j : Int)) = (m : Int)) := Lib.hid (by rw [IntWalk.i64_in _ (by omega)]; omega)
          have HM : Hid (m = y * W + j) := Lib.hid (by rw [hm, hP])
          clear hPI hP hm
          obtain ⟨g0, o0, c, rfl, hc, hcell⟩ := HST.out m hmA
          have HC := Lib.hid hc
          have hBW : Below B w wr := (HBA.out.1.trans HP.out.2.1).trans (hbel.out.mono hBV)
          have c0 := hcell wr hBW
          rw [Nat.mul_one] at c0
          have KX := HCB.out c { heap := wr.heap, tape := wr.tape, drawn := wr.drawn + 1, os := wr.os, output := wr.output } (List.mem_of_getElem? hc) hBW.drew
          obtain ⟨⟨b0, b1, b2, b3, b4, -⟩, -⟩ := (HXV.out.below hbel.out (Array.getElem?_eq_some_iff.1 HXV.out).1).facts
          rw [HWE.out] at b1
          have hmcs : m < cs := by omega
          clear b0 b2 hc hcell hBW
          have HOW := Lib.hid hown
          clear hown
          go_wp2_with fail
          have q3 := Q3.out
          have q4 := Q4.out
          go_still_tail 16, (by kernel_rfl)
          repeat still_step
          still_call KX
          repeat still_step
          refine wpStill_nil ?_
          change wpList _ _ _ _ _ wr.drew
          clear q3 q4 Q3 Q4 KX c0 b1 b3 b4
          have hown6 := own_keep_below HOW.out ((Below.refl _ _).drew : Below wr.heap.size wr wr.drew)
          have HBX : Hid (Below V.heap.size V wr.drew) := Lib.hid hbel.out.drew
          clear HOW hbel
          generalize wr.drew = w6 at HBX hown6 ⊢
          have hfz := hown6.frozenAt j
          obtain ⟨u0, hu0⟩ : ∃ u, w6.cell? ⟨V.heap.size, j, none⟩ = some u := ⟨_, (hown6.cellAt j (by omega)).trans (List.getElem?_eq_getElem (by rw [rowTo_len]; exact hlt))⟩
          have hst := (hown6.stored j (.int .u8 ((cellB r.pieces c).toNat : Int))).1
          rw [rowTo_set r.pieces r.start W y j (by rw [← HM.out]; exact HC.out)] at hst
          have HS6 := Lib.hid hst
          clear hst hown6
          go_wp2_with fail
          go_roundw
          case rel => exact ⟨j + 1, by omega, by go_num, HS6.out, Lib.hid (HBX.out.setCell (p := ⟨V.heap.size, j, none⟩) (Nat.le_refl _) _)⟩
          case measure => simp [intOf]; omega
        · obtain rfl : j = W := by omega
          have hcv : (convert 54 9 (.slice (some ⟨V.heap.size, 0, none⟩) j j)).run Tryz.prog wr = .ok (.string (str (rowB r.pieces r.start j y))) wr := by
            have h1 := run_convert_bytes_back (P := Tryz.prog) wr 54 9 5 ⟨V.heap.size, 0, none⟩ j (rowB r.pieces r.start j y) Tryz.underlying54 Tryz.underlying5 Tryz.underlying9 (fun p hp => by
              have h2 := hown.cellAt p (by rw [rowB_len] at hp; omega)
              rw [rowTo_full] at h2
              rw [show (⟨V.heap.size, 0, none⟩ : Addr).add p = ⟨V.heap.size, p, none⟩ by cases p <;> simp [Addr.add], h2]
              simp [bytesV, List.getElem?_eq_getElem hp])
            rw [rowB_len] at h1
            exact h1
          have HPW : Hid (PrAt B b (l ++ D) w1 wr) := Lib.hid (HP.out.below hbel.out hBV)
          have HLE : Hid ((l ++ D).length + (lineB [[114, 111, 119], rowB r.pieces r.start j y]).length ≤ 100000) := Lib.hid (by
            have h1 := HD.out.len hW8 hH8
            have h2 := rowL_len r.pieces r.start j y
            unfold rowL at h2
            rw [List.length_append, h2]; omega)
          clear hown hbel
          go_wp2_with fail
          go_at_call 17; refine (line_new B b (l ++ D) [[114, 111, 119], rowB r.pieces r.start j y] wr _ w1 HPW.out hBw1 rfl 2 rfl (by decide) HLE.out).mono ?_; rintro e w7 ⟨rfl, HI7, hx7⟩
          have HN7 : Hid (∃ D, Done r.pieces r.start j H y D ∧ PrAt B b (l ++ D) w1 w7) := Lib.hid ⟨_, HD.out.next, by rw [← List.append_assoc]; exact HI7⟩
          clear HI7 hx7 hcv
          go_wp2_with fail
          go_roundw
          case rel => exact ⟨y, by omega, by go_num, HN7⟩
          case measure => simp [intOf]
end Go.Proofs.YtomclohfppbegaaGreatDoor
