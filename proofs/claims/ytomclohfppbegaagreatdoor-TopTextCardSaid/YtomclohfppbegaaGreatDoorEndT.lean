/- ruletext's ends: the lines of the conditions. -/
import Derived.Test.YtomclohfppbegaaGreatDoorRowT
import Derived.Deep.Cut
import Derived.Deep.CutRange
set_option maxRecDepth 100000
namespace Go.Proofs.YtomclohfppbegaaGreatDoor
open Go.ChangeShapes Go.WideShapes Go.ChangeAt Go.RowKit

/-- A condition's variable: a block of its own. -/
def EBox (W : World) (pb : Nat) (y : EndD) : Prop := W.heap[pb]? = some (.cells #[.int .i64 y.kind, .int .i64 y.piece, .int .i64 y.count, .bool y.loses] 70 (0, 0))
theorem EBox.cells {W : World} {pb : Nat} {y : EndD} (h : EBox W pb y) : W.cell? ⟨pb, 0, none⟩ = some (.int .i64 y.kind) ∧ W.cell? ⟨pb, 1, none⟩ = some (.int .i64 y.piece) ∧ W.cell? ⟨pb, 2, none⟩ = some (.int .i64 y.count) ∧ W.cell? ⟨pb, 3, none⟩ = some (.bool y.loses) := by
  have hc : ∀ i, W.cell? ⟨pb, i, none⟩ = (#[.int .i64 y.kind, .int .i64 y.piece, .int .i64 y.count, .bool y.loses] : Array Value)[i]? := fun i => cell_of_row W pb i _ _ (0, 0) h
  exact ⟨hc 0, hc 1, hc 2, hc 3⟩
theorem EBox.below {pb : Nat} {W W' : World} {y : EndD} (h : EBox W pb y) (hb : Below W.heap.size W W') : EBox W' pb y := (hb.block pb (Array.getElem?_eq_some_iff.1 h).1).trans h
theorem how_word (b : Bool) : ([[119, 105, 110, 115], [108, 111, 115, 101, 115]] : List (List UInt8))[if b then 1 else 0]? = some (howB b) := by cases b <;> rfl
theorem endL_le {n : Nat} (ps : List PieceD) {x : EndD} (h : EOk n x) : (endL ps x).length ≤ 30 := by
  obtain ⟨_, _, c0, c1⟩ := h
  have := num_le (n := x.count) (by omega) (by omega)
  have := howB_le x.loses
  have h1 : (pieceTx ps x.piece).length ≤ 1 := by unfold pieceTx; split <;> simp [lettB]
  unfold endL
  split
  · simp only [lineB_cons, lineB_one, List.length_append, List.length_cons, List.length_nil]; omega
  · split
    · simp only [lineB_cons, lineB_one, List.length_append, List.length_cons, List.length_nil]; omega
    · simp only [lineB_cons, lineB_one, List.length_append, List.length_cons, List.length_nil]; omega
theorem endsL_le {n : Nat} (ps : List PieceD) {l : List EndD} (h : ∀ x ∈ l, EOk n x) : (endsL ps l).length ≤ l.length * 30 := flat_len (fun x hx => endL_le ps (h x hx))
set_option maxHeartbeats 4000000 in
theorem ends_any (B b : Nat) (l : List UInt8) (r : RulesD) (vp vs ve : Value) (w0 w : World) (hbl : Bld B b l w) (hB0 : B = w0.heap.size) (hb0 : Below B w0 w) (hr : IsRules w0 r vp vs ve) (hok : ROk r) (hl : l.length ≤ 20000) :
    Calls Tryz.prog 21 #[.pointer (some ⟨b, 0, none⟩), RulesV r vp vs ve] w (PrPost B b (l ++ endsL r.pieces r.ends) w) := by
  have hBw : B ≤ w.heap.size := by have := hb0.size; omega
  obtain ⟨n, hn⟩ : ∃ n, n = r.pieces.length := ⟨_, rfl⟩
  obtain ⟨m, hm⟩ : ∃ m, m = r.ends.length := ⟨_, rfl⟩
  have hn6 : n ≤ 6 := by rw [hn]; exact hok.p6
  have hm6 : m ≤ 6 := by rw [hm]; exact hok.e6
  obtain ⟨ap, cp, rfl, hcp, -⟩ := hr.1.shape hn
  obtain ⟨ae, ce, rfl, hce, hen⟩ := hr.2.2.shape hm
  have HPC : Hid _ := Lib.hid (fun (j : Nat) (hj : j < n) => pcs_kept hr.1 hn hB0 hb0 hj)
  have HEN : Hid (∀ k, k < m → ∃ g0 o0 x, ae = some ⟨g0, o0, none⟩ ∧ r.ends[k]? = some x ∧ ∀ V, Below B w V → EndAt V g0 (o0 + k * 4) x) := Lib.hid (fun k hk => by
    obtain ⟨g0, o0, x, e, hx, hc⟩ := hen k hk
    exact ⟨g0, o0, x, e, hx, fun V hV => end_keeps _ _ _ _ _ _ (hb0.trans hV) (by omega) hc⟩)
  have HES : Hid (∀ x ∈ r.ends, EOk n x) := Lib.hid (by rw [hn]; exact hok.es)
  have HPS : Hid (∀ x ∈ r.pieces, 65 ≤ x.letter ∧ x.letter ≤ 90) := Lib.hid (fun x hx => (hok.ps x hx).1)
  have hba := (Below.refl w.heap.size w).alloc (Nat.le_refl _) (.cells (RulesCells r (.slice ap n cp) vs (.slice ae m ce)) 26)
  have HX := Lib.hid (RBox.new w 26 r (.slice ap n cp) vs (.slice ae m ce))
  obtain ⟨w1, hw1⟩ : ∃ w1, w1 = w.alloc (.cells (RulesCells r (.slice ap n cp) vs (.slice ae m ce)) 26) := ⟨_, rfl⟩
  rw [← hw1] at hba HX
  have HI : Hid (PrAt B b (l ++ endsL r.pieces (r.ends.take 0)) w1 w1) := Lib.hid ⟨by simpa [endsL] using hbl.below hba, Below.refl _ _, Boxes.refl _ _⟩
  have HB1 : Hid (Bld B b l w1) := Lib.hid (hbl.below hba)
  have HBA : Hid (Below B w w1 ∧ Boxes b w w1) := Lib.hid ⟨hba.mono hBw, Boxes.of hba⟩
  have hBw1 : B ≤ w1.heap.size := by have := hba.size; omega
  have HW1 : Hid (w.alloc (.cells #[.string r.name, .int .i64 r.width, .int .i64 r.height, .slice ap n cp, vs, .bool r.falls, .bool r.keeps, .slice ae m ce, .int .i64 r.blocked, .int .i64 r.quiet, .int .i64 r.rep] 26) = w1) := Lib.hid hw1.symm
  have HN := Lib.hid hn
  have HM := Lib.hid hm
  unfold RulesV
  obtain ⟨⟨b0, b1, b2, b3, b4, b5, b6, b7, -⟩, -⟩ := HX.out.facts
  rw [hw1] at b7
  clear hbl hB0 hb0 hr hok hen hba hn hm b0 b1 b2 b3 b4 b5 b6 hw1
  unfold RulesCells at b7
  go_enter Tryz.func21, Tryz.ntmps21
  go_wp2_with fail
  rw [HW1.out]
  clear HW1 b7
  go_loopw [5, 6, 7, 8, 12] (fun _ _ _ _ i wr => ∃ k : Nat, k ≤ m ∧ i = .int .i64 (k : Int) ∧ Hid (PrAt B b (l ++ endsL r.pieces (r.ends.take k)) w1 wr)) (fun _ _ _ _ i _ => m - (intOf i).toNat)
  case atStart => exact ⟨0, by omega, rfl, HI⟩
  case round =>
    clear HI
    obtain ⟨k, hk, rfl, hinv⟩ := hrel
    have hBV : B ≤ wr.heap.size := Nat.le_trans hBw1 hinv.out.2.1.size
    by_cases hlt : k < m
    · obtain ⟨g0, o0, x, rfl, hx, hat⟩ := HEN.out k hlt
      obtain ⟨c0, c1, c2, c3⟩ := hat wr (HBA.out.1.trans hinv.out.2.1)
      have HXK := Lib.hid hx
      have HXO := Lib.hid (HES.out x (List.mem_of_getElem? hx))
      have hkc : k < ce := by omega
      obtain ⟨⟨-, -, -, b3, -⟩, -⟩ := (HX.out.kept hinv.out.2.2 HB1.out).facts
      clear hx hat
      obtain ⟨⟨kd0, kd2⟩, ⟨p0, p1⟩, ct0, ct1⟩ := HXO.out
      obtain ⟨q, hq⟩ := Int.eq_ofNat_of_zero_le p0
      have hqn : q < n := by omega
      obtain ⟨gp, op, y, u, rfl, hy, haty⟩ := HPC.out q hqn
      have hqc : q < cp := by omega
      have HY := Lib.hid hy
      have HPO : Hid (pieceTx r.pieces x.piece = lettB y) := Lib.hid (by rw [pieceTx, hq, Int.toNat_natCast, hy])
      obtain ⟨l0, l1⟩ := HPS.out y (List.mem_of_getElem? hy)
      rw [hq] at c1
      have hba := (Below.refl wr.heap.size wr).alloc (Nat.le_refl _) (.cells #[.int .i64 x.kind, .int .i64 (q : Int), .int .i64 x.count, .bool x.loses] 70)
      have HEB : Hid (EBox (wr.alloc (.cells #[.int .i64 x.kind, .int .i64 (q : Int), .int .i64 x.count, .bool x.loses] 70)) wr.heap.size x) := Lib.hid (by have h1 := heap_alloc_new wr (.cells #[.int .i64 x.kind, .int .i64 (q : Int), .int .i64 x.count, .bool x.loses] 70); rw [← hq] at h1; unfold EBox; rw [hq]; rw [hq] at h1; exact h1)
      have HIA : Hid (PrAt B b (l ++ endsL r.pieces (r.ends.take k)) w1 (wr.alloc (.cells #[.int .i64 x.kind, .int .i64 (q : Int), .int .i64 x.count, .bool x.loses] 70))) := Lib.hid (hinv.out.below hba hBV)
      have HHL : Hid ((l ++ endsL r.pieces (r.ends.take k)).length + (endL r.pieces x).length ≤ 100000) := Lib.hid (by
        have h1 := endL_le r.pieces HXO.out
        have h2 := endsL_le r.pieces (l := r.ends.take k) (fun y hy => HES.out y (List.mem_of_mem_take hy))
        have h3 : (r.ends.take k).length * 30 ≤ 6 * 30 := Nat.mul_le_mul_right 30 (by rw [List.length_take]; omega)
        rw [List.length_append]; omega)
      have hBA2 : B ≤ (wr.alloc (.cells #[.int .i64 x.kind, .int .i64 (q : Int), .int .i64 x.count, .bool x.loses] 70)).heap.size := by have := hba.size; omega
      go_wp2_with fail
      clear hinv c0 c1 c2 c3 hba b3
      generalize wr.alloc (.cells #[.int .i64 x.kind, .int .i64 (q : Int), .int .i64 x.count, .bool x.loses] 70) = wa at HEB HIA hBA2 ⊢
      obtain ⟨eb, heb⟩ : ∃ eb, eb = wr.heap.size := ⟨_, rfl⟩
      rw [← heb] at HEB ⊢
      clear heb
      obtain ⟨y0, y1, y2, y3, -⟩ := haty wa (HBA.out.1.trans HIA.out.2.1)
      obtain ⟨⟨-, -, -, b3, -⟩, -⟩ := (HX.out.kept HIA.out.2.2 HB1.out).facts
      obtain ⟨c0, c1, c2, c3⟩ := HEB.out.cells
      rw [hq] at c1
      have HQ := Lib.hid hq
      clear p0 p1 hq hy haty
      go_region_held3 (fun w' => w'.cell? ⟨w.heap.size, 3, none⟩ = some (.slice (some ⟨gp, op, none⟩) n cp) ∧ w'.cell? ⟨eb, 1, none⟩ = some (.int .i64 (q : Int)) ∧ w'.cell? ⟨eb, 2, none⟩ = some (.int .i64 x.count) ∧ w'.cell? ⟨gp, op + q * 4, none⟩ = some (.int .u8 y.letter) ∧ w'.cell? ⟨gp, op + q * 4 + 1, none⟩ = some (.int .i64 y.hand) ∧ w'.cell? ⟨gp, op + q * 4 + 2, none⟩ = some (.int .i64 y.promote) ∧ w'.cell? ⟨gp, op + q * 4 + 3, none⟩ = some u) (go_keep) (first
        | (go_at_call 51; refine (letterT_any y u (by omega) (by omega) _).mono ?_; rintro e w2 ⟨rfl, hb2⟩; have hb2 := (Below.drew (Below.refl wa.heap.size wa)).trans hb2; have HI2 := Lib.hid (HIA.out.below hb2 hBA2); have HE2 := Lib.hid (HEB.out.below hb2); have b3 := cell_keeps hb2 (Nat.le_refl _) b3; have c1 := cell_keeps hb2 (Nat.le_refl _) c1; have c2 := cell_keeps hb2 (Nat.le_refl _) c2; have y0 := cell_keeps hb2 (Nat.le_refl _) y0; have y1 := cell_keeps hb2 (Nat.le_refl _) y1; have y2 := cell_keeps hb2 (Nat.le_refl _) y2; have y3 := cell_keeps hb2 (Nat.le_refl _) y3)
        | (go_at_call 18; refine (turned (itoa_quiet x.count (by omega) (by omega) _)).mono ?_; rintro e w' ⟨rfl, rfl⟩))
      have hB2 : B ≤ w2.heap.size := Nat.le_trans hBA2 hb2.size
      clear b3 c0 c1 c2 c3 y0 y1 y2 y3 HIA HEB hb2
      go_wp2_with fail
      go_at_call 54; refine (howWords_any _).mono ?_; rintro e w3 ⟨gh, rfl, hwd, hb3⟩
      have HI3 := Lib.hid (HI2.out.below hb3 hB2)
      have HE3 := Lib.hid (HE2.out.below hb3)
      have hB3 : B ≤ w3.heap.size := Nat.le_trans hB2 hb3.size
      have hw0 := hwd.words 0 _ rfl
      clear hwd hb3 HI2 HE2
      obtain ⟨c0, c1, c2, c3⟩ := HE3.out.cells
      obtain ⟨lo, hlo⟩ : ∃ lo, lo = x.loses := ⟨_, rfl⟩
      have HLO := Lib.hid hlo
      rw [← hlo] at c3
      clear hlo c0 c1 c2
      go_upto_if 30 with fail
      go_cut [8] from 13 to 33 (fun t wx => t = .string (str (howB lo)) ∧ Hid (PrAt B b (l ++ endsL r.pieces (r.ends.take k)) w1 wx) ∧ Hid (EBox wx eb x))
      case first =>
        rcases lo with _ | _
        · go_wp2_with fail
          go_meet
          case rel => exact ⟨rfl, HI3, HE3⟩
        · go_wp2_with fail
          go_at_call 54; refine (howWords_any _).mono ?_; rintro e w4 ⟨gh2, rfl, hwd, hb4⟩
          have HI4 := Lib.hid (HI3.out.below hb4 hB3)
          have HE4 := Lib.hid (HE3.out.below hb4)
          have hw1 := hwd.words 1 _ rfl
          clear hwd hb4 HI3 HE3
          go_wp2_with fail
          go_meet
          case rel => exact ⟨rfl, HI4, HE4⟩
      case rest =>
        clear HI3 HE3 hw0 c3
        obtain ⟨rfl, HIC, HEC⟩ := hcut
        obtain ⟨c0, -, -, -⟩ := HEC.out.cells
        obtain hk0 | hk0 | hk0 : x.kind = 0 ∨ x.kind = 1 ∨ x.kind = 2 := by omega
        · rw [hk0] at c0
          have HLN : Hid (endL r.pieces x = lineB [[101, 110, 100, 32, 108, 105, 110, 101], num x.count, howB lo]) := Lib.hid (by rw [endL, if_pos hk0, HLO.out])
          clear hk0 kd0 kd2
          go_wp2_with fail
          go_at_call 17; refine (line_new B b _ [[101, 110, 100, 32, 108, 105, 110, 101], num x.count, howB lo] wc _ w1 HIC.out hBw1 rfl 3 rfl (by decide) (by have h1 := HHL.out; rw [HLN.out] at h1; exact h1)).mono ?_; rintro e w7 ⟨rfl, HI7, hx7⟩
          have HN7 : Hid (PrAt B b (l ++ endsL r.pieces (r.ends.take (k + 1))) w1 w7) := Lib.hid (by
            rw [endsL, flat_succ HXK.out, ← endsL, ← List.append_assoc, HLN.out]; exact HI7)
          clear HI7 hx7
          go_wp2_with fail
          go_roundw
          case rel => exact ⟨k + 1, by omega, by go_num, HN7⟩
          case measure => simp [intOf]; omega
        · rw [hk0] at c0
          have HLN : Hid (endL r.pieces x = lineB [[101, 110, 100, 32, 114, 101, 97, 99, 104], lettB y, howB lo]) := Lib.hid (by rw [endL, if_neg (by omega), if_pos hk0, HPO.out, HLO.out])
          clear hk0 kd0 kd2
          go_wp2_with fail
          go_at_call 17; refine (line_new B b _ [[101, 110, 100, 32, 114, 101, 97, 99, 104], lettB y, howB lo] wc _ w1 HIC.out hBw1 rfl 3 rfl (by decide) (by have h1 := HHL.out; rw [HLN.out] at h1; exact h1)).mono ?_; rintro e w7 ⟨rfl, HI7, hx7⟩
          have HN7 : Hid (PrAt B b (l ++ endsL r.pieces (r.ends.take (k + 1))) w1 w7) := Lib.hid (by
            rw [endsL, flat_succ HXK.out, ← endsL, ← List.append_assoc, HLN.out]; exact HI7)
          clear HI7 hx7
          go_wp2_with fail
          go_roundw
          case rel => exact ⟨k + 1, by omega, by go_num, HN7⟩
          case measure => simp [intOf]; omega
        · rw [hk0] at c0
          have HLN : Hid (endL r.pieces x = lineB [[101, 110, 100, 32, 116, 97, 107, 101], lettB y, num x.count, howB lo]) := Lib.hid (by rw [endL, if_neg (by omega), if_neg (by omega), HPO.out, HLO.out])
          clear hk0 kd0 kd2
          go_wp2_with fail
          go_at_call 17; refine (line_new B b _ [[101, 110, 100, 32, 116, 97, 107, 101], lettB y, num x.count, howB lo] wc _ w1 HIC.out hBw1 rfl 4 rfl (by decide) (by have h1 := HHL.out; rw [HLN.out] at h1; exact h1)).mono ?_; rintro e w7 ⟨rfl, HI7, hx7⟩
          have HN7 : Hid (PrAt B b (l ++ endsL r.pieces (r.ends.take (k + 1))) w1 w7) := Lib.hid (by
            rw [endsL, flat_succ HXK.out, ← endsL, ← List.append_assoc, HLN.out]; exact HI7)
          clear HI7 hx7
          go_wp2_with fail
          go_roundw
          case rel => exact ⟨k + 1, by omega, by go_num, HN7⟩
          case measure => simp [intOf]; omega
    · obtain rfl : m = k := by omega
      have HE : Hid (PrAt B b (l ++ endsL r.pieces r.ends) w wr) := Lib.hid (by
        have h1 := hinv.out
        rw [HM.out, List.take_length] at h1
        exact ⟨h1.1, HBA.out.1.trans h1.2.1, HBA.out.2.trans h1.2.2⟩)
      clear hinv
      go_wp2_with fail
      go_end0
      exact ⟨rfl, HE.out⟩
end Go.Proofs.YtomclohfppbegaaGreatDoor
