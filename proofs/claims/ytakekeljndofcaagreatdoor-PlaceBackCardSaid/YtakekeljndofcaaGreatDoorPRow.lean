/- place.letter and rowText: the text of a row. -/
import Derived.Test.YtakekeljndofcaaGreatDoorPlcT
import Derived.Test.YtakekeljndofcaaGreatDoorRBox
import Derived.Maps.AppendAt
import Derived.Laws.IdiomStrings
import Derived.Lib.Builder
import Derived.Lib.SmallJoins
set_option maxRecDepth 100000
namespace Go.Proofs.YtakekeljndofcaaGreatDoor
open Go.ChangeShapes Go.WideShapes Go.ChangeAt Go.RowKit

theorem byteInfoP : (Tryz.prog.info? 5).map (fun i => (i.zero, i.size, i.bytes)) = some (some (.int .u8 0), 1, 1) := by kernel_rfl
set_option maxHeartbeats 2000000 in
theorem pletter_any (r : RulesD) (vp vs ve : Value) (c : Int) (w : World) (hr : IsSl PieceAt 4 w vp r.pieces) (h6 : r.pieces.length ≤ 6) (h0 : 1 ≤ c) (h1 : c ≤ 2 * r.pieces.length) (hcap : ∀ x ∈ r.pieces, 65 ≤ x.letter ∧ x.letter ≤ 90) :
    Calls Tryz.prog 43 #[RulesV r vp vs ve, .int .i64 c] w (BelPost (.int .u8 (cellB r.pieces c).toNat) w) := by
  obtain ⟨d, hd⟩ := Int.eq_ofNat_of_zero_le (show 0 ≤ c - 1 by omega)
  obtain rfl : c = (d : Int) + 1 := by omega
  obtain ⟨n, hn⟩ : ∃ n, n = r.pieces.length := ⟨_, rfl⟩
  obtain ⟨ap, cp, rfl, hcp, hat⟩ := hr.shape hn
  obtain ⟨g, off, x, rfl, hx, u, c0, -⟩ := hat (d / 2) (by omega)
  have hd12 : d < 2 * n := by omega
  have hn6 : n ≤ 6 := by omega
  obtain ⟨k0, k1⟩ := hcap x (List.mem_of_getElem? hx)
  have HX : Hid _ := Lib.hid hx
  have hb := (Below.refl w.heap.size w).alloc (Nat.le_refl _) (.cells #[.string r.name, .int .i64 r.width, .int .i64 r.height, .slice (some ⟨g, off, none⟩) n cp, vs, .bool r.falls, .bool r.keeps, ve, .int .i64 r.blocked, .int .i64 r.quiet, .int .i64 r.rep] 26)
  have c1 := cell_keeps hb (Nat.le_refl _) c0
  have HB := Lib.hid hb
  unfold RulesV
  clear hcap hr hat hx h0 h1 hd h6 hn c0 hb
  go_enter Tryz.func43, Tryz.ntmps43
  go_wp2_with fail
  · rename_i hm
    go_ret
    refine ⟨?_, HB.out⟩
    have e1 : cellB r.pieces ((d : Int) + 1) = UInt8.ofNat x.letter.toNat := by
      have e2 : ((d : Int) + 1 - 1) / 2 = ((d / 2 : Nat) : Int) := by omega
      rw [cellB, if_neg (by omega), e2, Int.toNat_natCast, HX.out]
      simp only
      rw [if_pos (by have := beq_iff_eq.1 hm; omega)]
    have e3 : ((UInt8.ofNat x.letter.toNat).toNat : Int) = x.letter := by rw [UInt8.toNat_ofNat']; omega
    show Ending.returned (.int .u8 x.letter) = _
    rw [e1, e3]
  · rename_i hm
    go_ret
    refine ⟨?_, HB.out⟩
    have e1 : cellB r.pieces ((d : Int) + 1) = UInt8.ofNat (x.letter.toNat + 32) := by
      have e2 : ((d : Int) + 1 - 1) / 2 = ((d / 2 : Nat) : Int) := by omega
      rw [cellB, if_neg (by omega), e2, Int.toNat_natCast, HX.out]
      simp only
      rw [if_neg (by have := beq_eq_false_iff_ne.1 hm; omega)]
    have e3 : ((UInt8.ofNat (x.letter.toNat + 32)).toNat : Int) = x.letter + 32 := by rw [UInt8.toNat_ofNat']; omega
    show Ending.returned (.int .u8 (x.letter + 32)) = _
    rw [e1, e3]

/-! ### A row -/
theorem gap_some (ps : List PieceD) : ∀ (l : List Int) (s : List UInt8 × Nat), l ≠ [] → (l.foldl (gapStep ps) s).1 ≠ [] ∨ (l.foldl (gapStep ps) s).2 ≠ 0
  | [], _, h => absurd rfl h
  | [c], s, _ => by
    rw [List.foldl_cons, List.foldl_nil]
    unfold gapStep
    split
    · right; simp
    · left; simp
  | c :: d :: l, s, _ => by
    rw [List.foldl_cons]
    exact gap_some ps (d :: l) _ (by simp)
theorem rowG_pos (ps : List PieceD) {l : List Int} (h : l ≠ []) : rowG ps l ≠ [] := by
  intro e
  rw [rowG, List.append_eq_nil_iff] at e
  rcases gap_some ps l ([], 0) h with h1 | h1
  · exact h1 e.1
  · have e2 := e.2
    unfold dig at e2
    split at e2
    · rename_i h0; exact h1 h0
    · simp at e2
theorem wrap8_succ (d : UInt8) : IntKind.u8.wrap ((d.toNat : Int) + 1) = ((d + 1).toNat : Int) := by
  have h1 : d.toNat < 256 := d.toNat_lt
  have h2 : (d + 1).toNat = (d.toNat + 1) % 256 := by rw [UInt8.toNat_add]; rfl
  rw [h2]
  simp [IntKind.wrap, IntKind.signed, IntKind.bits]
theorem bump_cells (t : List UInt8) (d : UInt8) : (Lib.byteCells (t ++ [d])).set t.length (.int .u8 ((d + 1).toNat : Int)) = Lib.byteCells (t ++ [d + 1]) := by
  simp [Lib.byteCells]
theorem byteCells_snoc (t : List UInt8) (d : UInt8) : Lib.byteCells (t ++ [d]) = Lib.byteCells t ++ [.int .u8 (d.toNat : Int)] := by simp [Lib.byteCells]
theorem bytes_conv {W : World} {B g n cap : Nat} {l : List UInt8} (h : W.ownsRow B 5 1 (.slice (some ⟨g, 0, none⟩) n cap) n (Lib.byteCells l)) (hn : n = l.length) :
    (convert 59 9 (.slice (some ⟨g, 0, none⟩) n cap)).run Tryz.prog W = .ok (.string (str l)) W := by
  subst hn
  refine run_convert_bytes_back (P := Tryz.prog) W 59 9 5 ⟨g, 0, none⟩ cap l Tryz.underlying59 Tryz.underlying5 Tryz.underlying9 (fun p hp => ?_)
  have h2 := h.cellAt p (by omega)
  rw [show (⟨g, 0, none⟩ : Addr).add p = ⟨g, p, none⟩ by cases p <;> simp [Addr.add], h2]
  simp [Lib.byteCells, List.getElem?_eq_getElem hp]
theorem own_capP {W : World} {B : Nat} {e : TypeId} {g n cap : Nat} {xs : List Value} (h : W.ownsRow B e 1 (.slice (some ⟨g, 0, none⟩) n cap) n xs) : n ≤ cap := by
  rcases h.2 with ⟨h', _⟩ | ⟨g', cap', cur, h', _, _, hc, _⟩
  · simp at h'
  · simp only [Value.slice.injEq] at h'; omega
theorem own_keepP {W W' : World} {B : Nat} {e : TypeId} {size n : Nat} {v : Value} {xs : List Value} (h : W.ownsRow B e size v n xs) (hb : Below W.heap.size W W') : W'.ownsRow B e size v n xs := by
  refine ⟨h.1, ?_⟩
  rcases h.2 with hn | ⟨g, cap, cur, rfl, h1, h2, rest⟩
  · exact .inl hn
  · exact .inr ⟨g, cap, cur, rfl, h1, (hb.block g (Array.getElem?_eq_some_iff.1 h2).1).trans h2, rest⟩
def StrP (l : List UInt8) (w : World) (e : Ending) (w' : World) : Prop := e = .returned (.string (str l)) ∧ Below w.heap.size w w'
theorem rowInv_le {ps : List PieceD} {row : List Int} (hl : row.length ≤ 8) (k : Nat) : (rowG ps (row.take k)).length ≤ 8 := by
  have := rowG_len ps (row.take k)
  rw [List.length_take] at this; omega
set_option maxHeartbeats 8000000 in
theorem rowText_any (r : RulesD) (vp vs ve : Value) (row : List Int) (v : Value) (w : World) (hr : IsSl PieceAt 4 w vp r.pieces) (hv : IsSl IntAt 1 w v row) (h6 : r.pieces.length ≤ 6) (hcap : ∀ x ∈ r.pieces, 65 ≤ x.letter ∧ x.letter ≤ 90) (hl : row.length ≤ 8) (hne : row ≠ []) (hcs : ∀ c ∈ row, 0 ≤ c ∧ c ≤ 2 * (r.pieces.length : Int)) :
    Calls Tryz.prog 24 #[RulesV r vp vs ve, v] w (StrP (rowG r.pieces row) w) := by
  obtain ⟨i0, hi, hz0, hz1, hz2⟩ := info_parts byteInfoP
  obtain ⟨n, hn⟩ : ∃ n, n = row.length := ⟨_, rfl⟩
  obtain ⟨a, cap, rfl, hcp, hat⟩ := hv.shape hn
  have HAT : Hid (∀ k, k < n → ∃ g off x, a = some ⟨g, off, none⟩ ∧ row[k]? = some x ∧ ∀ V, Below w.heap.size w V → V.cell? ⟨g, off + k, none⟩ = some (.int .i64 x)) := Lib.hid (fun k hk => by
    obtain ⟨g, off, x, e, hx, hq⟩ := hat k hk
    refine ⟨g, off, x, e, hx, fun V hV => ?_⟩
    have := cell_keeps hV (Nat.le_refl _) hq
    rwa [Nat.mul_one] at this)
  have HLT : Hid (∀ c W, 1 ≤ c → c ∈ row → Below w.heap.size w W → Calls Tryz.prog 43 #[RulesV r vp vs ve, .int .i64 c] W (BelPost (.int .u8 (cellB r.pieces c).toNat) W)) := Lib.hid (fun c W h1 hc hb => pletter_any r vp vs ve c W (hr.below piece_keeps hb (Nat.le_refl _)) h6 h1 (hcs c hc).2 hcap)
  have HCS := Lib.hid hcs
  have HN := Lib.hid hn
  have HNE := Lib.hid hne
  have HLE : Hid (∀ k, (rowG r.pieces (row.take k)).length ≤ 8) := Lib.hid (fun k => rowInv_le hl k)
  have hn8 : n ≤ 8 := by rw [hn]; exact hl
  have hX := boxR_new w r vp vs ve 26
  have HX := Lib.hid hX
  have HB := Lib.hid ((Below.refl w.heap.size w).alloc (Nat.le_refl _) (.cells (RulesCells r vp vs ve) 26))
  obtain ⟨w1, hw1⟩ : ∃ w1, w1 = w.alloc (.cells (RulesCells r vp vs ve) 26) := ⟨_, rfl⟩
  have HW1 : Hid (w.alloc (.cells #[.string r.name, .int .i64 r.width, .int .i64 r.height, vp, vs, .bool r.falls, .bool r.keeps, ve, .int .i64 r.blocked, .int .i64 r.quiet, .int .i64 r.rep] 26) = w1) := Lib.hid hw1.symm
  rw [← hw1] at HX HB
  unfold RulesV at HLT ⊢
  clear hr hv hn hat hl hne hcs hcap hX hw1
  go_enter Tryz.func24, Tryz.ntmps24
  go_wp2_with fail
  rw [HW1.out]
  clear HW1
  go_loopw [5, 10] (fun v i wr => ∃ (k m : Nat) (T : List UInt8), k ≤ n ∧ i = .int .i64 (k : Int) ∧ wr.ownsRow w1.heap.size 5 1 v m (Lib.byteCells T) ∧ m ≤ 8 ∧ Hid (T = rowG r.pieces (row.take k) ∧ m = T.length) ∧ Hid (Below w1.heap.size w1 wr)) (fun _ i _ => n - (intOf i).toNat)
  case atStart => exact ⟨0, 0, [], by omega, rfl, World.ownsRow_nil _ _ _ _, by omega, Lib.hid ⟨rfl, rfl⟩, Lib.hid (Below.refl _ _)⟩
  case round =>
    obtain ⟨k, m, T, hk, rfl, hown, hm8, hT, hbel⟩ := hrel
    by_cases hlt : k < n
    · obtain ⟨g0, o0, c, rfl, hc, hcell⟩ := HAT.out k hlt
      have hbw := HB.out.trans (hbel.out.mono HB.out.size)
      have c0 := hcell wr hbw
      have HC := Lib.hid hc
      have HOW := Lib.hid hown
      have hbel2 := hbel
      have HCB := Lib.hid (HCS.out c (List.mem_of_getElem? hc))
      obtain ⟨x0, x1, x2, x3, x4, x5, x6, x7, x8, x9, x10⟩ := HX.out.below hbel.out (Nat.le_refl _)
      by_cases hc0 : c = 0
      · subst hc0
        rcases k with _ | j
        · rw [Nat.add_zero] at c0
          have HT1 : Hid (T ++ [49] = rowG r.pieces (row.take (0 + 1)) ∧ m + 1 = (T ++ [49]).length) := Lib.hid ⟨by rw [hT.out.1]; exact (row_first HC.out rfl).symm, by rw [hT.out.2]; simp⟩
          clear hc hcell hbel hbw hown x0 x1 x2 x3 x4 x5 x6 x7 x8 x9 x10
          go_wp2_with (at_builtin; refine wpList_append_own _ rfl _ _ 59 rfl w1.heap.size 5 i0 (.int .u8 0) 1 1 Tryz.underlying59 hi hz0 hz1 hz2 rfl (by decide) _ _ _ rfl (HOW.out.alloc _) ⟨wr.heap.size, 0, none⟩ 1 1 [.int .u8 49] rfl rfl (cell_one_new _ _ _) (by simp [Value.oneCell']) (by unfold maxLen; omega) (by omega) (by have := hbel2.out.size; simp; omega) ?_; intro v' w5 hown' hgrow _)
          have hg' : (wr.alloc (.cells #[.int .u8 49] 5)).grownBy w5 u5.ownBlock := hgrow
          have hle := HLE.out (0 + 1)
          rw [← HT1.out.1, ← HT1.out.2] at hle
          go_roundw
          case rel => exact ⟨0 + 1, m + 1, T ++ [49], by omega, by go_num, by rw [byteCells_snoc]; exact hown', hle, HT1, Lib.hid ((hbel2.out.alloc hbel2.out.size _).grown hg' (by have := hbel2.out.size; simp; omega) (fun k e => (HOW.out.lt k e).1))⟩
          case measure => simp [intOf]; omega
        · obtain ⟨g1, o1, q, e, hq, hcell1⟩ := HAT.out j (by omega)
          simp only [Option.some.injEq, Addr.mk.injEq, and_true] at e
          obtain ⟨rfl, rfl⟩ := e
          have c1 := hcell1 wr hbw
          by_cases hq0 : q = 0
          · subst hq0
            obtain ⟨t, d, e1, e2⟩ := row_more (ps := r.pieces) hc (fun h => (gap_pos hq).1 h rfl)
            obtain ⟨z, hz⟩ : ∃ z, z = t.length := ⟨_, rfl⟩
            obtain rfl : T = t ++ [d] := hT.out.1.trans e1
            obtain rfl : m = z + 1 := by rw [hT.out.2, hz]; simp
            obtain ⟨g, cp, rfl⟩ := Joins.ownsRow_form hown (by omega)
            have d0 : wr.cell? ⟨g, z, none⟩ = some (.int .u8 (d.toNat : Int)) := by
              have h2 := hown.cellAt z (by omega)
              rw [byteCells_snoc] at h2
              rw [h2]
              simp [Lib.byteCells, hz]
            have d1 := hown.frozenAt z
            have hst := (hown.stored z (.int .u8 ((d + 1).toNat : Int))).1
            rw [hz, bump_cells, ← hz] at hst
            have HST := Lib.hid hst
            have hgl := hown.lt g rfl
            have HGL := Lib.hid hgl
            have Q1 := Lib.hid (wrap8_succ d)
            have HT1 : Hid (t ++ [d + 1] = rowG r.pieces (row.take (j + 1 + 1)) ∧ z + 1 = (t ++ [d + 1]).length) := Lib.hid ⟨e2.symm, by rw [hz]; simp⟩
            have hcpz : z + 1 ≤ cp := own_capP hown
            have q1 := Q1.out
            clear hc hcell hbel hbw hown hst hgl e1 e2 hz hq hcell1 x0 x1 x2 x3 x4 x5 x6 x7 x8 x9 x10
            go_wp2_with fail
            go_roundw
            case rel => exact ⟨j + 1 + 1, z + 1, t ++ [d + 1], by omega, by go_num, HST.out, hm8, HT1, Lib.hid (hbel2.out.setCell (p := ⟨g, z, none⟩) HGL.out.1 _)⟩
            case measure => simp [intOf]; omega
          · have HT1 : Hid (T ++ [49] = rowG r.pieces (row.take (j + 1 + 1)) ∧ m + 1 = (T ++ [49]).length) := Lib.hid ⟨by rw [hT.out.1]; exact (row_first HC.out ((gap_pos hq).2 hq0)).symm, by rw [hT.out.2]; simp⟩
            have hq1 : (q == 0) = false := by simpa using hq0
            clear hc hcell hbel hbw hown hq hcell1 hq0 x0 x1 x2 x3 x4 x5 x6 x7 x8 x9 x10
            go_wp2_with (at_builtin; refine wpList_append_own _ rfl _ _ 59 rfl w1.heap.size 5 i0 (.int .u8 0) 1 1 Tryz.underlying59 hi hz0 hz1 hz2 rfl (by decide) _ _ _ rfl (HOW.out.alloc _) ⟨wr.heap.size, 0, none⟩ 1 1 [.int .u8 49] rfl rfl (cell_one_new _ _ _) (by simp [Value.oneCell']) (by unfold maxLen; omega) (by omega) (by have := hbel2.out.size; simp; omega) ?_; intro v' w5 hown' hgrow _)
            have hg' : (wr.alloc (.cells #[.int .u8 49] 5)).grownBy w5 u5.ownBlock := hgrow
            have hle := HLE.out ((j + 1) + 1)
            rw [← HT1.out.1, ← HT1.out.2] at hle
            go_roundw
            case rel => exact ⟨(j + 1) + 1, m + 1, T ++ [49], by omega, by go_num, by rw [byteCells_snoc]; exact hown', hle, HT1, Lib.hid ((hbel2.out.alloc hbel2.out.size _).grown hg' (by have := hbel2.out.size; simp; omega) (fun k e => (HOW.out.lt k e).1))⟩
            case measure => simp [intOf]; omega
      · have hcn : (c != 0) = true := by simpa using hc0
        have HL := Lib.hid (HLT.out c wr (by have := HCB.out; omega) (List.mem_of_getElem? hc) hbw)
        obtain ⟨b, hb⟩ : ∃ b, b = cellB r.pieces c := ⟨_, rfl⟩
        rw [← hb] at HL
        have HT1 : Hid (T ++ [b] = rowG r.pieces (row.take (k + 1)) ∧ m + 1 = (T ++ [b]).length) := Lib.hid ⟨by rw [hT.out.1, hb]; exact (row_letter HC.out hc0).symm, by rw [hT.out.2]; simp⟩
        clear hc hcell hbel hbw hown hc0 hb
        go_wp2_with fail
        go_at_call 43; refine HL.out.mono ?_; rintro e w3 ⟨rfl, hb3⟩
        have HOW3 := Lib.hid (own_keepP HOW.out hb3)
        have hown3 := HOW3.out
        have hbel4 := hbel2
        have hbel2 : Hid (Below w1.heap.size w1 w3) := Lib.hid (hbel4.out.trans (hb3.mono hbel4.out.size))
        clear hb3 hbel4 x0 x1 x2 x3 x4 x5 x6 x7 x8 x9 x10
        go_wp2_with (at_builtin; refine wpList_append_own _ rfl _ _ 59 rfl w1.heap.size 5 i0 (.int .u8 0) 1 1 Tryz.underlying59 hi hz0 hz1 hz2 rfl (by decide) _ _ _ rfl (hown3.alloc _) ⟨w3.heap.size, 0, none⟩ 1 1 [.int .u8 (b.toNat : Int)] rfl rfl (cell_one_new _ _ _) (by simp [Value.oneCell']) (by unfold maxLen; omega) (by omega) (by have := hbel2.out.size; simp; omega) ?_; intro v' w5 hown' hgrow _)
        have hg' : (w3.alloc (.cells #[.int .u8 (b.toNat : Int)] 5)).grownBy w5 u5.ownBlock := hgrow
        have hle := HLE.out (k + 1)
        rw [← HT1.out.1, ← HT1.out.2] at hle
        go_roundw
        case rel => exact ⟨k + 1, m + 1, T ++ [b], by omega, by go_num, by rw [byteCells_snoc]; exact hown', hle, HT1, Lib.hid ((hbel2.out.alloc hbel2.out.size _).grown hg' (by have := hbel2.out.size; simp; omega) (fun k e => (HOW3.out.lt k e).1))⟩
        case measure => simp [intOf]; omega
    · obtain rfl : k = n := by omega
      have hTe : T = rowG r.pieces row := by rw [hT.out.1, List.take_of_length_le (by have := HN.out; omega)]
      have hm0 : 0 < m := by
        rw [hT.out.2, hTe]; exact List.length_pos_iff.2 (rowG_pos _ HNE.out)
      obtain ⟨g, cp, rfl⟩ := Joins.ownsRow_form hown hm0
      have hcv := bytes_conv hown hT.out.2
      rw [hTe] at hcv
      have HBW : Hid (Below w.heap.size w wr) := Lib.hid (HB.out.trans (hbel.out.mono HB.out.size))
      clear hown hbel hT hTe
      go_wp2_with fail
      go_ret
      exact ⟨rfl, HBW.out⟩
end Go.Proofs.YtakekeljndofcaaGreatDoor
