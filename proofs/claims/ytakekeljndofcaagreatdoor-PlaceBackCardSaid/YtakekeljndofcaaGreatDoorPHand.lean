/- place.handText: the text of a hand. -/
import Derived.Test.YtakekeljndofcaaGreatDoorPRow
import Derived.Test.YtakekeljndofcaaGreatDoorTab
set_option maxRecDepth 100000
namespace Go.Proofs.YtakekeljndofcaaGreatDoor
open Go.ChangeShapes Go.WideShapes Go.ChangeAt Go.RowKit

def handTo (ps : List PieceD) (h : List Int) (k : Nat) : List UInt8 := ((handsB ps h).take k).flatten
theorem handTo_succ {ps : List PieceD} {h : List Int} {k : Nat} {x : PieceD} {n : Int} (hx : ps[k]? = some x) (hn : h[k]? = some n) : handTo ps h (k + 1) = handTo ps h k ++ handB x n := by
  have e : (handsB ps h)[k]? = some (handB x n) := by rw [handsB, List.getElem?_zipWith, hx, hn]
  rw [handTo, List.take_add_one, e]
  simp [handTo]
theorem handTo_all {ps : List PieceD} {h : List Int} (hl : h.length = ps.length) : handTo ps h h.length = handL ps h := by
  rw [handTo, List.take_of_length_le (by simp [handsB, hl]), handL]
theorem handTo_len {ps : List PieceD} {h : List Int} (hb : ∀ n ∈ h, 0 ≤ n ∧ n ≤ 1000) : ∀ k, (handTo ps h k).length ≤ k * 5
  | 0 => by simp [handTo]
  | k + 1 => by
    have ih := handTo_len (ps := ps) hb k
    cases hx : (handsB ps h)[k]? with
    | none => 
      have e : handTo ps h (k + 1) = handTo ps h k := by rw [handTo, List.take_add_one, hx]; simp [handTo]
      rw [e, Nat.succ_mul]; omega
    | some t =>
      rw [handsB, List.getElem?_zipWith] at hx
      cases hp : ps[k]? with
      | none => rw [hp] at hx; simp at hx
      | some x =>
        cases hn : h[k]? with
        | none => rw [hp, hn] at hx; simp at hx
        | some n =>
          have h1 := hb n (List.mem_of_getElem? hn)
          have h2 := handB_len (x := x) h1.1 h1.2
          rw [handTo_succ hp hn, List.length_append, Nat.succ_mul]; omega
set_option maxHeartbeats 8000000 in
theorem handText_any (r : RulesD) (vp vs ve : Value) (h : List Int) (v : Value) (w : World) (hr : IsSl PieceAt 4 w vp r.pieces) (hv : IsSl IntAt 1 w v h) (h6 : r.pieces.length ≤ 6) (hcap : ∀ x ∈ r.pieces, 65 ≤ x.letter ∧ x.letter ≤ 90) (hl : h.length = r.pieces.length) (hb : ∀ n ∈ h, 0 ≤ n ∧ n ≤ 1000) (hT : Tb w.heap.size w) :
    Calls Tryz.prog 13 #[RulesV r vp vs ve, v] w (StrP (handT r.pieces h) w) := by
  obtain ⟨i0, hi, hz0, hz1, hz2⟩ := info_parts byteInfoP
  obtain ⟨n, hn⟩ : ∃ n, n = h.length := ⟨_, rfl⟩
  obtain ⟨a, cap, rfl, hcp, hat⟩ := hv.shape hn
  obtain ⟨pa, pc, rfl, hpc, pat⟩ := hr.shape (hn.trans hl)
  have HAT : Hid (∀ k, k < n → ∃ g off x, a = some ⟨g, off, none⟩ ∧ h[k]? = some x ∧ ∀ V, Below w.heap.size w V → V.cell? ⟨g, off + k, none⟩ = some (.int .i64 x)) := Lib.hid (fun k hk => by
    obtain ⟨g, off, x, e, hx, hq⟩ := hat k hk
    refine ⟨g, off, x, e, hx, fun V hV => ?_⟩
    have := cell_keeps hV (Nat.le_refl _) hq
    rwa [Nat.mul_one] at this)
  have HPT : Hid (∀ k, k < n → ∃ g off x, pa = some ⟨g, off, none⟩ ∧ r.pieces[k]? = some x ∧ ∀ V, Below w.heap.size w V → V.cell? ⟨g, off + k * 4, none⟩ = some (.int .u8 x.letter)) := Lib.hid (fun k hk => by
    obtain ⟨g, off, x, e, hx, u, hq, _⟩ := pat k hk
    exact ⟨g, off, x, e, hx, fun V hV => cell_keeps hV (Nat.le_refl _) hq⟩)
  have HN := Lib.hid hn
  have HLN := Lib.hid hl
  have HHB := Lib.hid hb
  have HCAP := Lib.hid hcap
  have HLE : Hid (∀ k, k ≤ n → (handTo r.pieces h k).length ≤ 30) := Lib.hid (fun k hk => by have := handTo_len (ps := r.pieces) hb k; omega)
  have hn6 : n ≤ 6 := by omega
  have hX := boxR_new w r (.slice pa n pc) vs ve 26
  have HX := Lib.hid hX
  have hB := (Below.refl w.heap.size w).alloc (Nat.le_refl _) (.cells (RulesCells r (.slice pa n pc) vs ve) 26)
  have HB := Lib.hid hB
  obtain ⟨w1, hw1⟩ : ∃ w1, w1 = w.alloc (.cells (RulesCells r (.slice pa n pc) vs ve) 26) := ⟨_, rfl⟩
  have HW1 : Hid (w.alloc (.cells #[.string r.name, .int .i64 r.width, .int .i64 r.height, .slice pa n pc, vs, .bool r.falls, .bool r.keeps, ve, .int .i64 r.blocked, .int .i64 r.quiet, .int .i64 r.rep] 26) = w1) := Lib.hid hw1.symm
  rw [← hw1] at HX HB hB
  have HTT : Hid (Tb w1.heap.size w1) := Lib.hid (hT.up hB hB.size)
  unfold RulesV
  clear hr hv hn hat pat hl hb hcap hX hw1 hB hT h6
  go_enter Tryz.func13, Tryz.ntmps13
  go_wp2_with fail
  rw [HW1.out]
  clear HW1
  go_loopw [5, 10] (fun v i wr => ∃ (k m : Nat) (T : List UInt8), k ≤ n ∧ i = .int .i64 (k : Int) ∧ wr.ownsRow w1.heap.size 5 1 v m (Lib.byteCells T) ∧ m ≤ 30 ∧ Hid (T = handTo r.pieces h k ∧ m = T.length) ∧ Hid (Below w1.heap.size w1 wr)) (fun _ i _ => n - (intOf i).toNat)
  case atStart => exact ⟨0, 0, [], by omega, rfl, World.ownsRow_nil _ _ _ _, by omega, Lib.hid ⟨rfl, rfl⟩, Lib.hid (Below.refl _ _)⟩
  case round =>
    obtain ⟨k, m, T, hk, rfl, hown, hm8, hT, hbel⟩ := hrel
    by_cases hlt : k < n
    · obtain ⟨g0, o0, c, rfl, hc, hcell⟩ := HAT.out k hlt
      obtain ⟨g1, o1, x, rfl, hx, hcelx⟩ := HPT.out k hlt
      have hbw := HB.out.trans (hbel.out.mono HB.out.size)
      have c0 := hcell wr hbw
      have c1 := hcelx wr hbw
      have HOW := Lib.hid hown
      obtain ⟨hc1, hc2⟩ := HHB.out c (List.mem_of_getElem? hc)
      obtain ⟨hx1, hx2⟩ := HCAP.out x (List.mem_of_getElem? hx)
      obtain ⟨x0, x1, x2, x3, x4, x5, x6, x7, x8, x9, x10⟩ := HX.out.below hbel.out (Nat.le_refl _)
      by_cases hc0 : 0 < c
      · have hle := HLE.out (k + 1) (by omega)
        rw [handTo_succ hx hc, ← hT.out.1, handB, if_pos hc0, List.length_append, List.length_append, lettB_le, ← hT.out.2] at hle
        have HT1 : Hid (T ++ (lettB x ++ num c) = handTo r.pieces h (k + 1)) := Lib.hid (by rw [handTo_succ hx hc, ← hT.out.1, handB, if_pos hc0])
        have HLV : Hid (((UInt8.ofNat x.letter.toNat).toNat : Int) = x.letter) := Lib.hid (by rw [UInt8.toNat_ofNat']; omega)
        have hbel2 := hbel
        have HTB := Lib.hid (HTT.out.below hbel.out)
        clear hc hcell hx hcelx hbel hbw hown x0 x1 x2 x4 x5 x6 x7 x8 x9 x10
        go_wp2_with (at_builtin; refine wpList_append_own _ rfl _ _ 59 rfl w1.heap.size 5 i0 (.int .u8 0) 1 1 Tryz.underlying59 hi hz0 hz1 hz2 rfl (by decide) _ _ _ rfl (HOW.out.alloc _) ⟨wr.heap.size, 0, none⟩ 1 1 [.int .u8 x.letter] rfl rfl (cell_one_new _ _ _) (by simp [Value.oneCell']) (by unfold maxLen; omega) (by omega) (by have := hbel2.out.size; simp; omega) ?_; intro v' w5 hown' hgrow _)
        have hg' : (wr.alloc (.cells #[.int .u8 x.letter] 5)).grownBy w5 u5.ownBlock := hgrow
        have hb5 : Below w1.heap.size w1 w5 := (hbel2.out.alloc hbel2.out.size _).grown hg' (by have := hbel2.out.size; simp; omega) (fun k e => (HOW.out.lt k e).1)
        have ho5 : w5.ownsRow w1.heap.size 5 1 v' (m + 1) (Lib.byteCells (T ++ lettB x)) := by
          rw [lettB, byteCells_snoc, HLV.out]; exact hown'
        refine (Tryz.strconv_AppendInt_10 w1.heap.size (m + 1) c (by omega) (by omega) v' (Lib.byteCells (T ++ lettB x)) w5 ho5 hb5.size (by omega) (HTT.out.below hb5)).mono ?_
        rintro e w6 ⟨v6, rfl, ho6, hb6, -⟩
        have ho7 : w6.ownsRow w1.heap.size 5 1 v6 (m + (1 + (num c).length)) (Lib.byteCells (T ++ (lettB x ++ num c))) := by
          have e1 : Lib.byteCells (T ++ lettB x) ++ Lib.byteCells (Lib.itoa c) = Lib.byteCells (T ++ (lettB x ++ num c)) := by simp [Lib.byteCells, num]
          rw [e1, Nat.add_assoc] at ho6
          exact ho6
        have HOW6 := Lib.hid ho7
        have HB6 := Lib.hid (hb5.trans hb6)
        have HM : Hid (m + (1 + (num c).length) = (T ++ (lettB x ++ num c)).length) := Lib.hid (by rw [List.length_append, List.length_append, lettB_le, ← hT.out.2])
        clear hown' hgrow hg' hb5 ho5 ho6 hb6 ho7 hbel2 HTB
        go_wp2_with fail
        go_roundw
        case rel => exact ⟨k + 1, m + (1 + (num c).length), T ++ (lettB x ++ num c), by omega, by go_num, HOW6.out, hle, Lib.hid ⟨HT1.out, HM.out⟩, HB6⟩
        case measure => simp [intOf]; omega
      · have HT1 : Hid (T = handTo r.pieces h (k + 1) ∧ m = T.length) := Lib.hid ⟨by rw [handTo_succ hx hc, ← hT.out.1, handB, if_neg hc0, List.append_nil], hT.out.2⟩
        have hc3 : c = 0 := by omega
        subst hc3
        have hbel2 := hbel
        clear hc hcell hx hcelx hbel hbw hown x0 x1 x2 x3 x4 x5 x6 x7 x8 x9 x10 c1 hc0
        go_wp2_with fail
        go_roundw
        case rel => exact ⟨k + 1, m, T, by omega, by go_num, HOW.out, hm8, HT1, hbel2⟩
        case measure => simp [intOf]; omega
    · obtain rfl : k = n := by omega
      have hTe : T = handL r.pieces h := by rw [hT.out.1, HN.out]; exact handTo_all HLN.out
      have HBW : Hid (Below w.heap.size w wr) := Lib.hid (HB.out.trans (hbel.out.mono HB.out.size))
      by_cases hm0 : m = 0
      · have HE : Hid (handT r.pieces h = [45]) := Lib.hid (by
          rw [handT, ← hTe, if_pos (List.length_eq_zero_iff.1 (by rw [← hT.out.2, hm0]))])
        subst hm0
        obtain ⟨ao, cp, rfl⟩ : ∃ ao cp, u5 = .slice ao 0 cp := by
          rcases Joins.ownsRow_forms hown with ⟨h1, _⟩ | ⟨g, cp, h1⟩
          · exact ⟨_, _, h1⟩
          · exact ⟨_, _, h1⟩
        clear hown hbel hT hTe
        go_wp2_with fail
        go_ret
        exact ⟨by rw [HE.out]; rfl, HBW.out⟩
      · have HE : Hid (handT r.pieces h = handL r.pieces h) := Lib.hid (by
          rw [handT, ← hTe, if_neg (fun e => hm0 (by rw [hT.out.2, e]; rfl))])
        obtain ⟨g, cp, rfl⟩ := Joins.ownsRow_form hown (by omega)
        have hcv := bytes_conv hown hT.out.2
        rw [hTe] at hcv
        have hm1 : ((m : Int) == 0) = false := by simpa using hm0
        clear hown hbel hT hTe hm0
        go_wp2_with fail
        go_ret
        exact ⟨by rw [HE.out]; rfl, HBW.out⟩
end Go.Proofs.YtakekeljndofcaaGreatDoor
