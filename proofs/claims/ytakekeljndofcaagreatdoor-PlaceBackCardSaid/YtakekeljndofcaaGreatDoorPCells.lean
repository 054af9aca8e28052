/- place.cellsText: the text of the cells. -/
import Derived.Test.YtakekeljndofcaaGreatDoorPRow
import Derived.Test.YtakekeljndofcaaGreatDoorShelf
import Derived.Test.YtakekeljndofcaaGreatDoorDec
import Derived.Deep.RegionHeld3
import Derived.Deep.AppendLies
set_option maxRecDepth 100000
namespace Go.Proofs.YtakekeljndofcaaGreatDoor
open Go.ChangeShapes Go.WideShapes Go.ChangeAt Go.RowKit Go.Deep

theorem slice_mid (g o A cs P Q R : Nat) (hQ : Q = P + R) (h : Q ≤ cs) (hR : 0 < R) : ∀ w, Sem.run Tryz.prog (Instr.slice 23 (.slice (some ⟨g, o, none⟩) A cs) (some (.int .i64 P)) (some (.int .i64 Q)) none) w = .ok (.slice (some ⟨g, o + P, none⟩) R (cs - P)) w := by
  intro w
  subst hQ
  go_simp
  have e : ((P : Int) + (R : Int)).toNat = P + R := by omega
  rw [if_pos (by omega), if_pos (by omega), if_neg (by omega), e, Nat.add_sub_cancel_left]
theorem sub_ints {W : World} {g o n cap P R : Nat} {xs : List Int} (h : IsSl IntAt 1 W (.slice (some ⟨g, o, none⟩) n cap) xs) (hn : n = xs.length) (hR : 0 < R) (hP : P + R ≤ n) : IsSl IntAt 1 W (.slice (some ⟨g, o + P, none⟩) R (cap - P)) ((xs.drop P).take R) := by
  have hl : ((xs.drop P).take R).length = R := by rw [List.length_take, List.length_drop]; omega
  rcases h with ⟨h0, _⟩ | ⟨g', off, cap', e1, e2, e3, e4, hc⟩
  · rw [h0] at hn; simp at hn; omega
  · simp only [Value.slice.injEq, Option.some.injEq, Addr.mk.injEq, and_true] at e1
    obtain ⟨⟨rfl, rfl⟩, -, rfl⟩ := e1
    refine .inr ⟨g, o + P, cap - P, by rw [hl], ?_, by rw [hl]; omega, by omega, fun i x hx => ?_⟩
    · intro e; rw [e] at hl; simp at hl; omega
    · have hi : i < R := by have := (List.getElem?_eq_some_iff.1 hx).1; omega
      rw [List.getElem?_take, if_pos hi, List.getElem?_drop] at hx
      have := hc (P + i) x hx
      rw [IntAt, Nat.mul_one] at this ⊢
      rw [Nat.add_assoc]; exact this
def strV (ls : List (List UInt8)) : List Value := ls.map fun x => .string (str x)
theorem strV_snoc (ls : List (List UInt8)) (x : List UInt8) : strV (ls ++ [x]) = strV ls ++ [.string (str x)] := by simp [strV]
theorem strInfoP : (Tryz.prog.info? 9).map (fun i => (i.zero, i.size, i.bytes)) = some (some (.string ⟨#[]⟩), 1, 16) := by kernel_rfl
/-- strings.Join of a slice whose cells are known. -/
theorem join_cells {g n cap : Nat} {ls : List (List UInt8)} {W : World} (c : UInt8) (hc : ∀ j x, ls[j]? = some x → W.cell? ⟨g, j, none⟩ = some (.string (str x))) (hg : g < W.heap.size) (hcap : n ≤ cap) (hn : n = ls.length) (hl : (Lib.join ls [c]).length ≤ 100000) (h10 : n ≤ 100) :
    Calls Tryz.prog 15 #[.slice (some ⟨g, 0, none⟩) n cap, .string ⟨#[c]⟩] W (StrP (Lib.join ls [c]) W) := by
  have e1 : (ls.map str).map (·.data.toList) = ls := by
    rw [List.map_map]
    have : ((fun x : ByteArray => x.data.toList) ∘ str) = id := by funext x; simp [str]
    rw [this, List.map_id]
  have e2 : (ls.map str).length = n := by rw [List.length_map, hn]
  have h1 := Tryz.strings_Join g 0 cap (ls.map str) ⟨#[c]⟩ W (by
    intro j x hx
    rw [List.getElem?_map, Option.map_eq_some_iff] at hx
    obtain ⟨y, hy, rfl⟩ := hx
    rw [Nat.zero_add]; exact hc j y hy) hg (by rw [e2]; omega) (by rw [e2]; exact hcap) (by
    rw [e1]
    have : (⟨#[c]⟩ : ByteArray).data.toList = [c] := rfl
    rw [this]; omega)
  rw [e1, e2] at h1
  exact h1
/-- strings.Join of a slice of one's own. -/
theorem join_own {B g n cap : Nat} {ls : List (List UInt8)} {W : World} (c : UInt8) (h : W.ownsRow B 9 1 (.slice (some ⟨g, 0, none⟩) n cap) n (strV ls)) (hn : n = ls.length) (hl : (Lib.join ls [c]).length ≤ 100000) (h10 : n ≤ 100) :
    Calls Tryz.prog 15 #[.slice (some ⟨g, 0, none⟩) n cap, .string ⟨#[c]⟩] W (StrP (Lib.join ls [c]) W) := by
  refine join_cells c (fun j x hx => ?_) (h.lt g rfl).2 (own_capP h) hn hl h10
  have hj := (List.getElem?_eq_some_iff.1 hx).1
  have h2 := h.cellAt j (by omega)
  rw [strV, List.getElem?_map, hx] at h2
  exact h2
/-- What is left of the rows. -/
theorem rowsT_split {ps : List PieceD} {W : Nat} {cs : List Int} {H k : Nat} {D : List (List UInt8)} (h : D ++ rowsT ps W cs (k + 1) = rowsT ps W cs H) : (D ++ [rowT ps W cs k]) ++ rowsT ps W cs k = rowsT ps W cs H := by
  rw [← h, rowsT]; simp
set_option maxHeartbeats 8000000 in
theorem cellsText_any (r : RulesD) (vp vs ve : Value) (cells : List Int) (v : Value) (w : World) (hr : IsSl PieceAt 4 w vp r.pieces) (hv : IsSl IntAt 1 w v cells) (hok : ROk r) (hcl : (cells.length : Int) = r.width * r.height) (hcs : ∀ c ∈ cells, 0 ≤ c ∧ c ≤ 2 * (r.pieces.length : Int)) :
    Calls Tryz.prog 12 #[RulesV r vp vs ve, v] w (StrP (cellsT r.pieces r.width.toNat r.height.toNat cells) w) := by
  obtain ⟨i1, hi1, hy0, hy1, hy2⟩ := info_parts strInfoP
  obtain ⟨W, hW⟩ := Int.eq_ofNat_of_zero_le (show 0 ≤ r.width by have := hok.w1; omega)
  obtain ⟨H, hH⟩ := Int.eq_ofNat_of_zero_le (show 0 ≤ r.height by have := hok.h1; omega)
  obtain ⟨hW1, hW8⟩ : 1 ≤ W ∧ W ≤ 8 := by have := hok.w1; have := hok.w2; omega
  obtain ⟨hH1, hH8⟩ : 1 ≤ H ∧ H ≤ 8 := by have := hok.h1; have := hok.h2; omega
  obtain ⟨A, hA⟩ : ∃ A : Nat, A = cells.length := ⟨_, rfl⟩
  have hAA : A = W * H := by rw [hW, hH, ← hA, ← Int.natCast_mul] at hcl; exact Int.ofNat_inj.1 hcl
  have hA0 : 0 < A := by rw [hAA]; exact Nat.mul_pos (by omega) (by omega)
  obtain ⟨ac, cs, rfl, hcp, hat⟩ := hv.shape hA
  obtain ⟨g, o, x, rfl, -⟩ := hat 0 hA0
  clear hat
  have hPA : ∀ y, y < H → y * W + W ≤ A := fun y hy => by rw [hAA, ← Nat.succ_mul, Nat.mul_comm W H]; exact Nat.mul_le_mul_right W (by omega)
  have HRT : Hid (∀ y P V, y < H → P = y * W → Below w.heap.size w V → Calls Tryz.prog 24 #[RulesV r vp vs ve, .slice (some ⟨g, o + P, none⟩) W (cs - P)] V (StrP (rowT r.pieces W cells y) V)) := Lib.hid (fun y P V hy hP hV => by
    subst hP
    have hs := sub_ints (P := y * W) (R := W) (hv.below int_keeps hV (Nat.le_refl _)) hA (by omega) (hPA y hy)
    have hl : (rowOf W cells y).length = W := by rw [rowOf, List.length_take, List.length_drop]; have := hPA y hy; omega
    exact rowText_any r vp vs ve (rowOf W cells y) _ V (hr.below piece_keeps hV (Nat.le_refl _)) hs hok.p6 (fun x hx => (hok.ps x hx).1) (by omega) (fun e => by rw [e] at hl; simp at hl; omega) (fun c hc => hcs c (List.mem_of_mem_drop (List.mem_of_mem_take hc))))
  have HPA := Lib.hid hPA
  have HWE := Lib.hid hW
  have HHE := Lib.hid hH
  have HJL : Hid ((Lib.join (rowsT r.pieces W cells H) [47]).length ≤ 100000) := Lib.hid (by have := cellsT_len (ps := r.pieces) (cs := cells) hW8 hH8; rw [cellsT] at this; omega)
  rw [hW, hH, Int.toNat_natCast, Int.toNat_natCast]
  have hX := boxR_new w r vp vs ve 26
  have HX := Lib.hid hX
  have HB := Lib.hid ((Below.refl w.heap.size w).alloc (Nat.le_refl _) (.cells (RulesCells r vp vs ve) 26))
  obtain ⟨w1, hw1⟩ : ∃ w1, w1 = w.alloc (.cells (RulesCells r vp vs ve) 26) := ⟨_, rfl⟩
  have HW1 : Hid (w.alloc (.cells #[.string r.name, .int .i64 (W : Int), .int .i64 (H : Int), vp, vs, .bool r.falls, .bool r.keeps, ve, .int .i64 r.blocked, .int .i64 r.quiet, .int .i64 r.rep] 26) = w1) := Lib.hid (by rw [hw1, RulesCells, hW, hH])
  rw [← hw1] at HX HB
  unfold RulesV at HRT ⊢
  rw [hW, hH] at HRT ⊢
  have hA64 : A ≤ 64 := by rw [hAA]; exact Nat.mul_le_mul hW8 hH8
  clear hr hv hok hcl hcs hPA hX hw1 hAA hA hW hH
  go_enter Tryz.func12, Tryz.ntmps12
  go_wp2_with fail
  rw [HW1.out]
  clear HW1
  go_loopw [5, 6] (fun v y wr => ∃ (k m : Nat) (D : List (List UInt8)), k ≤ H ∧ y = .int .i64 ((k : Int) - 1) ∧ wr.ownsRow w1.heap.size 9 1 v m (strV D) ∧ m + k = H ∧ Hid (D ++ rowsT r.pieces W cells k = rowsT r.pieces W cells H ∧ m = D.length) ∧ Hid (Below w1.heap.size w1 wr)) (fun _ y _ => (intOf y + 1).toNat)
  case atStart => exact ⟨H, 0, [], Nat.le_refl _, rfl, World.ownsRow_nil _ _ _ _, by omega, Lib.hid ⟨rfl, rfl⟩, Lib.hid (Below.refl _ _)⟩
  case round =>
    obtain ⟨k, m, D, hk, rfl, hown, hmk, hD, hbel⟩ := hrel
    rcases k with _ | y
    · rw [show (((0 : Nat) : Int) - 1) = -1 from rfl]
      obtain ⟨gd, cp, rfl⟩ := Joins.ownsRow_form hown (by omega)
      have hDe : D = rowsT r.pieces W cells H := by have := hD.out.1; rw [rowsT, List.append_nil] at this; exact this
      have HJ := Lib.hid (join_own 47 hown hD.out.2 (by rw [hDe]; exact HJL.out) (by omega))
      have HE : Hid (Lib.join D [47] = cellsT r.pieces W H cells) := Lib.hid (by rw [hDe]; rfl)
      have HBW : Hid (Below w.heap.size w wr) := Lib.hid (HB.out.trans (hbel.out.mono HB.out.size))
      clear hown hD hDe hbel
      go_wp2_with fail
      go_at_call 15; refine HJ.out.mono ?_; rintro e w3 ⟨rfl, hb3⟩
      have HB3 : Hid (Below w.heap.size w w3) := Lib.hid (HBW.out.trans (hb3.mono HBW.out.size))
      clear hb3
      go_wp2_with fail
      go_ret
      exact ⟨by rw [← HE.out]; rfl, HB3.out⟩
    · rw [show (((y + 1 : Nat) : Int) - 1) = (y : Int) by omega]
      obtain ⟨P, hP⟩ : ∃ P : Nat, P = y * W := ⟨_, rfl⟩
      obtain ⟨y1, hy1⟩ : ∃ y1 : Nat, y1 = y + 1 := ⟨_, rfl⟩
      obtain ⟨Q, hQ⟩ : ∃ Q : Nat, Q = P + W := ⟨_, rfl⟩
      have hQA : Q ≤ A := by rw [hQ, hP]; exact HPA.out y (by omega)
      have hPI : (y : Int) * (W : Int) = (P : Int) := by rw [hP, Int.natCast_mul]
      have hQI : (y1 : Int) * (W : Int) = (Q : Int) := by rw [hQ, hP, hy1, Int.natCast_add, Int.natCast_add, Int.add_mul, Int.natCast_mul]; simp
      have Q3 : Hid (IntKind.i64.wrap ((y : Int) * (W : Int)) = (P : Int)) := Lib.hid (by rw [hPI, IntWalk.i64_in _ (by omega)])
      have Q4 : Hid (IntKind.i64.wrap ((y : Int) + 1) = (y1 : Int)) := Lib.hid (by rw [IntWalk.i64_in _ (by omega)]; omega)
      have Q5 : Hid (IntKind.i64.wrap ((y1 : Int) * (W : Int)) = (Q : Int)) := Lib.hid (by rw [hQI, IntWalk.i64_in _ (by omega)])
      have HSL := Lib.hid (slice_mid g o A cs P Q W hQ (by omega) (by omega))
      have HR := Lib.hid (fun V => HRT.out y P V (by omega) hP)
      have HD1 : Hid ((D ++ [rowT r.pieces W cells y]) ++ rowsT r.pieces W cells y = rowsT r.pieces W cells H ∧ m + 1 = (D ++ [rowT r.pieces W cells y]).length) := Lib.hid ⟨rowsT_split hD.out.1, by rw [hD.out.2]; simp⟩
      obtain ⟨X, hX⟩ : ∃ X, X = rowT r.pieces W cells y := ⟨_, rfl⟩
      rw [← hX] at HR HD1
      have HOW := Lib.hid hown
      have hxb := HX.out.below hbel.out (Nat.le_refl _)
      obtain ⟨x0, x1, x2, x3, x4, x5, x6, x7, x8, x9, x10⟩ := hxb
      rw [HWE.out] at x1
      rw [HHE.out] at x2
      have q3 := Q3.out
      have q4 := Q4.out
      have q5 := Q5.out
      have hsl := HSL.out
      have hbel2 := hbel
      have hbw : Below w.heap.size w wr := HB.out.trans (hbel.out.mono HB.out.size)
      have HBW := Lib.hid hbw
      clear hown hD hbel hP hQ hy1 hPI hQI hX hbw Q3 Q4 Q5 HSL
      go_wp2_with fail
      go_region_held3 (fun w' => w'.cell? ⟨w.heap.size, 0, none⟩ = some (.string r.name) ∧ w'.cell? ⟨w.heap.size, 1, none⟩ = some (.int .i64 (W : Int)) ∧ w'.cell? ⟨w.heap.size, 2, none⟩ = some (.int .i64 (H : Int)) ∧ w'.cell? ⟨w.heap.size, 3, none⟩ = some vp ∧ w'.cell? ⟨w.heap.size, 4, none⟩ = some vs ∧ w'.cell? ⟨w.heap.size, 5, none⟩ = some (.bool r.falls) ∧ w'.cell? ⟨w.heap.size, 6, none⟩ = some (.bool r.keeps) ∧ w'.cell? ⟨w.heap.size, 7, none⟩ = some ve ∧ w'.cell? ⟨w.heap.size, 8, none⟩ = some (.int .i64 r.blocked) ∧ w'.cell? ⟨w.heap.size, 9, none⟩ = some (.int .i64 r.quiet) ∧ w'.cell? ⟨w.heap.size, 10, none⟩ = some (.int .i64 r.rep)) (go_keep) (first
        | (go_at_call 24; refine (HR.out _ HBW.out.drew).mono ?_; rintro e w6 ⟨rfl, hb6⟩; have hB6 := (Below.refl wr.heap.size wr).drew.trans hb6; have k0 := cell_keeps hB6 (Nat.le_refl _) x0; have k1 := cell_keeps hB6 (Nat.le_refl _) x1; have k2 := cell_keeps hB6 (Nat.le_refl _) x2; have k3 := cell_keeps hB6 (Nat.le_refl _) x3; have k4 := cell_keeps hB6 (Nat.le_refl _) x4; have k5 := cell_keeps hB6 (Nat.le_refl _) x5; have k6 := cell_keeps hB6 (Nat.le_refl _) x6; have k7 := cell_keeps hB6 (Nat.le_refl _) x7; have k8 := cell_keeps hB6 (Nat.le_refl _) x8; have k9 := cell_keeps hB6 (Nat.le_refl _) x9; have k10 := cell_keeps hB6 (Nat.le_refl _) x10; have hown6 := own_keepP HOW.out hB6)
        | (refine step_append_lies _ (by rfl) _ _ _ (by rfl) w1.heap.size 9 i1 _ 1 16 Tryz.underlying44 hi1 hy0 hy1 hy2 rfl (by omega) _ m (strV D) (by rfl) (hown6.alloc _) ⟨w6.heap.size, 0, none⟩ 1 1 [.string (str X)] (by rfl) rfl (cell_one_new _ _ _) (by simp [Value.oneCell']) (by omega) (by unfold maxLen; omega) (by omega) (by have := hbel2.out.size; have := hB6.size; simp; omega) (w6.heap.size + 1) (by simp) ?_; intro gn capn w7 hown7 hgrow7 hat7 hlt7; have hB7 : Below w1.heap.size w1 w7 := ((hbel2.out.trans (hB6.mono hbel2.out.size)).alloc (by have := hbel2.out.size; have := hB6.size; omega) _).grown hgrow7 (by have := hbel2.out.size; have := hB6.size; simp; omega) (fun k e => (hown6.lt k e).1); have hx7 := HX.out.below hB7 (Nat.le_refl _); obtain ⟨k0, k1, k2, k3, k4, k5, k6, k7, k8, k9, k10⟩ := hx7; rw [HWE.out] at k1; rw [HHE.out] at k2))
      rw [← strV_snoc] at hown7
      have HO7 := Lib.hid hown7
      have HB7 := Lib.hid hB7
      clear hown7 hB7 hgrow7 hat7 hlt7 hown6 hB6 hb6
      go_wp2_with fail
      go_roundw
      case rel => exact ⟨y, m + 1, D ++ [X], by omega, by go_num, HO7.out, by omega, HD1, HB7⟩
      case measure => simp [intOf]
end Go.Proofs.YtakekeljndofcaaGreatDoor
