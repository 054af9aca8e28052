/- moves.puts: the moves that put a piece of the hand. -/
import Derived.Test.YthbilpgecombiaaMvM
import Derived.Test.YthbilpgecombiaaMovW
set_option maxRecDepth 100000
namespace Go.Proofs.Ythbilpgecombiaa
open Go.ChangeShapes Go.WideShapes Go.ChangeAt Go.RowKit

theorem infoMove : (Try.prog.info? 31).map (fun i => (i.zero, i.size, i.bytes)) = some (some (.agg #[.int .i64 0, .int .i64 0, .int .i64 0]), 3, 24) := by kernel_rfl
theorem cell_new3 (W : World) (a b c : Int) (t : TypeId) : ∀ j u, (mc (a, b, c))[j]? = some u → (W.alloc (.cells #[.int .i64 a, .int .i64 b, .int .i64 c] t)).cell? (Addr.add ⟨W.heap.size, 0, none⟩ j) = some u := by
  intro j u hj
  rw [Addr.add_lit, World.cell?_alloc_at (hn := rfl), Nat.zero_add]
  unfold mc at hj
  rw [← hj]
  show (#[Value.int .i64 a, .int .i64 b, .int .i64 c] : Array Value)[j]? = _
  rw [List.getElem?_toArray]
theorem owns_below {W W' : World} {B : Nat} {e : TypeId} {k : Nat} {v : Value} {n : Nat} {xs : List Value} (h : W.ownsRow B e k v n xs) (hb : Below W.heap.size W W') : W'.ownsRow B e k v n xs := by
  refine ⟨h.1, ?_⟩
  rcases h.2 with h2 | ⟨g, cap, cur, e1, e2, e3, e4⟩
  · exact .inl h2
  · exact .inr ⟨g, cap, cur, e1, e2, (hb.block g (Array.getElem?_eq_some_iff.1 e3).1).trans e3, e4⟩
def putsTo (r : RulesD) (p : PlaceD) (k : Nat) : List MoveD := ((squares p).take k).flatMap (putAt r p)
theorem putsTo_succ (r : RulesD) (p : PlaceD) {k : Nat} (hk : k < p.cells.length) : putsTo r p (k + 1) = putsTo r p k ++ putAt r p (k : Int) := by
  unfold putsTo
  have h : (squares p)[k]? = some (k : Int) := by simp [squares, hk]
  rw [List.take_add_one, h, List.flatMap_append]
  simp
theorem putsTo_all (r : RulesD) (p : PlaceD) : putsTo r p p.cells.length = putsD r p := by
  unfold putsTo putsD
  rw [List.take_of_length_le (by rw [squares_length]; exact Nat.le_refl _)]
theorem putsTo_length {r : RulesD} {p : PlaceD} (h : POkay r p) (k : Nat) (hk : k ≤ p.cells.length) : (putsTo r p k).length ≤ 384 := by
  have h1 := flat_length (putAt r p) 6 ((squares p).take k) fun t _ => putAt_length h t
  rw [List.length_take, squares_length] at h1
  have := (cells_len h).2
  unfold putsTo
  omega
def kindsTo (p : PlaceD) (j : Nat) : List Int := ((List.range j).filter fun k => decide (0 < (handI p)[k]?.getD 0)).map fun k : Nat => (k : Int)
theorem kindsTo_succ (p : PlaceD) (j : Nat) : kindsTo p (j + 1) = kindsTo p j ++ (if 0 < (handI p)[j]?.getD 0 then [(j : Int)] else []) := by
  unfold kindsTo
  rw [List.range_succ, List.filter_append, List.map_append]
  congr 1
  by_cases h : 0 < (handI p)[j]?.getD 0 <;> simp [h]
def putK (t : Int) (ks : List Int) : List MoveD := ks.map fun k => (-1, t, k)
theorem putAt_free {r : RulesD} {p : PlaceD} {t : Int} (h : freeB r p t = true) : putAt r p t = putK t (kindsTo p (handI p).length) := by
  unfold putAt putK kindsTo kindsOf; rw [if_pos h]
theorem putAt_not {r : RulesD} {p : PlaceD} {t : Int} (h : freeB r p t = false) : putAt r p t = [] := by unfold putAt; rw [if_neg (by simp [h])]
set_option maxHeartbeats 8000000 in
theorem puts_any (r : RulesD) (p : PlaceD) (vp vs ve vc v0 v1 : Value) (w : World) (hp : PlaceIn w p vc v0 v1) (hk : POkay r p) :
    Calls Try.prog 57 #[RulesV r vp vs ve, PlaceV p vc v0 v1] w (SlPost MoveAt 3 (putsD r p) w) := by
  obtain ⟨i0, hi, hz0, hz1, hz2⟩ := info_parts infoMove
  have hcl := cells_len hk
  have hnl := pieces_len hk.e
  have hHL := hand_len hk
  have HSU : Hid (∀ (t : Int), 0 ≤ t → t < p.cells.length → ∀ W, PlaceIn W p vc v0 v1 → Calls Try.prog 82 #[RulesV r vp vs ve, PlaceV p vc v0 v1, .int .i64 t] W (BelPost (.bool (suppB r p t)) W)) := Lib.hid (fun t h0 h1 W h => isSupported_any r p vp vs ve vc v0 v1 t W h hk h0 h1)
  have HPL : Hid (∀ k, k ≤ p.cells.length → (putsTo r p k).length ≤ 384) := Lib.hid (fun k h => putsTo_length hk k h)
  have HP := Lib.hid hp
  obtain ⟨g, off, cc, rfl, hcc, hcell⟩ := ints_open hp.c hcl.1
  obtain ⟨hv, hhv⟩ : ∃ v, v = if p.turn = 0 then v0 else v1 := ⟨_, rfl⟩
  have hIH : IsSl IntAt 1 w hv (handI p) := by
    unfold handI; rw [hhv]; split
    · exact hp.a
    · exact hp.b
  obtain ⟨gh, oh, ch, rfl, hch, hhc⟩ := ints_open hIH (by omega)
  obtain ⟨m, hm⟩ : ∃ m, m = p.cells.length := ⟨_, rfl⟩
  obtain ⟨n, hn⟩ : ∃ n, n = (handI p).length := ⟨_, rfl⟩
  have HNN := Lib.hid hn
  have HM := Lib.hid hm
  rw [← hm] at hcl hcc hcell HSU HPL
  have HP2 : Hid (PlaceIn w p (.slice (some ⟨g, off, none⟩) m cc) v0 v1) := Lib.hid (by rw [hm]; exact HP.out)
  rw [← hm] at ⊢
  rw [← hn] at hch hhc hhv hHL
  have hn6 : n ≤ 6 := by omega
  have hm64 := hcl.2
  obtain ⟨tn, htn⟩ : ∃ tn : Nat, p.turn = (tn : Int) := ⟨p.turn.toNat, by have := hk.t0; omega⟩
  have htn1 : tn ≤ 1 := by have := hk.t1; omega
  obtain ⟨hB, hY, hX⟩ := rp_boxes w r p vp vs ve (.slice (some ⟨g, off, none⟩) m cc) v0 v1
  have hXH : ((w.alloc (.cells (RulesCells r vp vs ve) 26)).alloc (.cells (PlaceCells p (.slice (some ⟨g, off, none⟩) m cc) v0 v1) 29)).cell? ⟨w.heap.size + 1, 1 + tn, none⟩ = some (.slice (some ⟨gh, oh, none⟩) n ch) := by
    obtain ⟨_, x1, x2, _, _⟩ := hX
    have h2 : tn = 0 ∨ tn = 1 := by omega
    rcases h2 with h2 | h2
    · rw [hhv, if_pos (by rw [htn, h2]; rfl), h2]; exact x1
    · rw [hhv, if_neg (by rw [htn, h2]; decide), h2]; exact x2
  unfold RulesV PlaceV at HSU
  unfold RulesCells at hB hY hX hXH
  unfold PlaceCells at hB hY hX hXH HSU
  unfold RulesV PlaceV PlaceCells
  obtain ⟨f, hf⟩ : ∃ f, r.falls = f := ⟨_, rfl⟩
  rw [htn, hf] at hB hX hXH HSU ⊢
  rw [htn, hf] at hY
  have HF := Lib.hid hf
  have HV : ∃ V, V = ((w.alloc (.cells #[.string r.name, .int .i64 r.width, .int .i64 r.height, vp, vs, .bool f, .bool r.keeps, ve, .int .i64 r.blocked, .int .i64 r.quiet, .int .i64 r.rep] 26)).alloc (.cells #[.slice (some ⟨g, off, none⟩) m cc, v0, v1, .int .i64 (tn : Int), .int .i64 p.quiet] 29)) := ⟨_, rfl⟩
  obtain ⟨V, hV⟩ := HV
  rw [← hV] at hB hY hX hXH
  have HB := Lib.hid hB
  have HC : Hid (∀ W, Below V.heap.size V W → ∀ j, j < m → W.cell? ⟨g, off + j, none⟩ = some (.int .i64 (cellI p (j : Int)))) := Lib.hid (fun W hb j hj => by
    rw [cellI, Int.toNat_natCast]; exact cell_keeps hb (Nat.le_refl _) (cell_keeps hB (Nat.le_refl _) (hcell j hj)))
  have HHC : Hid (∀ W, Below V.heap.size V W → ∀ j, j < n → W.cell? ⟨gh, oh + j, none⟩ = some (.int .i64 ((handI p)[j]?.getD 0))) := Lib.hid (fun W hb j hj => cell_keeps hb (Nat.le_refl _) (cell_keeps hB (Nat.le_refl _) (hhc j hj)))
  have HX : Hid (∀ W, Below V.heap.size V W → (BoxP W (w.heap.size + 1) p (.slice (some ⟨g, off, none⟩) m cc) v0 v1) ∧ W.cell? ⟨w.heap.size + 1, 1 + tn, none⟩ = some (.slice (some ⟨gh, oh, none⟩) n ch)) := Lib.hid (fun W hb => ⟨hX.below hb (Nat.le_refl _), cell_keeps hb (Nat.le_refl _) hXH⟩)
  have HY : Hid (∀ W, Below V.heap.size V W → BoxR W w.heap.size r vp vs ve) := Lib.hid (fun W hb => hY.below hb (Nat.le_refl _))
  have HSV : Hid (∀ (j : Nat), j < m → ∀ W, Below V.heap.size V W → Calls Try.prog 82 #[.agg #[.string r.name, .int .i64 r.width, .int .i64 r.height, vp, vs, .bool f, .bool r.keeps, ve, .int .i64 r.blocked, .int .i64 r.quiet, .int .i64 r.rep], .agg #[.slice (some ⟨g, off, none⟩) m cc, v0, v1, .int .i64 (tn : Int), .int .i64 p.quiet], .int .i64 (j : Int)] W (BelPost (.bool (suppB r p (j : Int))) W)) := Lib.hid (fun j hj W hb => HSU.out (j : Int) (by omega) (by omega) W (HP2.out.below (hB.trans (hb.mono hB.size)) (Nat.le_refl _)))
  have HT := Lib.hid htn
  obtain ⟨x0, x1, x2, x3, x4⟩ := hX
  obtain ⟨y0, y1, y2, y3, y4, y5, y6, y7, y8, y9, y10⟩ := hY
  rw [hV] at x0 x1 x2 x3 x4 y0 y1 y2 y3 y4 y5 y6 y7 y8 y9 y10
  rw [htn] at x3
  rw [hf] at y5
  clear hHL hp hcell hhc hIH HSU HP HP2 hhv hB hXH hk htn hm hn hf
  go_enter Try.func57, Try.ntmps57
  go_wp2
  clear x0 x1 x2 x3 x4 y0 y1 y2 y3 y4 y5 y6 y7 y8 y9 y10
  rw [← hV]
  clear hV
  go_loopw [5, 6, 7, 8, 9, 13] (fun l _ _ _ _ i wr => ∃ k : Nat, k ≤ m ∧ i = .int .i64 (k : Int) ∧ wr.ownsRow V.heap.size 31 3 l (putsTo r p k).length (mcs (putsTo r p k)) ∧ Hid (Below V.heap.size V wr)) (fun _ _ _ _ _ i _ => m - (intOf i).toNat)
  case atStart => exact ⟨0, by omega, rfl, World.ownsRow_nil _ _ _ _, Lib.hid (Below.refl _ _)⟩
  case round =>
    obtain ⟨k, hkm, rfl, hown, hbel⟩ := hrel
    obtain ⟨la, lc, rfl⟩ := owns_form hown
    by_cases hlt : k < m
    · obtain ⟨⟨x0, x1, x2, x3, x4⟩, x5⟩ := HX.out wr hbel.out
      obtain ⟨y0, y1, y2, y3, y4, y5, y6, y7, y8, y9, y10⟩ := HY.out wr hbel.out
      rw [HT.out] at x3
      rw [HF.out] at y5
      have C0 := HC.out wr hbel.out k hlt
      have hkc : k < cc := by omega
      have HPS : Hid (putsTo r p (k + 1) = putsTo r p k ++ putAt r p (k : Int)) := Lib.hid (putsTo_succ r p (by rw [← HM.out]; exact hlt))
      obtain ⟨c, hc⟩ : ∃ c, c = cellI p (k : Int) := ⟨_, rfl⟩
      rw [← hc] at C0
      by_cases hz : c = 0
      · subst hz
        cases hfr : freeB r p (k : Int)
        · have KP : Hid (putsTo r p (k + 1) = putsTo r p k) := Lib.hid (by rw [HPS.out, putAt_not hfr, List.append_nil])
          cases f
          · exfalso
            rw [freeB, ← hc, HF.out] at hfr
            simp at hfr
          · have hsp : suppB r p (k : Int) = false := by
              rw [freeB, ← hc, HF.out] at hfr
              simpa using hfr
            have HSC := Lib.hid (HSV.out k hlt wr hbel.out)
            rw [hsp] at HSC
            have HO := Lib.hid hown
            clear hc HPS hown HC HHC HX HY HSV hfr hsp
            go_wp2_with fail
            go_at_call 82; refine HSC.out.mono ?_; rintro e w1 ⟨rfl, hb1⟩
            have HB1 : Hid (Below V.heap.size V w1) := Lib.hid (hbel.out.trans (hb1.mono hbel.out.size))
            have HO1 := Lib.hid (owns_below HO.out hb1)
            clear hb1 HO hbel
            go_wp2
            go_roundw
            case rel => exact ⟨k + 1, by omega, by go_num, by rw [KP.out]; exact HO1.out, HB1⟩
            case measure => simp [intOf]; omega
        have HFR := Lib.hid hfr
        cases f
        rotate_left
        · have hsp : suppB r p (k : Int) = true := by
            rw [freeB, ← hc, HF.out] at hfr
            simpa using hfr
          have HSC := Lib.hid (HSV.out k hlt wr hbel.out)
          rw [hsp] at HSC
          have HO := Lib.hid hown
          clear hc hown hfr hsp
          go_wp2_with fail
          go_at_call 82; refine HSC.out.mono ?_; rintro e w1 ⟨rfl, hb1⟩
          have hbel1 : Hid (Below V.heap.size V w1) := Lib.hid (hbel.out.trans (hb1.mono hbel.out.size))
          have hown1 := owns_below HO.out hb1
          clear hb1 HO hbel HSC
          obtain ⟨⟨x0, x1, x2, x3, x4⟩, x5⟩ := HX.out w1 hbel1.out
          rw [HT.out] at x3
          go_wp2
          clear x0 x1 x2 x3 x4 x5 y0 y1 y2 y3 y4 y5 y6 y7 y8 y9 y10
          have HL : Hid (∀ j, j ≤ n → (putsTo r p k ++ putK (k : Int) (kindsTo p j)).length ≤ 384 + 6) := Lib.hid (fun j hj => by
            have h1 := HPL.out k hkm
            have h2 : (kindsTo p j).length ≤ j := by
              unfold kindsTo
              rw [List.length_map]
              have := List.length_filter_le (fun k => decide (0 < (handI p)[k]?.getD 0)) (List.range j)
              simpa using this
            rw [List.length_append, putK, List.length_map]; omega)
          go_loopw [5, 8, 9, 37] (fun l _ _ i wx => ∃ j : Nat, j ≤ n ∧ i = .int .i64 (j : Int) ∧ wx.ownsRow V.heap.size 31 3 l (putsTo r p k ++ putK (k : Int) (kindsTo p j)).length (mcs (putsTo r p k ++ putK (k : Int) (kindsTo p j))) ∧ Hid (Below V.heap.size V wx)) (fun _ _ _ i _ => n - (intOf i).toNat)
          case atStart => exact ⟨0, by omega, rfl, by simpa [kindsTo, putK] using hown1, hbel1⟩
          case round =>
            obtain ⟨j, hjn, rfl, hown2, hbel2⟩ := hrel
            obtain ⟨l2, c2, rfl⟩ := owns_form hown2
            by_cases hlt2 : j < n
            · have C2 := HHC.out _ hbel2.out j hlt2
              have hjc : j < ch := by omega
              obtain ⟨x, hx⟩ : ∃ x, x = (handI p)[j]?.getD 0 := ⟨_, rfl⟩
              rw [← hx] at C2
              have HKS := Lib.hid (kindsTo_succ p j)
              by_cases hpos : 0 < x
              · have KP : Hid (putsTo r p k ++ putK (k : Int) (kindsTo p (j + 1)) = (putsTo r p k ++ putK (k : Int) (kindsTo p j)) ++ [(-1, (k : Int), (j : Int))]) := Lib.hid (by
                  rw [HKS.out, if_pos (by rw [← hx]; exact hpos), List.append_assoc]; unfold putK; rw [List.map_append]; rfl)
                have hll := HL.out j hjn
                generalize putsTo r p k ++ putK (k : Int) (kindsTo p j) = pre at hown2 KP hll ⊢
                have KL : Hid ((pre ++ [(-1, (k : Int), (j : Int))]).length = pre.length + 1) := Lib.hid (by simp)
                have KM : Hid (mcs (pre ++ [(-1, (k : Int), (j : Int))]) = mcs pre ++ mc (-1, (k : Int), (j : Int))) := Lib.hid (by rw [mcs_append, mcs_one])
                have hposb : decide (x > 0) = true := by simpa using hpos
                clear hx HKS hpos HL HHC HC HX HY HSV
                go_wp2_with (at_builtin; refine wpList_append_own _ rfl _ _ 37 rfl V.heap.size 31 i0 (.agg #[.int .i64 0, .int .i64 0, .int .i64 0]) 3 24 Try.underlying37 hi hz0 hz1 hz2 rfl (by decide) _ _ _ rfl (hown2.alloc _) ⟨wr.heap.size, 0, none⟩ 1 1 (mc (-1, (k : Int), (j : Int))) rfl rfl (cell_new3 _ _ _ _ _) (fun u hu => mcs_one_cell [(-1, (k : Int), (j : Int))] u (by rw [mcs_one]; exact hu)) (by unfold maxLen; omega) (by omega) (by have := hbel2.out.size; simp; omega) ?_)
                intro v' w2 hown' hgrow _
                have hg' : (wr.alloc (.cells #[.int .i64 (-1), .int .i64 (k : Int), .int .i64 (j : Int)] 31)).grownBy w2 (Value.slice l2 pre.length c2).ownBlock := hgrow
                have HB1 : Hid (Below V.heap.size V w2) := Lib.hid ((hbel2.out.alloc hbel2.out.size _).grown hg' (by have := hbel2.out.size; simp; omega) (fun k e => (hown2.lt k e).1))
                rw [← KM.out, ← KL.out] at hown'
                have HO2 := Lib.hid hown'
                clear hgrow hg' hown2 hown' hbel2
                go_wp2
                go_roundw
                case rel => exact ⟨j + 1, by omega, by go_num, by rw [KP.out]; exact HO2.out, HB1⟩
                case measure => simp [intOf]; omega
              · have KP : Hid (putsTo r p k ++ putK (k : Int) (kindsTo p (j + 1)) = putsTo r p k ++ putK (k : Int) (kindsTo p j)) := Lib.hid (by
                  rw [HKS.out, if_neg (by rw [← hx]; exact hpos), List.append_nil])
                have hposb : decide (x > 0) = false := by simpa using hpos
                have HO2 := Lib.hid hown2
                clear hx HKS hpos HL HHC HC HX HY HSV hown2
                go_wp2
                go_roundw
                case rel => exact ⟨j + 1, by omega, by go_num, by rw [KP.out]; exact HO2.out, hbel2⟩
                case measure => simp [intOf]; omega
            · have KP : Hid (putsTo r p (k + 1) = putsTo r p k ++ putK (k : Int) (kindsTo p j)) := Lib.hid (by
                rw [HPS.out, putAt_free HFR.out, ← HNN.out, show j = n by omega])
              have HO2 := Lib.hid hown2
              clear HL HHC HC HX HY HSV hown2
              go_wp2
              go_roundw
              case rel => exact ⟨k + 1, by omega, by go_num, by rw [KP.out]; exact HO2.out, hbel2⟩
              case measure => simp [intOf]; omega
        · have hbel1 := hbel
          have hown1 := hown
          clear hc hown hfr hbel
          go_wp2
          clear x0 x1 x2 x3 x4 x5 y0 y1 y2 y3 y4 y5 y6 y7 y8 y9 y10
          have HL : Hid (∀ j, j ≤ n → (putsTo r p k ++ putK (k : Int) (kindsTo p j)).length ≤ 384 + 6) := Lib.hid (fun j hj => by
            have h1 := HPL.out k hkm
            have h2 : (kindsTo p j).length ≤ j := by
              unfold kindsTo
              rw [List.length_map]
              have := List.length_filter_le (fun k => decide (0 < (handI p)[k]?.getD 0)) (List.range j)
              simpa using this
            rw [List.length_append, putK, List.length_map]; omega)
          go_loopw [5, 8, 9, 37] (fun l _ _ i wx => ∃ j : Nat, j ≤ n ∧ i = .int .i64 (j : Int) ∧ wx.ownsRow V.heap.size 31 3 l (putsTo r p k ++ putK (k : Int) (kindsTo p j)).length (mcs (putsTo r p k ++ putK (k : Int) (kindsTo p j))) ∧ Hid (Below V.heap.size V wx)) (fun _ _ _ i _ => n - (intOf i).toNat)
          case atStart => exact ⟨0, by omega, rfl, by simpa [kindsTo, putK] using hown1, hbel1⟩
          case round =>
            obtain ⟨j, hjn, rfl, hown2, hbel2⟩ := hrel
            obtain ⟨l2, c2, rfl⟩ := owns_form hown2
            by_cases hlt2 : j < n
            · have C2 := HHC.out _ hbel2.out j hlt2
              have hjc : j < ch := by omega
              obtain ⟨x, hx⟩ : ∃ x, x = (handI p)[j]?.getD 0 := ⟨_, rfl⟩
              rw [← hx] at C2
              have HKS := Lib.hid (kindsTo_succ p j)
              by_cases hpos : 0 < x
              · have KP : Hid (putsTo r p k ++ putK (k : Int) (kindsTo p (j + 1)) = (putsTo r p k ++ putK (k : Int) (kindsTo p j)) ++ [(-1, (k : Int), (j : Int))]) := Lib.hid (by
                  rw [HKS.out, if_pos (by rw [← hx]; exact hpos), List.append_assoc]; unfold putK; rw [List.map_append]; rfl)
                have hll := HL.out j hjn
                generalize putsTo r p k ++ putK (k : Int) (kindsTo p j) = pre at hown2 KP hll ⊢
                have KL : Hid ((pre ++ [(-1, (k : Int), (j : Int))]).length = pre.length + 1) := Lib.hid (by simp)
                have KM : Hid (mcs (pre ++ [(-1, (k : Int), (j : Int))]) = mcs pre ++ mc (-1, (k : Int), (j : Int))) := Lib.hid (by rw [mcs_append, mcs_one])
                have hposb : decide (x > 0) = true := by simpa using hpos
                clear hx HKS hpos HL HHC HC HX HY HSV
                go_wp2_with (at_builtin; refine wpList_append_own _ rfl _ _ 37 rfl V.heap.size 31 i0 (.agg #[.int .i64 0, .int .i64 0, .int .i64 0]) 3 24 Try.underlying37 hi hz0 hz1 hz2 rfl (by decide) _ _ _ rfl (hown2.alloc _) ⟨wr.heap.size, 0, none⟩ 1 1 (mc (-1, (k : Int), (j : Int))) rfl rfl (cell_new3 _ _ _ _ _) (fun u hu => mcs_one_cell [(-1, (k : Int), (j : Int))] u (by rw [mcs_one]; exact hu)) (by unfold maxLen; omega) (by omega) (by have := hbel2.out.size; simp; omega) ?_)
                intro v' w2 hown' hgrow _
                have hg' : (wr.alloc (.cells #[.int .i64 (-1), .int .i64 (k : Int), .int .i64 (j : Int)] 31)).grownBy w2 (Value.slice l2 pre.length c2).ownBlock := hgrow
                have HB1 : Hid (Below V.heap.size V w2) := Lib.hid ((hbel2.out.alloc hbel2.out.size _).grown hg' (by have := hbel2.out.size; simp; omega) (fun k e => (hown2.lt k e).1))
                rw [← KM.out, ← KL.out] at hown'
                have HO2 := Lib.hid hown'
                clear hgrow hg' hown2 hown' hbel2
                go_wp2
                go_roundw
                case rel => exact ⟨j + 1, by omega, by go_num, by rw [KP.out]; exact HO2.out, HB1⟩
                case measure => simp [intOf]; omega
              · have KP : Hid (putsTo r p k ++ putK (k : Int) (kindsTo p (j + 1)) = putsTo r p k ++ putK (k : Int) (kindsTo p j)) := Lib.hid (by
                  rw [HKS.out, if_neg (by rw [← hx]; exact hpos), List.append_nil])
                have hposb : decide (x > 0) = false := by simpa using hpos
                have HO2 := Lib.hid hown2
                clear hx HKS hpos HL HHC HC HX HY HSV hown2
                go_wp2
                go_roundw
                case rel => exact ⟨j + 1, by omega, by go_num, by rw [KP.out]; exact HO2.out, hbel2⟩
                case measure => simp [intOf]; omega
            · have KP : Hid (putsTo r p (k + 1) = putsTo r p k ++ putK (k : Int) (kindsTo p j)) := Lib.hid (by
                rw [HPS.out, putAt_free HFR.out, ← HNN.out, show j = n by omega])
              have HO2 := Lib.hid hown2
              clear HL HHC HC HX HY HSV hown2
              go_wp2
              go_roundw
              case rel => exact ⟨k + 1, by omega, by go_num, by rw [KP.out]; exact HO2.out, hbel2⟩
              case measure => simp [intOf]; omega
      · have hzb : (c != 0) = true := by simpa using hz
        have KP : Hid (putsTo r p (k + 1) = putsTo r p k) := Lib.hid (by
          rw [HPS.out, putAt_not (by rw [freeB, ← hc, decide_eq_false hz]; rfl), List.append_nil])
        have HO := Lib.hid hown
        clear hz hc HPS hown HC HHC HX HY HSV
        go_wp2
        go_roundw
        case rel => exact ⟨k + 1, by omega, by go_num, by rw [KP.out]; exact HO.out, hbel⟩
        case measure => simp [intOf]; omega
    · obtain rfl : k = m := by omega
      have KP : Hid (putsTo r p k = putsD r p) := Lib.hid (by rw [HM.out]; exact putsTo_all r p)
      have HO := Lib.hid hown
      have HBE : Hid (Below w.heap.size w wr) := Lib.hid (HB.out.trans (hbel.out.mono HB.out.size))
      clear hown hbel HC HHC HX HY HSV
      go_wp2
      go_ret
      exact ⟨_, _, _, rfl, by rw [← KP.out]; exact moves_of_owns HO.out, owns_nil HO.out, HBE.out⟩
end Go.Proofs.Ythbilpgecombiaa
