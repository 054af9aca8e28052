/- Package perft, as the statements of gamehallkeep1 use it. (Written by genpftk.py.) -/
import Derived.Test.YtdhhdkbnlddnbaaGreatDoorPftF
import Derived.Test.YtdhhdkbnlddnbaaGreatDoorPlayK
import Derived.Test.YtdhhdkbnlddnbaaGreatDoorFine
import Derived.Test.YtdhhdkbnlddnbaaGreatDoorSomeM
set_option maxRecDepth 100000
namespace Go.Proofs.YtdhhdkbnlddnbaaGreatDoor
open Go.ChangeShapes Go.WideShapes Go.ChangeAt Go.RowKit

theorem near_e : pftE three9 nearD 1 1 = 0 := by decide +kernel
theorem near_l : dvdI three9 nearD 1 1 = [((-1, 2, 0), 1), ((-1, 5, 0), 1), ((-1, 6, 0), 1), ((-1, 7, 0), 1), ((-1, 8, 0), 1)] := by decide +kernel
theorem near_e2 : pftE three9 nearD 0 2 = 0 := by decide +kernel
theorem near_c : cntI three9 nearD 2 = 16 := by decide +kernel
theorem near_t : treI three9 nearD 0 2 = 22 := by decide +kernel

/-! ### fine, of any errors -/
theorem fineFn_x (x : Int) (w : World) : Calls Tryz.prog 32 #[.int .i64 x] w fun e w' => e = .returned (.bool (x != 0)) ∧ w' = w := by
  go_enter Tryz.func32, Tryz.ntmps32
  go_wp2_with fail
  go_ret
  exact ⟨rfl, rfl⟩
def ErrsAt (w : World) (g : Nat) (xs : List Int) : Prop := ∀ (k : Nat) (x : Int), xs[k]? = some x → w.cell? ⟨g, k, none⟩ = some (.int .i64 x)
theorem all_to {xs : List Int} {k : Nat} {x : Int} (h : xs[k]? = some x) (hx : x = 0) (ha : ∀ y ∈ xs.take k, y = 0) : ∀ y ∈ xs.take (k + 1), y = 0 := by
  intro y hy
  rw [List.take_add_one, h] at hy
  rcases List.mem_append.1 hy with g | g
  · exact ha y g
  · simp at g; rw [g]; exact hx
set_option maxHeartbeats 1000000 in
theorem idxErr_x (xs : List Int) (g n : Nat) (w : World) (h : ErrsAt w g xs) (hl : n = xs.length) (hn : n ≤ 10) :
    Calls Tryz.prog 47 #[.slice (some ⟨g, 0, none⟩) n n, .func (.func 32) #[] #[]] w fun e w' => ∃ j : Int, e = .returned (.int .i64 j) ∧ (0 ≤ j ∨ j = -1) ∧ (xs.all (fun x => x == 0) = decide (j < 0)) ∧ w = w' := by
  have HC := Lib.hid h
  have HL := Lib.hid hl
  clear h hl
  go_enter Tryz.func47, Tryz.ntmps47
  go_wp2
  go_loopw [8] (fun i wr => ∃ k : Nat, k ≤ n ∧ i = .int .i64 (k : Int) ∧ Hid (∀ y ∈ xs.take k, y = 0) ∧ w = wr) (fun i _ => n - (intOf i).toNat)
  case atStart => exact ⟨0, by omega, rfl, Lib.hid (by simp), rfl⟩
  case round =>
    obtain ⟨k, hk, rfl, hA, rfl⟩ := hrel
    by_cases hlt : k < n
    · obtain ⟨x, hx⟩ : ∃ x, xs[k]? = some x := ⟨_, List.getElem?_eq_getElem (by rw [← HL.out]; exact hlt)⟩
      have c := HC.out k x hx
      have HX := Lib.hid hx
      clear hx
      by_cases h0 : x = 0
      · subst h0
        go_wp2_with fail
        go_at_call 32; refine (turned (fineFn_x 0 _)).mono ?_; rintro e w' ⟨rfl, rfl⟩
        have HA2 := Lib.hid (all_to HX.out rfl hA.out)
        go_wp2_with fail
        go_roundw
        case rel => exact ⟨k + 1, by omega, by go_num, HA2, by first | rfl | trivial⟩
        case measure => simp [intOf]; omega
      · have hne : (x != 0) = true := by simpa using h0
        go_wp2_with fail
        go_at_call 32; refine (turned (fineFn_x x _)).mono ?_; rintro e w' ⟨rfl, rfl⟩
        go_wp2_with fail
        go_ret
        refine ⟨k, rfl, .inl (by omega), ?_, rfl⟩
        have e1 : xs.all (fun x => x == 0) = false := by
          rw [List.all_eq_false]
          exact ⟨x, List.mem_of_getElem? HX.out, by simpa using h0⟩
        rw [e1]; simp
    · obtain rfl : k = n := by omega
      go_wp2_with fail
      go_ret
      refine ⟨-1, rfl, .inr rfl, ?_, rfl⟩
      have e1 : xs.all (fun x => x == 0) = true := by
        rw [List.all_eq_true]
        intro x hx
        have := hA.out x (by rw [List.take_of_length_le (by rw [HL.out]; exact Nat.le_refl _)]; exact hx)
        simpa using this
      rw [e1]; simp
theorem fine_x (xs : List Int) (g n : Nat) (w : World) (h : ErrsAt w g xs) (hl : n = xs.length) (hn : n ≤ 10) : Calls Tryz.prog 14 #[.slice (some ⟨g, 0, none⟩) n n] w fun e w' => e = .returned (.bool (xs.all fun x => x == 0)) ∧ w' = w := by
  have HI := Lib.hid (idxErr_x xs g n w h hl hn)
  have HCF : Hid (Calls Tryz.prog 31 #[.slice (some ⟨g, 0, none⟩) n n, .func (.func 32) #[] #[]] w fun e w' => ∃ b, e = .returned (.bool b) ∧ (xs.all (fun x => x == 0) = !b) ∧ w = w') := Lib.hid (by
    clear h hl
    go_enter Tryz.func31, Tryz.ntmps31
    go_wp2_with fail
    go_at_call 47; refine HI.out.mono ?_; rintro e w' ⟨j, rfl, hj, ha, rfl⟩
    have HJ := Lib.hid ha
    clear ha HI
    rcases hj with hj | rfl
    · have hd : decide (j ≥ 0) = true := by simpa using hj
      go_wp2_with fail
      go_ret
      exact ⟨true, rfl, by rw [HJ.out]; simp; omega, rfl⟩
    · go_wp2_with fail
      go_ret
      exact ⟨false, rfl, by rw [HJ.out]; decide, rfl⟩)
  clear h hl HI
  go_enter Tryz.func14, Tryz.ntmps14
  go_wp2_with fail
  go_at_call 31; refine HCF.out.mono ?_; rintro e w' ⟨b, rfl, hb, rfl⟩
  have HJ := Lib.hid hb
  clear hb HCF
  go_wp2_with fail
  go_ret
  exact ⟨by rw [HJ.out]; rfl, rfl⟩
theorem fine3_x (a b c : Int) (W : World) (g : Nat) (hg : g = W.heap.size) : Calls Tryz.prog 14 #[.slice (some ⟨g, 0, none⟩) 3 3] (W.alloc (.cells #[.int .i64 a, .int .i64 b, .int .i64 c] 31)) fun e w' => e = .returned (.bool (a == 0 && (b == 0 && c == 0))) ∧ Below W.heap.size W w' := by
  have hc : ∀ i, (W.alloc (.cells #[.int .i64 a, .int .i64 b, .int .i64 c] 31)).cell? ⟨g, i, none⟩ = (#[.int .i64 a, .int .i64 b, .int .i64 c] : Array Value)[i]? := fun i => by rw [hg]; exact cell_of_row _ W.heap.size i _ _ (0, 0) (heap_alloc_new W _)
  refine (fine_x [a, b, c] g 3 _ (fun k x hk => ?_) rfl (by decide)).mono ?_
  · have h3 : k < 3 := (List.getElem?_eq_some_iff.1 hk).1
    rw [hc k]
    match k, h3, hk with
    | 0, _, hk | 1, _, hk | 2, _, hk => cases hk; rfl
  rintro e w' ⟨rfl, rfl⟩
  exact ⟨by simp [List.all_cons], (Below.refl _ _).alloc (Nat.le_refl _) _⟩

/-! ### some -/
def SomeP (l : List (MoveD × Nat)) (w : World) (e : Ending) (w' : World) : Prop := ∃ (m1 m2 m3 : Int) (c : Nat), ((m1, m2, m3), c) ∈ l ∧ e = .returned (.agg #[.int .i64 m1, .int .i64 m2, .int .i64 m3, .int .i64 (c : Int)]) ∧ Below w.heap.size w w'
set_option maxHeartbeats 2000000 in
theorem someP_any (l : List (MoveD × Nat)) (a : Option Addr) (n cp : Nat) (x : Int) (w : World) (hv : IsSl PartAt 4 w (.slice a n cp) l) (hn : n = l.length) (h1 : 1 ≤ n) (h5 : n ≤ 5000) :
    Calls Tryz.prog 16 #[.slice a n cp, .int .i64 x] w (SomeP l w) := by
  obtain ⟨a', cp', e1, hcp, hcell⟩ := hv.shape hn
  simp only [Value.slice.injEq] at e1
  obtain ⟨rfl, -, rfl⟩ := e1
  obtain ⟨t, ht, ⟨t1, t2⟩, j, hj, hjn⟩ := some_rem x h1
  obtain ⟨g, off, ⟨⟨m1, m2, m3⟩, c⟩, rfl, hx, hq⟩ := hcell j hjn
  have hal := (Below.refl w.heap.size w).alloc (Nat.le_refl _) (.cells #[.int .i64 0, .int .i64 0, .int .i64 0, .int .i64 0] 39)
  obtain ⟨c0, c1, c2, c3⟩ := part_keeps _ _ _ _ _ _ hal (Nat.le_refl _) hq
  have HM : Hid (((m1, m2, m3), c) ∈ l) := Lib.hid (List.mem_of_getElem? hx)
  have hne : ((n : Int) == 0) = false := by simp; omega
  have hsum : IntKind.i64.wrap (t + (n : Int)) = t + (n : Int) := IntWalk.i64_in _ (by omega)
  clear hcell hx hq hv hn hal
  go_enter Tryz.func16, Tryz.ntmps16
  go_wp2_with fail
  refine bodyPost_ret (results_cell_row rfl _ _ w.heap.size 39 _ (0, 0) _ rfl (heap_alloc_new w (.cells #[.int .i64 m1, .int .i64 m2, .int .i64 m3, .int .i64 (c : Int)] 39)) Tryz.underlying39 rfl (by kernel_rfl)) rfl ?_
  exact ⟨m1, m2, m3, c, HM.out, rfl, (Below.refl _ _).alloc (Nat.le_refl _) _⟩

/-! ### heavy -/
def heavyB (r : RulesD) (p : PlaceD) (x : Int) : Bool := pftE r p 0 x == 17 || (decide (treI r p 0 x > 3000) || decide ((p.cells.length : Int) > 20))
theorem treI_in (r : RulesD) (p : PlaceD) (x : Int) : 0 ≤ treI r p 0 x ∧ treI r p 0 x ≤ 50000 := by
  unfold treI
  split
  · rename_i h
    have := (pftE_in h).2.2.2
    omega
  · omega
set_option maxHeartbeats 4000000 in
theorem heavy_any (r : RulesD) (p : PlaceD) (vp vs ve vc v0 v1 : Value) (x : Int) (w : World) (hr : RulesIn w r vp vs ve) (hp : PlaceIn w p vc v0 v1) (hT : Dir w) :
    Calls Tryz.prog 11 #[RulesV r vp vs ve, PlaceV p vc v0 v1, .int .i64 x] w (BelPost (.bool (heavyB r p x)) w) := by
  obtain ⟨m, hm⟩ : ∃ m, m = p.cells.length := ⟨_, rfl⟩
  obtain ⟨ca, cc, rfl, hcc, _⟩ := hp.c.shape hm
  obtain ⟨hB, hY, hX⟩ := rp_boxes w r p vp vs ve (.slice ca m cc) v0 v1
  obtain ⟨V, hV⟩ : ∃ V, V = (w.alloc (.cells (RulesCells r vp vs ve) 26)).alloc (.cells (PlaceCells p (.slice ca m cc) v0 v1) 29) := ⟨_, rfl⟩
  rw [← hV] at hB hY hX
  have HB := Lib.hid hB
  have HTR := Lib.hid (tree_any r p vp vs ve (.slice ca m cc) v0 v1 x V (hr.below hB (Nat.le_refl _)) (hp.below hB (Nat.le_refl _)) (hT.below hB (Nat.le_refl _)))
  have HX : Hid (∀ W, Below V.heap.size V W → W.cell? ⟨w.heap.size + 1, 0, none⟩ = some (.slice ca m cc)) := Lib.hid (fun W h => (hX.below h (Nat.le_refl _)).1)
  have HH : Hid (heavyB r p x = (pftE r p 0 x == 17 || (decide (treI r p 0 x > 3000) || decide ((m : Int) > 20)))) := Lib.hid (by rw [heavyB, hm])
  obtain ⟨t0, t1⟩ := treI_in r p x
  obtain ⟨E, hE⟩ : ∃ E, E = pftE r p 0 x := ⟨_, rfl⟩
  obtain ⟨T, hTT⟩ : ∃ T, T = treI r p 0 x := ⟨_, rfl⟩
  rw [← hE, ← hTT] at HTR HH
  rw [← hTT] at t0 t1
  obtain ⟨x0, x1, x2, x3, x4⟩ := hX
  obtain ⟨y0, y1, y2, y3, y4, y5, y6, y7, y8, y9, y10⟩ := hY
  have hV' := hV
  unfold RulesCells PlaceCells at hV'
  unfold RulesV PlaceV PlaceCells at HTR ⊢
  rw [hV] at x0 x1 x2 x3 x4 y0 y1 y2 y3 y4 y5 y6 y7 y8 y9 y10
  clear hr hp hT hB hV hm hE hTT
  go_enter Tryz.func11, Tryz.ntmps11
  go_wp2_with fail
  rw [← hV']
  clear hV' x0 x1 x2 x3 x4 y0 y1 y2 y3 y4 y5 y6 y7 y8 y9 y10
  go_at_call 12; refine HTR.out.mono ?_; rintro e w1 ⟨rfl, hb⟩
  have HB1 := Lib.hid (HB.out.trans (hb.mono HB.out.size))
  have z0 := HX.out w1 hb
  clear hb HTR HX
  by_cases h1 : E = 17
  · subst h1
    go_wp2_with fail
    go_ret
    exact ⟨by rw [HH.out]; rfl, HB1.out⟩
  · have d1 : (E == 17) = false := by simpa using h1
    cases d2 : decide (T > 3000)
    · go_wp2_with fail
      go_ret
      exact ⟨by rw [HH.out, d1, d2]; rfl, HB1.out⟩
    · go_wp2_with fail
      go_ret
      exact ⟨by rw [HH.out, d1, d2]; rfl, HB1.out⟩

/-! ### counted -/
set_option maxHeartbeats 8000000 in
theorem counted_keep (w : World) (hT : Dir w) : Calls Tryz.prog 10 #[] w (BelPost (.bool true) w) := by
  have HT : Hid (∀ W, Below w.heap.size w W → Dir W) := Lib.hid (fun W h => hT.below h (Nat.le_refl _))
  clear hT
  go_enter Tryz.func10, Tryz.ntmps10
  go_wp2_with fail
  go_at_call 7; refine (three_keep _).mono ?_; rintro e w1 ⟨vp, vs, ve, rfl, hin, hb⟩
  have HB1 := Lib.hid hb
  have HI1 := Lib.hid hin
  clear hb hin
  go_wp2_with fail
  go_at_call 8; refine (near_any _).mono ?_; rintro e w2 ⟨vc, v0, v1, rfl, hp, hb⟩
  have HB2 := Lib.hid (HB1.out.trans (hb.mono HB1.out.size))
  have HCN := Lib.hid (count_any three9 nearD vp vs ve vc v0 v1 2 w2 (HI1.out.below hb (Nat.le_refl _)) hp (HT.out w2 HB2.out))
  rw [near_c, near_e2] at HCN
  clear hb hp HB1 HI1
  go_wp2_with fail
  go_at_call 13; refine HCN.out.mono ?_; rintro e w3 ⟨rfl, hb⟩
  have HB3 := Lib.hid (HB2.out.trans (hb.mono HB2.out.size))
  clear hb HB2 HCN
  go_wp2_with fail
  go_at_call 7; refine (three_keep _).mono ?_; rintro e w4 ⟨vp', vs', ve', rfl, hin, hb⟩
  have HB4 := Lib.hid (HB3.out.trans (hb.mono HB3.out.size))
  have HI4 := Lib.hid hin
  clear hb hin HB3
  go_wp2_with fail
  go_at_call 8; refine (near_any _).mono ?_; rintro e w5 ⟨vc', v0', v1', rfl, hp, hb⟩
  have HB5 := Lib.hid (HB4.out.trans (hb.mono HB4.out.size))
  have HCN := Lib.hid (tree_any three9 nearD vp' vs' ve' vc' v0' v1' 2 w5 (HI4.out.below hb (Nat.le_refl _)) hp (HT.out w5 HB5.out))
  rw [near_t, near_e2] at HCN
  clear hb hp HB4 HI4
  go_wp2_with fail
  go_at_call 12; refine HCN.out.mono ?_; rintro e w6 ⟨rfl, hb⟩
  have HB6 := Lib.hid (HB5.out.trans (hb.mono HB5.out.size))
  clear hb HB5 HCN
  go_wp2_with fail
  go_at_call 14; refine (fine2 w6 _ rfl).mono ?_; rintro e w7 ⟨rfl, hb⟩
  have HB7 := Lib.hid (HB6.out.trans (hb.mono HB6.out.size))
  clear hb HB6
  go_wp2_with fail
  go_ret
  exact ⟨rfl, HB7.out⟩
end Go.Proofs.YtdhhdkbnlddnbaaGreatDoor
