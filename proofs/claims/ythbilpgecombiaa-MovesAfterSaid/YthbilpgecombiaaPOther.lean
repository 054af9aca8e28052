/- place.Other: the position in which the players are exchanged. -/
import Derived.Test.YthbilpgecombiaaPChk
import Derived.Test.YthbilpgecombiaaPlcM
import Derived.Test.YthbilpgecombiaaMirror
import Derived.Test.YthbilpgecombiaaPFill
set_option maxRecDepth 100000
namespace Go.Proofs.Ythbilpgecombiaa
open Go.ChangeShapes Go.WideShapes Go.ChangeAt Go.RowKit

theorem two_facts {W : World} {b : Nat} {x y : Value} {t : TypeId} (h : W.heap[b]? = some (.cells #[x, y] t (0, 0))) : W.cell? ⟨b, 0, none⟩ = some x ∧ W.cell? ⟨b, 1, none⟩ = some y ∧ W.frozen? ⟨b, 0, none⟩ = false ∧ W.frozen? ⟨b, 1, none⟩ = false := by
  have hc : ∀ i, W.cell? ⟨b, i, none⟩ = (#[x, y] : Array Value)[i]? := fun i => cell_of_row W b i _ t (0, 0) h
  have hf : ∀ i, W.frozen? ⟨b, i, none⟩ = false := fun i => frozen_of_row W b i _ t h
  exact ⟨hc 0, hc 1, hf 0, hf 1⟩
theorem hA_of {w6 w7 : World} {o : Obj} (hb : Below (w6.alloc o).heap.size (w6.alloc o) w7) : w7.heap[w6.heap.size]? = some o := (hb.block _ (by simp)).trans (heap_alloc_new w6 o)
theorem hA_on {b : Nat} {W W' : World} {o : Obj} (h : W.heap[b]? = some o) (hb : Below W.heap.size W W') : W'.heap[b]? = some o := (hb.block _ (Array.getElem?_eq_some_iff.1 h).1).trans h
theorem off_of {g b : Nat} (h : b < g) (V : World) (o i : Nat) (z : Value) : (V.setCell ⟨g, o, none⟩ z).cell? ⟨b, i, none⟩ = V.cell? ⟨b, i, none⟩ := World.cell?_setCell_other _ _ _ _ (fun e => by rw [Addr.mk.injEq] at e; omega)
theorem hA_dr {w5 w6 : World} {o : Obj} (hb : Below (w5.alloc o).drew.heap.size (w5.alloc o).drew w6) : w6.heap[w5.heap.size]? = some o := (hb.block _ (show w5.heap.size < (w5.alloc o).heap.size by simp)).trans (heap_alloc_new w5 o)
/-- What is there behind two slices and a block that holds them. -/
structure TwoEnd (w5 W : World) (b : Nat) (s6 s7 : Value) (xs ys : List Int) : Prop where
  bel : Below w5.heap.size w5 W
  arr : W.heap[b]? = some (.cells #[s6, s7] 27 (0, 0))
  x6 : IsSl (Blk (fun k => w5.heap.size ≤ k) IntAt) 1 W s6 xs
  x7 : IsSl (Blk (fun k => w5.heap.size ≤ k) IntAt) 1 W s7 ys
theorem set2_heap (W : World) (b : Nat) (x y : Value) : (∀ k, k ≠ b → ((W.setCell ⟨b, 0, none⟩ x).setCell ⟨b, 1, none⟩ y).heap[k]? = W.heap[k]?) ∧ ((W.setCell ⟨b, 0, none⟩ x).setCell ⟨b, 1, none⟩ y).heap.size = W.heap.size :=
  ⟨fun k hk => by rw [heap_setCell_other _ _ _ _ hk, heap_setCell_other _ _ _ _ hk], by simp⟩
theorem set2_at {W : World} {b : Nat} {x y u v : Value} {t : TypeId} (h : W.heap[b]? = some (.cells #[u, v] t (0, 0))) : ((W.setCell ⟨b, 0, none⟩ x).setCell ⟨b, 1, none⟩ y).heap[b]? = some (.cells #[x, y] t (0, 0)) := by
  have h0 : (W.setCell ⟨b, 0, none⟩ x).heap[b]? = some (.cells #[x, v] t (0, 0)) := heap_setCell_same _ b 0 _ t x h
  exact heap_setCell_same _ b 1 _ t y h0
theorem twoEnd7 {w5 w6 w7 : World} {s6 s7 : Value} {xs ys : List Int} (hb6 : Below w5.drew.heap.size w5.drew w6) (hb7 : Below w6.heap.size w6 w7) (h6 : IsSl (Blk (fun k => w5.drew.heap.size ≤ k) IntAt) 1 w6 s6 xs) (h7 : IsSl (Blk (fun k => w6.heap.size ≤ k) IntAt) 1 w7 s7 ys) :
    TwoEnd w5 (w7.alloc (.cells #[s6, s7] 27)) w7.heap.size s6 s7 xs ys := by
  have hB6 : Below w5.heap.size w5 w6 := (Below.refl w5.heap.size w5).drew.trans hb6
  have hal := (Below.refl w7.heap.size w7).alloc (Nat.le_refl _) (.cells #[s6, s7] 27)
  have h67 := hb7.trans (hal.mono hb7.size)
  refine ⟨hB6.trans (h67.mono hB6.size), heap_alloc_new w7 _, intBlk_on (fun k _ hk => h67.block k hk) h6, blk_weak (fun k hk => Nat.le_trans hB6.size hk) (intBlk_on (fun k _ hk => hal.block k hk) h7)⟩
theorem twoEnd6 {w5 w6 w7 : World} {s6 s7 : Value} {xs ys : List Int} (hb6 : Below w5.drew.heap.size w5.drew w6) (hb7 : Below (w6.alloc (.cells #[.slice none 0 0, .slice none 0 0] 27)).heap.size (w6.alloc (.cells #[.slice none 0 0, .slice none 0 0] 27)) w7)
    (h6 : IsSl (Blk (fun k => w5.drew.heap.size ≤ k) IntAt) 1 w6 s6 xs) (h7 : IsSl (Blk (fun k => (w6.alloc (.cells #[.slice none 0 0, .slice none 0 0] 27)).heap.size ≤ k) IntAt) 1 w7 s7 ys) :
    TwoEnd w5 ((w7.setCell ⟨w6.heap.size, 0, none⟩ s6).setCell ⟨w6.heap.size, 1, none⟩ s7) w6.heap.size s6 s7 xs ys := by
  have hB6 : Below w5.heap.size w5 w6 := (Below.refl w5.heap.size w5).drew.trans hb6
  have hb67 : Below w6.heap.size w6 w7 := ((Below.refl w6.heap.size w6).alloc (Nat.le_refl _) _).trans (hb7.mono (by simp))
  have hs := set2_heap w7 w6.heap.size s6 s7
  have h67 : Below w6.heap.size w6 ((w7.setCell ⟨w6.heap.size, 0, none⟩ s6).setCell ⟨w6.heap.size, 1, none⟩ s7) := (hb67.setCell (p := ⟨w6.heap.size, 0, none⟩) (Nat.le_refl _) s6).setCell (p := ⟨w6.heap.size, 1, none⟩) (Nat.le_refl _) s7
  refine ⟨hB6.trans (h67.mono hB6.size), set2_at (hA_of hb7), intBlk_on (fun k _ hk => h67.block k hk) h6, blk_weak (fun k hk => ?_) (intBlk_on (fun k hk _ => hs.1 k ?_) h7)⟩
  · rw [World.size_alloc] at hk; have := hB6.size; omega
  · rw [World.size_alloc] at hk; omega
theorem twoEnd5 {w5 w6 w7 : World} {s6 s7 : Value} {xs ys : List Int} (hb6 : Below (w5.alloc (.cells #[.slice none 0 0, .slice none 0 0] 27)).drew.heap.size (w5.alloc (.cells #[.slice none 0 0, .slice none 0 0] 27)).drew w6) (hb7 : Below w6.heap.size w6 w7)
    (h6 : IsSl (Blk (fun k => (w5.alloc (.cells #[.slice none 0 0, .slice none 0 0] 27)).drew.heap.size ≤ k) IntAt) 1 w6 s6 xs) (h7 : IsSl (Blk (fun k => w6.heap.size ≤ k) IntAt) 1 w7 s7 ys) :
    TwoEnd w5 ((w7.setCell ⟨w5.heap.size, 0, none⟩ s6).setCell ⟨w5.heap.size, 1, none⟩ s7) w5.heap.size s6 s7 xs ys := by
  have hB6 : Below w5.heap.size w5 w6 := ((Below.refl w5.heap.size w5).alloc (Nat.le_refl _) _).drew.trans (hb6.mono (show w5.heap.size ≤ (w5.alloc (.cells #[.slice none 0 0, .slice none 0 0] 27)).heap.size by simp))
  have hlt : w5.heap.size < w6.heap.size := by have h : (w5.alloc (.cells #[.slice none 0 0, .slice none 0 0] 27)).heap.size ≤ w6.heap.size := hb6.size; simp at h; omega
  have hs := set2_heap w7 w5.heap.size s6 s7
  have hB7 := hB6.trans (hb7.mono hB6.size)
  refine ⟨(hB7.setCell (p := ⟨w5.heap.size, 0, none⟩) (Nat.le_refl _) s6).setCell (p := ⟨w5.heap.size, 1, none⟩) (Nat.le_refl _) s7, set2_at (hA_on (hA_dr hb6) hb7), blk_weak (fun k hk => ?_) (intBlk_on (fun k hk hl => (hs.1 k ?_).trans (hb7.block k hl)) h6), blk_weak (fun k hk => ?_) (intBlk_on (fun k hk _ => hs.1 k ?_) h7)⟩
  · have h : (w5.alloc (.cells #[.slice none 0 0, .slice none 0 0] 27)).heap.size ≤ k := hk; simp at h; omega
  · have h : (w5.alloc (.cells #[.slice none 0 0, .slice none 0 0] 27)).heap.size ≤ k := hk; simp at h; omega
  · have := hB6.size; omega
  · omega
set_option maxHeartbeats 4000000 in
theorem other_bad (r : RulesD) (p : PlaceD) (vp vs ve vc v0 v1 : Value) (w : World) (hr : RulesIn w r vp vs ve) (hp : PlaceIn w p vc v0 v1) (hz : placeE r p ≠ 0) :
    Calls Try.prog 18 #[RulesV r vp vs ve, PlaceV p vc v0 v1] w (PBad (placeE r p) w) := by
  obtain ⟨c, hc⟩ : ∃ c : Int, c = placeE r p := ⟨_, rfl⟩
  have HCK : Hid (∀ W, Below w.heap.size w W → Calls Try.prog 9 #[RulesV r vp vs ve, PlaceV p vc v0 v1] W (BelPost (.int .i64 c) W)) := Lib.hid (fun W h => by rw [hc]; exact pcheck_any r p vp vs ve vc v0 v1 W (hr.below h (Nat.le_refl _)) (hp.below h (Nat.le_refl _)))
  rw [← hc] at hz ⊢
  have hne : (c != 0) = true := by simpa using hz
  have hB : Below w.heap.size w (((w.alloc (.cells (RulesCells r vp vs ve) 26)).alloc (.cells (PlaceCells p vc v0 v1) 29)).alloc (.cells (PlaceCells zeroP (.slice none 0 0) (.slice none 0 0) (.slice none 0 0)) 29)) := (((Below.refl _ _).alloc (Nat.le_refl _) _).alloc (by simp) _).alloc (by simp <;> omega) _
  have HB : Hid _ := Lib.hid hB
  have hZ := PBox.new ((w.alloc (.cells (RulesCells r vp vs ve) 26)).alloc (.cells (PlaceCells p vc v0 v1) 29)) 29 zeroP (.slice none 0 0) (.slice none 0 0) (.slice none 0 0)
  have e2 : ((w.alloc (.cells (RulesCells r vp vs ve) 26)).alloc (.cells (PlaceCells p vc v0 v1) 29)).heap.size = w.heap.size + 2 := by simp
  rw [e2] at hZ
  have HZ : Hid _ := Lib.hid hZ
  unfold RulesCells PlaceCells zeroP at HB HZ
  unfold RulesV PlaceV PlaceCells at HCK ⊢
  clear hr hp hc hB hZ e2 hz
  go_enter Try.func18, Try.ntmps18
  go_wp2_with fail
  go_at_call 9; refine (HCK.out _ HB.out).mono ?_; rintro e w1 ⟨rfl, hb⟩
  have HB1 := Lib.hid (HB.out.trans (hb.mono HB.out.size))
  have hz1 : PBox w1 (w.heap.size + 2) 29 zeroP (.slice none 0 0) (.slice none 0 0) (.slice none 0 0) := PBox.below HZ.out hb (by simp)
  have HZ1 := Lib.hid hz1
  obtain ⟨⟨x0, x1, x2, x3, x4⟩, f0, f1, f2, f3, f4⟩ := hz1.facts
  clear hb HB HZ hz1 HCK
  go_wp2_with fail
  have HR2 := pbox_fill (p := zeroP) (vc := .slice none 0 0) (v0 := .slice none 0 0) (v1 := .slice none 0 0) HZ1.out
  refine bodyPost_ret (results_row_tmp rfl _ _ (w.heap.size + 2) 29 _ (0, 0) _ rfl HR2 Try.underlying29 rfl (by kernel_rfl)) rfl ?_
  exact ⟨rfl, fillP_below HB1.out (by omega) zeroP _ _ _⟩

def OtherOk (r : RulesD) (p : PlaceD) (w : World) (e : Ending) (w' : World) : Prop := ∃ vc v0 v1, e = .returned (.tuple #[PlaceV (otherD r p) vc v0 v1, .int .i64 0]) ∧ PlaceIn w' (otherD r p) vc v0 v1 ∧ Below w.heap.size w w'
set_option maxHeartbeats 8000000 in
theorem other_ok (r : RulesD) (p : PlaceD) (vp vs ve vc v0 v1 : Value) (w : World) (hr : RulesIn w r vp vs ve) (hp : PlaceIn w p vc v0 v1) (hok : POkay r p) :
    Calls Try.prog 18 #[RulesV r vp vs ve, PlaceV p vc v0 v1] w (OtherOk r p w) := by
  have HCK : Hid (∀ W, Below w.heap.size w W → Calls Try.prog 9 #[RulesV r vp vs ve, PlaceV p vc v0 v1] W (BelPost (.int .i64 0) W)) := Lib.hid (fun W h => by
    have h1 := pcheck_any r p vp vs ve vc v0 v1 W (hr.below h (Nat.le_refl _)) (hp.below h (Nat.le_refl _))
    rwa [placeE_iff.2 hok] at h1)
  have HMI : Hid (∀ W, Below w.heap.size w W → Calls Try.prog 37 #[RulesV (asStart r p) vp vc ve] W (MirOkB (asStart r p) W)) := Lib.hid (fun W h =>
    mirror_okB (asStart r p) vp vc ve W ⟨⟨(hr.below h (Nat.le_refl _)).1.1, (hp.below h (Nat.le_refl _)).c, (hr.below h (Nat.le_refl _)).1.2.2⟩, hr.2⟩ (asStart_E hok))
  have HC0 : Hid (∀ W, Below w.heap.size w W → Calls Try.prog 38 #[v0] W (CloneI p.h0 W)) := Lib.hid (fun W h => clone_ints p.h0 v0 W (hp.below h (Nat.le_refl _)).a (by have := hok.l0; have := (rulesE_ok hok.e).2.2.2.1; have := (piecesE_ok this).2; omega))
  have HC1 : Hid (∀ W, Below w.heap.size w W → Calls Try.prog 38 #[v1] W (CloneI p.h1 W)) := Lib.hid (fun W h => clone_ints p.h1 v1 W (hp.below h (Nat.le_refl _)).b (by have := hok.l1; have := (rulesE_ok hok.e).2.2.2.1; have := (piecesE_ok this).2; omega))
  obtain ⟨a0, n0, c0, rfl⟩ := hp.a.form
  obtain ⟨a1, n1, c1, rfl⟩ := hp.b.form
  obtain ⟨ac, nc, cc, rfl⟩ := hp.c.form
  have HT : Hid (0 ≤ p.turn ∧ p.turn ≤ 1) := Lib.hid ⟨hok.t0, hok.t1⟩
  obtain ⟨W1, hW1⟩ : ∃ W1, W1 = ((w.alloc (.cells (RulesCells r vp vs ve) 26)).alloc (.cells (PlaceCells p (.slice ac nc cc) (.slice a0 n0 c0) (.slice a1 n1 c1)) 29)).alloc (.cells (PlaceCells zeroP (.slice none 0 0) (.slice none 0 0) (.slice none 0 0)) 29) := ⟨_, rfl⟩
  have e1 : (w.alloc (.cells (RulesCells r vp vs ve) 26)).heap.size = w.heap.size + 1 := by simp
  have e2 : ((w.alloc (.cells (RulesCells r vp vs ve) 26)).alloc (.cells (PlaceCells p (.slice ac nc cc) (.slice a0 n0 c0) (.slice a1 n1 c1)) 29)).heap.size = w.heap.size + 2 := by simp
  have HB : Hid (Below w.heap.size w W1) := Lib.hid (by rw [hW1]; exact (((Below.refl _ _).alloc (Nat.le_refl _) _).alloc (by simp) _).alloc (by simp <;> omega) _)
  have HZ : Hid (PBox W1 (w.heap.size + 2) 29 zeroP (.slice none 0 0) (.slice none 0 0) (.slice none 0 0)) := Lib.hid (by
    have h := PBox.new ((w.alloc (.cells (RulesCells r vp vs ve) 26)).alloc (.cells (PlaceCells p (.slice ac nc cc) (.slice a0 n0 c0) (.slice a1 n1 c1)) 29)) 29 zeroP (.slice none 0 0) (.slice none 0 0) (.slice none 0 0)
    rw [e2] at h; rw [hW1]; exact h)
  have HX : Hid (PBox W1 (w.heap.size + 1) 29 p (.slice ac nc cc) (.slice a0 n0 c0) (.slice a1 n1 c1)) := Lib.hid (by
    have h := (PBox.new (w.alloc (.cells (RulesCells r vp vs ve) 26)) 29 p (.slice ac nc cc) (.slice a0 n0 c0) (.slice a1 n1 c1)).alloc (.cells (PlaceCells zeroP (.slice none 0 0) (.slice none 0 0) (.slice none 0 0)) 29)
    rw [e1] at h; rw [hW1]; exact h)
  have HY : Hid (RBox W1 w.heap.size 26 r vp vs ve) := Lib.hid (by
    have h := ((RBox.new w 26 r vp vs ve).alloc (.cells (PlaceCells p (.slice ac nc cc) (.slice a0 n0 c0) (.slice a1 n1 c1)) 29)).alloc (.cells (PlaceCells zeroP (.slice none 0 0) (.slice none 0 0) (.slice none 0 0)) 29)
    rw [hW1]; exact h)
  have HW1 : Hid (((w.alloc (.cells #[.string r.name, .int .i64 r.width, .int .i64 r.height, vp, vs, .bool r.falls, .bool r.keeps, ve, .int .i64 r.blocked, .int .i64 r.quiet, .int .i64 r.rep] 26)).alloc (.cells #[.slice ac nc cc, .slice a0 n0 c0, .slice a1 n1 c1, .int .i64 p.turn, .int .i64 p.quiet] 29)).alloc (.cells #[.slice none 0 0, .slice none 0 0, .slice none 0 0, .int .i64 0, .int .i64 0] 29) = W1) := Lib.hid hW1.symm
  unfold RulesV at HCK HMI ⊢
  unfold PlaceV PlaceCells at HCK ⊢
  unfold asStart at HMI
  clear hr hp hW1 e1 e2 hok
  go_enter Try.func18, Try.ntmps18
  go_wp2_with fail
  rw [HW1.out]
  clear HW1
  go_at_call 9; refine (HCK.out _ HB.out).mono ?_; rintro e w2 ⟨rfl, hb⟩
  have HB2 := Lib.hid (HB.out.trans (hb.mono HB.out.size))
  have HX2 := Lib.hid (HX.out.below hb HX.out.lt)
  have HZ2 := Lib.hid (HZ.out.below hb HZ.out.lt)
  have hy2 := HY.out.below hb (Array.getElem?_eq_some_iff.1 HY.out).1
  have HS2 : Hid (RBox (w2.setCell ⟨w.heap.size, 4, none⟩ (.slice ac nc cc)) w.heap.size 26 r vp (.slice ac nc cc) ve) := Lib.hid (hy2.set4 _)
  have HBS := Lib.hid (HB2.out.setCell (p := ⟨w.heap.size, 4, none⟩) (Nat.le_refl _) (.slice ac nc cc))
  have HXS := Lib.hid (HX2.out.other (a := ⟨w.heap.size, 4, none⟩) (by simp) (.slice ac nc cc))
  have HZS := Lib.hid (HZ2.out.other (a := ⟨w.heap.size, 4, none⟩) (by simp) (.slice ac nc cc))
  obtain ⟨⟨x0, x1, x2, x3, x4⟩, _⟩ := HX2.out.facts
  obtain ⟨⟨_, _, _, _, y4, _⟩, _, _, _, _, g4, _⟩ := hy2.facts
  clear hb HB HX HY HZ HCK HB2 HX2 HZ2 hy2 x1 x2 x3 x4
  go_wp2_with fail
  generalize w2.setCell ⟨w.heap.size, 4, none⟩ (.slice ac nc cc) = w3 at HS2 HBS HXS HZS ⊢
  clear x0 y4 g4
  obtain ⟨⟨y0, y1, y2, y3, y4, y5, y6, y7, y8, y9, y10⟩, -⟩ := HS2.out.facts
  go_wp2_with fail
  go_at_call 37; refine (HMI.out _ HBS.out).mono ?_; rintro e w4 ⟨vp4, vs4, ve4, rfl, hin4, hb, gs4, ns4, cs4, rfl, hgs4⟩
  have hst : IsSl IntAt 1 w4 (.slice (some ⟨gs4, 0, none⟩) ns4 cs4) (otherD r p).cells := hin4.1.2.1
  have HGS : Hid (w.heap.size + 2 < gs4) := Lib.hid (by have := HZS.out.lt; omega)
  clear hgs4
  obtain ⟨ap4, np4, cp4, rfl⟩ := hin4.1.1.form
  obtain ⟨ae4, ne4, ce4, rfl⟩ := hin4.1.2.2.form
  have HST := Lib.hid hst
  have HB4 := Lib.hid (HBS.out.trans (hb.mono HBS.out.size))
  have HX4 := Lib.hid (HXS.out.below hb HXS.out.lt)
  have HZ4 := Lib.hid (HZS.out.below hb HZS.out.lt)
  clear hb hin4 hst HBS HXS HZS HS2 y0 y1 y2 y3 y4 y5 y6 y7 y8 y9 y10 HMI
  unfold RulesV mirD
  dsimp only
  go_wp2_with fail
  obtain ⟨⟨_, h0, h1, _, _⟩, _⟩ := HX4.out.facts
  have hba : Below w4.heap.size w4 (w4.alloc (.cells #[.string r.name, .int .i64 r.width, .int .i64 r.height, .slice ap4 np4 cp4, .slice (some ⟨gs4, 0, none⟩) ns4 cs4, .bool r.falls, .bool r.keeps, .slice ae4 ne4 ce4, .int .i64 r.blocked, .int .i64 r.quiet, .int .i64 r.rep] 26)) := (Below.refl _ _).alloc (Nat.le_refl _) _
  have hm5 : (w4.alloc (.cells #[.string r.name, .int .i64 r.width, .int .i64 r.height, .slice ap4 np4 cp4, .slice (some ⟨gs4, 0, none⟩) ns4 cs4, .bool r.falls, .bool r.keeps, .slice ae4 ne4 ce4, .int .i64 r.blocked, .int .i64 r.quiet, .int .i64 r.rep] 26)).cell? ⟨w4.heap.size, 4, none⟩ = some (.slice (some ⟨gs4, 0, none⟩) ns4 cs4) := by simp
  have HM5 := Lib.hid hm5
  have HB5 := Lib.hid (HB4.out.trans (hba.mono HB4.out.size))
  have HX5 := Lib.hid (HX4.out.below hba HX4.out.lt)
  have HZ5 := Lib.hid (HZ4.out.below hba HZ4.out.lt)
  have HST5 := Lib.hid (HST.out.below int_keeps hba (Nat.le_refl _))
  obtain ⟨⟨_, h0, h1, _, _⟩, _⟩ := HX5.out.facts
  clear hm5 hba HB4 HX4 HZ4 HST
  generalize w4.alloc (.cells #[.string r.name, .int .i64 r.width, .int .i64 r.height, .slice ap4 np4 cp4, .slice (some ⟨gs4, 0, none⟩) ns4 cs4, .bool r.falls, .bool r.keeps, .slice ae4 ne4 ce4, .int .i64 r.blocked, .int .i64 r.quiet, .int .i64 r.rep] 26) = w5 at HM5 HB5 HX5 HZ5 HST5 h0 h1 ⊢
  have hlt : w.heap.size + 1 < w5.heap.size := HX5.out.lt
  have m5 := off_of hlt
  go_region_held3 (fun w' => w'.cell? ⟨w.heap.size + 1, 1, none⟩ = some (.slice a0 n0 c0) ∧ w'.cell? ⟨w.heap.size + 1, 2, none⟩ = some (.slice a1 n1 c1)) (go_keep) (first
    | (go_at_call 38; refine (HC1.out _ (by first | exact HB5.out.drew | exact HB5.out.drew.alloc HB5.out.size _)).mono ?_; rintro e w6 ⟨a6, n6, c6, rfl, hs6, hb6⟩; have hB6 : Below w5.heap.size w5 w6 := (by first | exact (Below.refl w5.heap.size w5).drew.trans hb6 | exact ((Below.refl w5.heap.size w5).drew.alloc (Nat.le_refl _) _).trans (hb6.mono (by simp))); have k0 := cell_keeps hB6 (Nat.le_refl _) h0; have k1 := cell_keeps hB6 (Nat.le_refl _) h1; have m6 := off_of (Nat.lt_of_lt_of_le hlt hB6.size); try (have hA6 : w6.heap[w5.heap.size]? = some (.cells #[.slice none 0 0, .slice none 0 0] 27 (0, 0)) := hA_dr hb6))
    | (go_at_call 38; refine (HC0.out _ (by first | exact HB5.out.trans (hB6.mono HB5.out.size) | exact (HB5.out.trans (hB6.mono HB5.out.size)).alloc (Nat.le_trans HB5.out.size hB6.size) _)).mono ?_; rintro e w7 ⟨a7, n7, c7, rfl, hs7, hb7⟩; have hB67 : Below w6.heap.size w6 w7 := (by first | exact hb7 | exact ((Below.refl w6.heap.size w6).alloc (Nat.le_refl _) _).trans (hb7.mono (by simp))); have hB7 := hB6.trans (hB67.mono hB6.size); have k0 := cell_keeps hB7 (Nat.le_refl _) h0; have k1 := cell_keeps hB7 (Nat.le_refl _) h1; first | (have hA7 := two_facts (hA_on hA6 hb7); obtain ⟨q0, q1, q2, q3⟩ := hA7) | (have hA7 := two_facts (hA_of hb7); obtain ⟨q0, q1, q2, q3⟩ := hA7) | skip))
  all_goals
    first
      | (have hT := twoEnd7 (w5 := w5) hb6 hb7 hs6 hs7; generalize w7.alloc (.cells #[.slice a6 n6 c6, .slice a7 n7 c7] 27) = wf at hT ⊢; generalize w7.heap.size = ab at hT ⊢)
      | (have hT := twoEnd6 (w5 := w5) hb6 hb7 hs6 hs7; generalize (w7.setCell ⟨w6.heap.size, 0, none⟩ (.slice a6 n6 c6)).setCell ⟨w6.heap.size, 1, none⟩ (.slice a7 n7 c7) = wf at hT ⊢; generalize w6.heap.size = ab at hT ⊢)
      | (have hT := twoEnd5 (w5 := w5) hb6 hb7 hs6 hs7; generalize (w7.setCell ⟨w5.heap.size, 0, none⟩ (.slice a6 n6 c6)).setCell ⟨w5.heap.size, 1, none⟩ (.slice a7 n7 c7) = wf at hT ⊢; obtain ⟨ab, hab⟩ : ∃ ab, ab = w5.heap.size := ⟨_, rfl⟩; rw [← hab] at hT ⊢; clear hab)
    obtain ⟨q0', q1', -, -⟩ := two_facts hT.arr
    have HBF : Hid (Below w.heap.size w wf) := Lib.hid (HB5.out.trans (hT.bel.mono HB5.out.size))
    have d4 := cell_keeps hT.bel (Nat.le_refl _) HM5.out
    have hzf := HZ5.out.below hT.bel HZ5.out.lt
    have HZF := Lib.hid hzf
    have HSS := Lib.hid (HST5.out.below int_keeps hT.bel (Nat.le_refl _))
    have HT6 := Lib.hid hT
    obtain ⟨⟨z0, z1, z2, z3, z4⟩, g0, g1, g2, g3, g4⟩ := hzf.facts
    obtain ⟨⟨-, -, -, x3, x4⟩, -⟩ := (HX5.out.below hT.bel HX5.out.lt).facts
    obtain ⟨t0, t1⟩ := HT.out
    have hw5 : Hid (w.heap.size + 2 < w5.heap.size) := Lib.hid HZ5.out.lt
    clear hT hzf
    go_wp2_with fail
    have HR2 := pbox_fill (p := otherD r p) (vc := .slice (some ⟨gs4, 0, none⟩) ns4 cs4) (v0 := .slice a6 n6 c6) (v1 := .slice a7 n7 c7) HZF.out
    refine bodyPost_ret (results_row_tmp rfl _ _ (w.heap.size + 2) 29 _ (0, 0) _ rfl HR2 Try.underlying29 rfl (by kernel_rfl)) rfl ?_
    have hfo := fillP_other wf (w.heap.size + 2) (otherD r p) (.slice (some ⟨gs4, 0, none⟩) ns4 cs4) (.slice a6 n6 c6) (.slice a7 n7 c7)
    refine ⟨.slice (some ⟨gs4, 0, none⟩) ns4 cs4, .slice a6 n6 c6, .slice a7 n7 c7, rfl, ⟨?_, ?_, ?_⟩, fillP_below HBF.out (by omega) (otherD r p) _ _ _⟩
    · exact ints_off hfo.1 (blk_of HSS.out (by have := HGS.out; omega))
    · exact ints_off hfo.1 (blk_weak (fun k hk => by have := hw5.out; omega) HT6.out.x6)
    · exact ints_off hfo.1 (blk_weak (fun k hk => by have := hw5.out; omega) HT6.out.x7)
end Go.Proofs.Ythbilpgecombiaa
