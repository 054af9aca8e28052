/- Copies of rules and of positions: rules.Clone and place.Clone. -/
import Derived.Test.YtdhhdkbnlddnbaaGreatDoorPlcF
import Derived.Test.YtdhhdkbnlddnbaaGreatDoorMvA
set_option maxRecDepth 100000
namespace Go.Proofs.YtdhhdkbnlddnbaaGreatDoor
open Go.ChangeShapes Go.WideShapes Go.ChangeAt Go.RowKit

/-- Rules that lie in blocks of a certain kind. -/
structure RulesC (c : Nat → Prop) (W : World) (r : RulesD) (vp vs ve : Value) : Prop where
  p : IsSl (Blk c (PieceIn c)) 4 W vp r.pieces
  s : IsSl (Blk c IntAt) 1 W vs r.start
  e : IsSl (Blk c EndAt) 4 W ve r.ends
  n : r.name.size ≤ maxLen
theorem RulesC.stays {c : Nat → Prop} {W W' : World} {r : RulesD} {vp vs ve : Value} (h : RulesC c W r vp vs ve) (hs : Stays c W W') : RulesC c W' r vp vs ve :=
  ⟨h.p.mono fun _ _ _ x => ⟨x.1, hs.piece (fun _ hb => hb) x.1 x.2⟩, intBlk_on (fun k hk hl => hs.1 k hl hk) h.s, h.e.mono fun _ _ _ x => hs.endd (fun _ hb => hb) x, h.n⟩
theorem RulesC.plain {c : Nat → Prop} {W : World} {r : RulesD} {vp vs ve : Value} (h : RulesC c W r vp vs ve) : RulesIn W r vp vs ve :=
  ⟨⟨h.p.mono fun _ _ _ x => x.2.plain, h.s.mono fun _ _ _ x => x.2, h.e.mono fun _ _ _ x => x.2⟩, h.n⟩
/-- The same rules, in memory of their own. -/
def RClone (c : Nat → Prop) (r : RulesD) (w : World) (e : Ending) (w' : World) : Prop :=
  ∃ ap np cp sa ns cs ea ne ce, e = .returned (.tuple #[RulesV r (.slice ap np cp) (.slice sa ns cs) (.slice ea ne ce), .int .i64 0]) ∧ RulesC c w' r (.slice ap np cp) (.slice sa ns cs) (.slice ea ne ce) ∧ Below w.heap.size w w'
set_option maxHeartbeats 4000000 in
theorem rclone_ok (c : Nat → Prop) (r : RulesD) (vp vs ve : Value) (w : World) (hr : RulesIn w r vp vs ve) (hz : rulesE r = 0) (hcf : ∀ k, w.heap.size ≤ k → c k) (hpc : IsSl (PieceIn c) 4 w vp r.pieces) :
    Calls Tryz.prog 63 #[RulesV r vp vs ve] w (RClone c r w) := by
  have HCK : Hid (∀ W, Below w.heap.size w W → Calls Tryz.prog 48 #[RulesV r vp vs ve] W (BelPost (.int .i64 0) W)) := Lib.hid (fun W h => by have := check_any r vp vs ve W (hr.below h (Nat.le_refl _)); rwa [hz] at this)
  have HCL : Hid (∀ W, Below w.heap.size w W → w.heap.size + 2 ≤ W.heap.size → Calls Tryz.prog 85 #[RulesV r vp vs ve] W (CloneR (fun k => k ≠ w.heap.size + 1 ∧ c k) r W)) := Lib.hid (fun W h h2 => cloneR_any (fun k => k ≠ w.heap.size + 1 ∧ c k) r vp vs ve W (fun k hk => ⟨by omega, hcf k (by omega)⟩) ((hpc.mono fun g o x hx => hx.here.weak (fun k hk => ⟨by omega, hk.1⟩)).below (pieceIn_keeps _) h (Nat.le_refl _)) (hr.below h (Nat.le_refl _)) (fits_ok hz))
  obtain ⟨ap, np, cp, rfl⟩ := hr.1.1.form
  obtain ⟨sa, ns, cs, rfl⟩ := hr.1.2.1.form
  obtain ⟨ea, ne, ce, rfl⟩ := hr.1.2.2.form
  have HNM := Lib.hid hr.2
  have HCF := Lib.hid hcf
  have HX0 := RBox.alloc (RBox.new w 26 r (.slice ap np cp) (.slice sa ns cs) (.slice ea ne ce)) (.cells (RulesCells zero0 (.slice none 0 0) (.slice none 0 0) (.slice none 0 0)) 26)
  have HZ0 := RBox.new (w.alloc (.cells (RulesCells r (.slice ap np cp) (.slice sa ns cs) (.slice ea ne ce)) 26)) 26 zero0 (.slice none 0 0) (.slice none 0 0) (.slice none 0 0)
  have HB0 := Below.alloc (Below.alloc (Below.refl w.heap.size w) (Nat.le_refl _) (.cells (RulesCells r (.slice ap np cp) (.slice sa ns cs) (.slice ea ne ce)) 26)) (by simp) (.cells (RulesCells zero0 (.slice none 0 0) (.slice none 0 0) (.slice none 0 0)) 26)
  have HX := Lib.hid HX0
  have HZ := Lib.hid HZ0
  have HB := Lib.hid HB0
  unfold RulesV at HCK HCL ⊢
  clear hz hr HX0 HZ0 HB0 hcf hpc
  go_enter Tryz.func63, Tryz.ntmps63
  go_wp2_with fail
  go_at_call 48; refine (HCK.out _ HB.out).mono ?_; rintro e w1 ⟨rfl, hb⟩
  have HB1 := Lib.hid (HB.out.trans (hb.mono HB.out.size))
  have hz1 := HZ.out.below hb (by simp)
  simp only [World.size_alloc] at hz1
  have HZ1 := Lib.hid hz1
  have hx1 := HX.out.below hb (by simp; omega)
  have hs1 : w.heap.size + 2 ≤ w1.heap.size := by have := hb.size; simp at this; omega
  have HS1 := Lib.hid hs1
  obtain ⟨⟨x0, x1, x2, x3, x4, x5, x6, x7, x8, x9, x10⟩, -⟩ := hx1.facts
  clear hb HB HZ HX hz1 hx1 HCK hs1
  go_wp2_with fail
  go_at_call 85; refine (HCL.out _ HB1.out HS1.out).mono ?_; rintro e w2 ⟨vp2, gs, cs2, ve2, rfl, hsp, hse, hown, hb⟩
  obtain ⟨ap2, np2, cp2, rfl⟩ := hsp.form
  obtain ⟨ae2, ne2, ce2, rfl⟩ := hse.form
  have hz2 := HZ1.out.below hb (by have := HS1.out; omega)
  have HB2 := Lib.hid (HB1.out.trans (hb.mono HB1.out.size))
  have HZ2 := Lib.hid hz2
  have HSP := Lib.hid hsp
  have HSE := Lib.hid hse
  have HOW := Lib.hid hown
  have HZF := hz2.facts
  clear hb HB1 HZ1 hz2 hsp hse hown x0 x1 x2 x3 x4 x5 x6 x7 x8 x9 x10 HCL
  unfold RFacts BoxR at HZF
  obtain ⟨⟨z0, z1, z2, z3, z4, z5, z6, z7, z8, z9, z10⟩, y0, y1, y2, y3, y4, y5, y6, y7, y8, y9, y10⟩ := HZF
  unfold RulesV
  go_wp2_with fail
  clear z0 z1 z2 z3 z4 z5 z6 z7 z8 z9 z10 y0 y1 y2 y3 y4 y5 y6 y7 y8 y9 y10
  have HR2 := rbox_fill (r := r) (vp := .slice ap2 np2 cp2) (vs := .slice (some ⟨gs, 0, none⟩) r.start.length cs2) (ve := .slice ae2 ne2 ce2) HZ2.out
  refine bodyPost_ret (results_row_tmpP rfl _ _ (w.heap.size + 1) 26 _ (0, 0) _ rfl HR2 Tryz.underlying26 rfl (by kernel_rfl)) rfl ?_
  have hfo := fill_other w2 (w.heap.size + 1) r (.slice ap2 np2 cp2) (.slice (some ⟨gs, 0, none⟩) r.start.length cs2) (.slice ae2 ne2 ce2)
  have hbl := fill_below HB2.out (b := w.heap.size + 1) (by omega) r (.slice ap2 np2 cp2) (.slice (some ⟨gs, 0, none⟩) r.start.length cs2) (.slice ae2 ne2 ce2)
  refine ⟨ap2, np2, cp2, some ⟨gs, 0, none⟩, r.start.length, cs2, ae2, ne2, ce2, rfl, ?_, hbl⟩
  change RulesC c (fill11 w2 (w.heap.size + 1) r (.slice ap2 np2 cp2) (.slice (some ⟨gs, 0, none⟩) r.start.length cs2) (.slice ae2 ne2 ce2)) r _ _ _
  generalize fill11 w2 (w.heap.size + 1) r (.slice ap2 np2 cp2) (.slice (some ⟨gs, 0, none⟩) r.start.length cs2) (.slice ae2 ne2 ce2) = WF at hfo ⊢
  have hst : Stays (fun b => b ≠ w.heap.size + 1) w2 WF := ⟨fun b _ hb => hfo.1 b hb, by rw [hfo.2]; exact Nat.le_refl _⟩
  have hgs := (HOW.out.lt gs rfl).1
  have hs1 := HS1.out
  refine ⟨HSP.out.mono fun g o y h => ⟨h.1.2.2, (hst.piece (fun b hb => hb.2.1) h.1.2.1 h.2).weak (fun k hk => hk.2.2)⟩, ?_, HSE.out.mono fun g o y h => ⟨h.1.2.2, (hst.endd (fun b hb => hb.2.1) h).2⟩, HNM.out⟩
  exact blk_of (ints_of_owns (own_keep HOW.out (hfo.1 gs (by omega)))) (HCF.out gs (by have := HB2.out; omega))

/-! ### Positions -/
set_option maxHeartbeats 4000000 in
theorem pclone_bad (r : RulesD) (p : PlaceD) (vp vs ve vc v0 v1 : Value) (w : World) (hr : RulesIn w r vp vs ve) (hp : PlaceIn w p vc v0 v1) (hz : placeE r p ≠ 0) :
    Calls Tryz.prog 62 #[RulesV r vp vs ve, PlaceV p vc v0 v1] w (PBad (placeE r p) w) := by
  obtain ⟨c, hc⟩ : ∃ c : Int, c = placeE r p := ⟨_, rfl⟩
  have HCK : Hid (∀ W, Below w.heap.size w W → Calls Tryz.prog 36 #[RulesV r vp vs ve, PlaceV p vc v0 v1] W (BelPost (.int .i64 c) W)) := Lib.hid (fun W h => by rw [hc]; exact pcheck_any r p vp vs ve vc v0 v1 W (hr.below h (Nat.le_refl _)) (hp.below h (Nat.le_refl _)))
  rw [← hc] at hz ⊢
  have hne : (c != 0) = true := by simpa using hz
  have hB : Below w.heap.size w (((w.alloc (.cells (RulesCells r vp vs ve) 26)).alloc (.cells (PlaceCells p vc v0 v1) 29)).alloc (.cells (PlaceCells zeroP (.slice none 0 0) (.slice none 0 0) (.slice none 0 0)) 29)) := (((Below.refl _ _).alloc (Nat.le_refl _) _).alloc (by simp) _).alloc (by simp <;> omega) _
  have HB : Hid _ := Lib.hid hB
  have hZ := PBox.new ((w.alloc (.cells (RulesCells r vp vs ve) 26)).alloc (.cells (PlaceCells p vc v0 v1) 29)) 29 zeroP (.slice none 0 0) (.slice none 0 0) (.slice none 0 0)
  have e2 : ((w.alloc (.cells (RulesCells r vp vs ve) 26)).alloc (.cells (PlaceCells p vc v0 v1) 29)).heap.size = w.heap.size + 2 := by simp
  rw [e2] at hZ
  have HZ : Hid _ := Lib.hid hZ
  unfold RulesCells PlaceCells zeroP at HB HZ
  unfold RulesV PlaceV PlaceCells at HCK ⊢
  clear hr hp hc hB hZ e2 hz
  go_enter Tryz.func62, Tryz.ntmps62
  go_wp2_with fail
  go_at_call 36; refine (HCK.out _ HB.out).mono ?_; rintro e w1 ⟨rfl, hb⟩
  have HB1 := Lib.hid (HB.out.trans (hb.mono HB.out.size))
  have hz1 : PBox w1 (w.heap.size + 2) 29 zeroP (.slice none 0 0) (.slice none 0 0) (.slice none 0 0) := PBox.below HZ.out hb (by simp)
  have HZ1 := Lib.hid hz1
  obtain ⟨⟨x0, x1, x2, x3, x4⟩, f0, f1, f2, f3, f4⟩ := hz1.facts
  clear hb HB HZ hz1 HCK
  go_wp2_with fail
  have HR2 := pbox_fill (p := zeroP) (vc := .slice none 0 0) (v0 := .slice none 0 0) (v1 := .slice none 0 0) HZ1.out
  refine bodyPost_ret (results_row_tmpP rfl _ _ (w.heap.size + 2) 29 _ (0, 0) _ rfl HR2 Tryz.underlying29 rfl (by kernel_rfl)) rfl ?_
  exact ⟨rfl, fillP_below HB1.out (by omega) zeroP _ _ _⟩
theorem ixh0 (a0 a1 : Option Addr) (n0 c0 n1 c1 : Nat) (w : World) : Sem.run Tryz.prog (Instr.index 27 (.agg #[.slice a0 n0 c0, .slice a1 n1 c1]) (.int .i64 0)) w = .ok (.slice a0 n0 c0) w := by kernel_rfl
theorem ixh1 (a0 a1 : Option Addr) (n0 c0 n1 c1 : Nat) (w : World) : Sem.run Tryz.prog (Instr.index 27 (.agg #[.slice a0 n0 c0, .slice a1 n1 c1]) (.int .i64 1)) w = .ok (.slice a1 n1 c1) w := by kernel_rfl
/-- The copy, of which the hands before the j-th are made. -/
def ClI (w : World) (p : PlaceD) (j : Nat) (wr : World) : Prop :=
  ∃ ca cn cc a0 n0 c0 a1 n1 c1, PBox wr (w.heap.size + 1) 29 p (.slice ca cn cc) (.slice a0 n0 c0) (.slice a1 n1 c1) ∧ PBox wr (w.heap.size + 2) 29 zeroP (.slice none 0 0) (.slice none 0 0) (.slice none 0 0) ∧ Below w.heap.size w wr ∧
    IsSl (Blk (fun k => w.heap.size + 3 ≤ k) IntAt) 1 wr (.slice ca cn cc) p.cells ∧ (1 ≤ j → IsSl (Blk (fun k => w.heap.size + 3 ≤ k) IntAt) 1 wr (.slice a0 n0 c0) p.h0) ∧ (2 ≤ j → IsSl (Blk (fun k => w.heap.size + 3 ≤ k) IntAt) 1 wr (.slice a1 n1 c1) p.h1)
theorem fresh_set {B b i : Nat} {W W' : World} {v u : Value} {xs : List Int} (h : IsSl (Blk (fun k => B ≤ k) IntAt) 1 W v xs) (hb : Below W.heap.size W W') (hlt : b < B) : IsSl (Blk (fun k => B ≤ k) IntAt) 1 (W'.setCell ⟨b, i, none⟩ u) v xs :=
  intBlk_on (fun k hk hl => (heap_setCell_other _ _ _ _ (by simp; omega)).trans (hb.block k hl)) h
theorem fresh_new {B b i : Nat} {W W' : World} {v u : Value} {xs : List Int} (h : IsSl (Blk (fun k => W.heap.size ≤ k) IntAt) 1 W' v xs) (hW : B ≤ W.heap.size) (hlt : b < B) : IsSl (Blk (fun k => B ≤ k) IntAt) 1 (W'.setCell ⟨b, i, none⟩ u) v xs :=
  intBlk_on (fun k hk hl => heap_setCell_other _ _ _ _ (by simp; omega)) (blk_weak (fun k hk => Nat.le_trans hW hk) h)
theorem ClI.step0 {w : World} {p : PlaceD} {wr w2 : World} {a : Option Addr} {n c : Nat} (h : ClI w p 0 wr) (hb : Below wr.heap.size wr w2) (hs : IsSl (Blk (fun k => wr.heap.size ≤ k) IntAt) 1 w2 (.slice a n c) p.h0) : ClI w p 1 (w2.setCell ⟨w.heap.size + 1, 1, none⟩ (.slice a n c)) := by
  obtain ⟨ca, cn, cc, a0, n0, c0, a1, n1, c1, h1, h2, h3, h4, -, -⟩ := h
  have hlt := h2.lt
  exact ⟨ca, cn, cc, a, n, c, a1, n1, c1, heap_setCell_same _ _ 1 _ _ _ (h1.below hb h1.lt), (h2.below hb h2.lt).other (by simp) _, (h3.trans (hb.mono h3.size)).setCell (by simp) _, fresh_set h4 hb (by omega), fun _ => fresh_new hs (by omega) (by omega), fun h => by omega⟩
theorem ClI.step1 {w : World} {p : PlaceD} {wr w2 : World} {a : Option Addr} {n c : Nat} (h : ClI w p 1 wr) (hb : Below wr.heap.size wr w2) (hs : IsSl (Blk (fun k => wr.heap.size ≤ k) IntAt) 1 w2 (.slice a n c) p.h1) : ClI w p 2 (w2.setCell ⟨w.heap.size + 1, 2, none⟩ (.slice a n c)) := by
  obtain ⟨ca, cn, cc, a0, n0, c0, a1, n1, c1, h1, h2, h3, h4, h5, -⟩ := h
  have hlt := h2.lt
  exact ⟨ca, cn, cc, a0, n0, c0, a, n, c, heap_setCell_same _ _ 2 _ _ _ (h1.below hb h1.lt), (h2.below hb h2.lt).other (by simp) _, (h3.trans (hb.mono h3.size)).setCell (by simp) _, fresh_set h4 hb (by omega), fun _ => fresh_set (h5 (by omega)) hb (by omega), fun _ => fresh_new hs (by omega) (by omega)⟩
set_option maxHeartbeats 8000000 in
theorem pclone_ok (r : RulesD) (p : PlaceD) (vp vs ve vc v0 v1 : Value) (w : World) (hr : RulesIn w r vp vs ve) (hp : PlaceIn w p vc v0 v1) (hok : POkay r p) :
    Calls Tryz.prog 62 #[RulesV r vp vs ve, PlaceV p vc v0 v1] w (MadeP p w) := by
  have HCK : Hid (∀ W, Below w.heap.size w W → Calls Tryz.prog 36 #[RulesV r vp vs ve, PlaceV p vc v0 v1] W (BelPost (.int .i64 0) W)) := Lib.hid (fun W h => by
    have h1 := pcheck_any r p vp vs ve vc v0 v1 W (hr.below h (Nat.le_refl _)) (hp.below h (Nat.le_refl _))
    rwa [placeE_iff.2 hok] at h1)
  have hsh := hok.short
  have HCC : Hid (∀ W, Below w.heap.size w W → Calls Tryz.prog 49 #[vc] W (CloneI p.cells W)) := Lib.hid (fun W h => clone_ints p.cells vc W (hp.below h (Nat.le_refl _)).c hsh.c)
  have HC0 : Hid (∀ W, Below w.heap.size w W → Calls Tryz.prog 49 #[v0] W (CloneI p.h0 W)) := Lib.hid (fun W h => clone_ints p.h0 v0 W (hp.below h (Nat.le_refl _)).a hsh.a)
  have HC1 : Hid (∀ W, Below w.heap.size w W → Calls Tryz.prog 49 #[v1] W (CloneI p.h1 W)) := Lib.hid (fun W h => clone_ints p.h1 v1 W (hp.below h (Nat.le_refl _)).b hsh.b)
  obtain ⟨ac, nc, cc, rfl⟩ := hp.c.form
  obtain ⟨a0, n0, c0, rfl⟩ := hp.a.form
  obtain ⟨a1, n1, c1, rfl⟩ := hp.b.form
  have J0 := ixh0 a0 a1 n0 c0 n1 c1
  have J1 := ixh1 a0 a1 n0 c0 n1 c1
  obtain ⟨W1, hW1⟩ : ∃ W1, W1 = ((w.alloc (.cells (RulesCells r vp vs ve) 26)).alloc (.cells (PlaceCells p (.slice ac nc cc) (.slice a0 n0 c0) (.slice a1 n1 c1)) 29)).alloc (.cells (PlaceCells zeroP (.slice none 0 0) (.slice none 0 0) (.slice none 0 0)) 29) := ⟨_, rfl⟩
  have e1 : (w.alloc (.cells (RulesCells r vp vs ve) 26)).heap.size = w.heap.size + 1 := by simp
  have e2 : ((w.alloc (.cells (RulesCells r vp vs ve) 26)).alloc (.cells (PlaceCells p (.slice ac nc cc) (.slice a0 n0 c0) (.slice a1 n1 c1)) 29)).heap.size = w.heap.size + 2 := by simp
  have HB : Hid (Below w.heap.size w W1) := Lib.hid (by rw [hW1]; exact (((Below.refl _ _).alloc (Nat.le_refl _) _).alloc (by simp) _).alloc (by simp <;> omega) _)
  have HZ : Hid (PBox W1 (w.heap.size + 2) 29 zeroP (.slice none 0 0) (.slice none 0 0) (.slice none 0 0)) := Lib.hid (by
    have h := PBox.new ((w.alloc (.cells (RulesCells r vp vs ve) 26)).alloc (.cells (PlaceCells p (.slice ac nc cc) (.slice a0 n0 c0) (.slice a1 n1 c1)) 29)) 29 zeroP (.slice none 0 0) (.slice none 0 0) (.slice none 0 0)
    rw [e2] at h; rw [hW1]; exact h)
  have HX : Hid (PBox W1 (w.heap.size + 1) 29 p (.slice ac nc cc) (.slice a0 n0 c0) (.slice a1 n1 c1)) := Lib.hid (by
    have h := (PBox.new (w.alloc (.cells (RulesCells r vp vs ve) 26)) 29 p (.slice ac nc cc) (.slice a0 n0 c0) (.slice a1 n1 c1)).alloc (.cells (PlaceCells zeroP (.slice none 0 0) (.slice none 0 0) (.slice none 0 0)) 29)
    rw [e1] at h; rw [hW1]; exact h)
  have hW1' := hW1
  unfold RulesCells PlaceCells zeroP at hW1'
  unfold RulesV PlaceV PlaceCells at HCK ⊢
  clear hr hp hW1 e1 e2 hok hsh
  go_enter Tryz.func62, Tryz.ntmps62
  go_wp2_with fail
  rw [← hW1']
  clear hW1'
  go_at_call 36; refine (HCK.out _ HB.out).mono ?_; rintro e w2 ⟨rfl, hb⟩
  have HB2 := Lib.hid (HB.out.trans (hb.mono HB.out.size))
  have hx2 := HX.out.below hb HX.out.lt
  have HX2 := Lib.hid hx2
  have HZ2 := Lib.hid (HZ.out.below hb HZ.out.lt)
  obtain ⟨⟨x0, x1, x2, x3, x4⟩, f0, f1, f2, f3, f4⟩ := hx2.facts
  clear hb HB HX HZ HCK hx2
  go_wp2_with fail
  go_at_call 49; refine (HCC.out _ HB2.out).mono ?_; rintro e w3 ⟨ca, cn, cc3, rfl, hsc, hb⟩
  have hx3 := HX2.out.below hb HX2.out.lt
  have hlt2 := HZ2.out.lt
  have HI : Hid (ClI w p 0 (w3.setCell ⟨w.heap.size + 1, 0, none⟩ (.slice ca cn cc3))) := Lib.hid
    ⟨ca, cn, cc3, a0, n0, c0, a1, n1, c1, heap_setCell_same _ _ 0 _ _ _ hx3, (HZ2.out.below hb HZ2.out.lt).other (by simp) _, (HB2.out.trans (hb.mono HB2.out.size)).setCell (by simp) _, fresh_new hsc (by omega) (by omega), fun h => by omega, fun h => by omega⟩
  have hx4 : PBox (w3.setCell ⟨w.heap.size + 1, 0, none⟩ (.slice ca cn cc3)) (w.heap.size + 1) 29 p (.slice ca cn cc3) (.slice a0 n0 c0) (.slice a1 n1 c1) := heap_setCell_same _ _ 0 _ _ _ hx3
  have hx4f := hx4.facts
  clear x0 x1 x2 x3 x4 f0 f1 f2 f3 f4
  obtain ⟨⟨x0, x1, x2, x3, x4⟩, f0, f1, f2, f3, f4⟩ := hx3.facts
  clear hb hsc HB2 HX2 HZ2 hx3 hx4 hlt2 HCC
  go_wp2_with fail
  generalize w3.setCell ⟨w.heap.size + 1, 0, none⟩ (.slice ca cn cc3) = w4 at HI hx4f ⊢
  clear x0 x1 x2 x3 x4 f0 f1 f2 f3 f4
  obtain ⟨⟨x0, x1, x2, x3, x4⟩, -⟩ := hx4f
  go_wp2_with fail
  clear x0 x1 x2 x3 x4
  go_loopw [7, 8, 22] (fun _ _ i wr => ∃ j : Nat, j ≤ 2 ∧ i = .int .i64 (j : Int) ∧ Hid (ClI w p j wr)) (fun _ _ i _ => 2 - (intOf i).toNat)
  case atStart => exact ⟨0, by omega, rfl, HI⟩
  case round =>
    clear HI
    obtain ⟨j, hj, rfl, hI⟩ := hrel
    have hj3 : j = 0 ∨ j = 1 ∨ j = 2 := by omega
    rcases hj3 with rfl | rfl | rfl
    · have HBW := Lib.hid hI.out.choose_spec.choose_spec.choose_spec.choose_spec.choose_spec.choose_spec.choose_spec.choose_spec.choose_spec.2.2.1
      go_wp2_with fail
      go_at_call 49; refine (HC0.out _ HBW.out).mono ?_; rintro e w5 ⟨ba, bn, bc, rfl, hs, hb⟩
      have hN := Lib.hid (hI.out.step0 hb hs)
      obtain ⟨_, _, _, _, _, _, _, _, _, hpb, -⟩ := hI.out
      obtain ⟨⟨x0, x1, x2, x3, x4⟩, f0, f1, f2, f3, f4⟩ := (hpb.below hb hpb.lt).facts
      clear hs hb hI HBW hpb
      go_wp2_with fail
      go_roundw
      case rel => exact ⟨1, by omega, rfl, hN⟩
      case measure => simp [intOf]
    · have HBW := Lib.hid hI.out.choose_spec.choose_spec.choose_spec.choose_spec.choose_spec.choose_spec.choose_spec.choose_spec.choose_spec.2.2.1
      go_wp2_with fail
      go_at_call 49; refine (HC1.out _ HBW.out).mono ?_; rintro e w5 ⟨ba, bn, bc, rfl, hs, hb⟩
      have hN := Lib.hid (hI.out.step1 hb hs)
      obtain ⟨_, _, _, _, _, _, _, _, _, hpb, -⟩ := hI.out
      obtain ⟨⟨x0, x1, x2, x3, x4⟩, f0, f1, f2, f3, f4⟩ := (hpb.below hb hpb.lt).facts
      clear hs hb hI HBW hpb
      go_wp2_with fail
      go_roundw
      case rel => exact ⟨2, by omega, rfl, hN⟩
      case measure => simp [intOf]
    · obtain ⟨ca5, cn5, cc5, a05, n05, c05, a15, n15, c15, h1, h2, h3, h4, h5, h6⟩ := hI.out
      have HL := Lib.hid (And.intro h3 (And.intro h4 (And.intro (h5 (by omega)) (h6 (by omega)))))
      have HZ5 := Lib.hid h2
      obtain ⟨⟨x0, x1, x2, x3, x4⟩, -⟩ := h1.facts
      obtain ⟨⟨y0, y1, y2, y3, y4⟩, f0, f1, f2, f3, f4⟩ := h2.facts
      unfold zeroP at y3 y4
      clear h1 h2 h3 h4 h5 h6 hI
      go_wp2_with fail
      have HR2 := pbox_fill (p := p) (vc := .slice ca5 cn5 cc5) (v0 := .slice a05 n05 c05) (v1 := .slice a15 n15 c15) HZ5.out
      have hfo := fillP_other wr (w.heap.size + 2) p (.slice ca5 cn5 cc5) (.slice a05 n05 c05) (.slice a15 n15 c15)
      have hbf := fillP_below HL.out.1 (b := w.heap.size + 2) (by omega) p (.slice ca5 cn5 cc5) (.slice a05 n05 c05) (.slice a15 n15 c15)
      refine bodyPost_ret (results_row_tmpP rfl _ _ (w.heap.size + 2) 29 _ (0, 0) _ rfl HR2 Tryz.underlying29 rfl (by kernel_rfl)) rfl ?_
      refine ⟨ca5, cn5, cc5, a05, n05, c05, a15, n15, c15, rfl, ?_, hbf⟩
      have hpf : PlaceF (fun k => w.heap.size + 3 ≤ k) wr p (.slice ca5 cn5 cc5) (.slice a05 n05 c05) (.slice a15 n15 c15) := ⟨HL.out.2.1, HL.out.2.2.1, HL.out.2.2.2⟩
      exact hpf.on (fun k hk _ => hfo.1 k (by omega)) (fun k hk => by omega)
end Go.Proofs.YtdhhdkbnlddnbaaGreatDoor
