/- guess: what Read guesses of a text. -/
import Derived.Test.YtakekeljndofcaaGreatDoorGCells
import Derived.Deep.RegionHeld3
set_option maxRecDepth 100000
namespace Go.Proofs.YtakekeljndofcaaGreatDoor
open Go.ChangeShapes Go.WideShapes Go.ChangeAt Go.RowKit Go.Deep

/-- A position whose slices lie in blocks of a kind. -/
structure PlaceB (d : Nat → Prop) (W : World) (p : PlaceD) (vc v0 v1 : Value) : Prop where
  c : IsSl (Blk d IntAt) 1 W vc p.cells
  a : IsSl (Blk d IntAt) 1 W v0 p.h0
  b : IsSl (Blk d IntAt) 1 W v1 p.h1
theorem PlaceB.plain {d : Nat → Prop} {W : World} {p : PlaceD} {vc v0 v1 : Value} (h : PlaceB d W p vc v0 v1) : PlaceIn W p vc v0 v1 := ⟨h.c.mono fun _ _ _ x => x.2, h.a.mono fun _ _ _ x => x.2, h.b.mono fun _ _ _ x => x.2⟩
theorem PlaceB.below {d : Nat → Prop} {W W' : World} {p : PlaceD} {vc v0 v1 : Value} (h : PlaceB d W p vc v0 v1) {n : Nat} (hb : Below n W W') (hn : W.heap.size ≤ n) : PlaceB d W' p vc v0 v1 := ⟨h.c.below (Blk.keeps int_keeps) hb hn, h.a.below (Blk.keeps int_keeps) hb hn, h.b.below (Blk.keeps int_keeps) hb hn⟩
theorem PlaceB.weak {d d' : Nat → Prop} (hd : ∀ k, d k → d' k) {W : World} {p : PlaceD} {vc v0 v1 : Value} (h : PlaceB d W p vc v0 v1) : PlaceB d' W p vc v0 v1 := ⟨blk_weak hd h.c, blk_weak hd h.a, blk_weak hd h.b⟩
theorem PlaceB.on {d : Nat → Prop} {W W' : World} (hs : ∀ k, d k → W'.heap[k]? = W.heap[k]?) {p : PlaceD} {vc v0 v1 : Value} (h : PlaceB d W p vc v0 v1) : PlaceB d W' p vc v0 v1 := ⟨intBlk_on (fun k hk _ => hs k hk) h.c, intBlk_on (fun k hk _ => hs k hk) h.a, intBlk_on (fun k hk _ => hs k hk) h.b⟩
/-- A position that was made. -/
def RefP (q : PlaceD) (w : World) (e : Ending) (w' : World) : Prop :=
  ∃ ca cn cc a0 n0 c0 a1 n1 c1, e = .returned (.agg #[.slice ca cn cc, .slice a0 n0 c0, .slice a1 n1 c1, .int .i64 q.turn, .int .i64 q.quiet]) ∧ PlaceB (fun k => w.heap.size ≤ k) w' q (.slice ca cn cc) (.slice a0 n0 c0) (.slice a1 n1 c1) ∧ Below w.heap.size w w'
theorem zero_in (d : Nat → Prop) (W : World) : PlaceB d W zeroP (.slice none 0 0) (.slice none 0 0) (.slice none 0 0) := ⟨.inl ⟨rfl, none, 0, rfl⟩, .inl ⟨rfl, none, 0, rfl⟩, .inl ⟨rfl, none, 0, rfl⟩⟩
theorem guessP_no {ps : List PieceD} {s : List UInt8} (h : (cutB 32 s).length ≠ 5) : guessP ps s = zeroP := by
  unfold guessP
  split
  · rename_i h2; rw [h2] at h; exact absurd rfl h
  · rfl
theorem five {α : Type} {l : List α} (h : l.length = 5) : ∃ a b c d e, l = [a, b, c, d, e] := by
  match l, h with
  | [a, b, c, d, e], _ => exact ⟨a, b, c, d, e, rfl⟩
set_option maxHeartbeats 8000000 in
theorem guess_any (r : RulesD) (vp vs ve : Value) (S : List UInt8) (w : World) (hr : IsSl PieceAt 4 w vp r.pieces) (h6 : r.pieces.length ≤ 6) (hcap : ∀ x ∈ r.pieces, 65 ≤ x.letter ∧ x.letter ≤ 90) (hS : S.length ≤ 8192) (hE : Env w.heap.size w) :
    Calls Tryz.prog 17 #[RulesV r vp vs ve, .string (str S)] w (RefP (guessP r.pieces S) w) := by
  have HEV : Hid (∀ W, Below w.heap.size w W → Env W.heap.size W) := Lib.hid (fun W h => hE.up h h.size)
  have HX := Lib.hid (BoxR.below (boxR_new w r vp vs ve 26) ((Below.refl _ _).alloc (Nat.le_refl _) (.cells (PlaceCells zeroP (.slice none 0 0) (.slice none 0 0) (.slice none 0 0)) 29)) (Nat.le_refl _))
  have hZ := PBox.new (w.alloc (.cells (RulesCells r vp vs ve) 26)) 29 zeroP (.slice none 0 0) (.slice none 0 0) (.slice none 0 0)
  rw [World.size_alloc] at hZ
  have HZ := Lib.hid hZ
  have HB : Hid (Below w.heap.size w ((w.alloc (.cells (RulesCells r vp vs ve) 26)).alloc (.cells (PlaceCells zeroP (.slice none 0 0) (.slice none 0 0) (.slice none 0 0)) 29))) := Lib.hid (((Below.refl _ _).alloc (Nat.le_refl _) _).alloc (by simp) _)
  obtain ⟨w1, hw1⟩ : ∃ w1, w1 = ((w.alloc (.cells (RulesCells r vp vs ve) 26)).alloc (.cells (PlaceCells zeroP (.slice none 0 0) (.slice none 0 0) (.slice none 0 0)) 29)) := ⟨_, rfl⟩
  have HW1 : Hid ((w.alloc (.cells #[.string r.name, .int .i64 r.width, .int .i64 r.height, vp, vs, .bool r.falls, .bool r.keeps, ve, .int .i64 r.blocked, .int .i64 r.quiet, .int .i64 r.rep] 26)).alloc (.cells #[.slice none 0 0, .slice none 0 0, .slice none 0 0, .int .i64 0, .int .i64 0] 29) = w1) := Lib.hid hw1.symm
  have HSZ : Hid (w.heap.size + 1 < w1.heap.size) := Lib.hid (by rw [hw1]; exact hZ.lt)
  rw [← hw1] at HX HB HZ
  clear hw1 hZ
  by_cases h5 : (cutB 32 S).length = 5
  · obtain ⟨a, b, c, d, f, hl⟩ := five h5
    have hfl := cut_flat 32 S
    rw [hl] at hfl
    simp only [List.flatten_cons, List.flatten_nil, List.length_append, List.length_nil] at hfl
    have HSP : Hid (∀ W, Below w.heap.size w W → Calls Tryz.prog 36 #[.string (str S), .string ⟨#[32]⟩] W fun e w' => e = .returned (.slice (some ⟨W.heap.size, 0, none⟩) 5 5) ∧ w' = W.alloc (.cells #[.string (str a), .string (str b), .string (str c), .string (str d), .string (str f)] 9)) := Lib.hid (fun W h => by
      have h1 := split_any 32 (str S) W (by rw [str_size]; omega) (HEV.out W h)
      rwa [data_str, hl] at h1)
    obtain ⟨L0, hL0⟩ : ∃ l, l = guessCells r.pieces a := ⟨_, rfl⟩
    obtain ⟨L1, hL1⟩ : ∃ l, l = guessH r.pieces b := ⟨_, rfl⟩
    obtain ⟨L2, hL2⟩ : ∃ l, l = guessH r.pieces c := ⟨_, rfl⟩
    obtain ⟨z3, hz3⟩ : ∃ l, l = numG d := ⟨_, rfl⟩
    obtain ⟨z4, hz4⟩ : ∃ l, l = numG f := ⟨_, rfl⟩
    have HQ : Hid (guessP r.pieces S = ⟨L0, L1, L2, IntKind.i64.wrap (z3 - 1), z4⟩) := Lib.hid (by rw [guessP, hl]; simp only [guess5]; rw [hL0, hL1, hL2, hz3, hz4])
    have H0 : Hid (∀ W, Below w.heap.size w W → Calls Tryz.prog 37 #[RulesV r vp vs ve, .string (str a)] W (IntsP L0 W)) := Lib.hid (fun W h => by rw [hL0]; exact guessCells_any r vp vs ve a W (hr.below piece_keeps h (Nat.le_refl _)) h6 hcap (by omega) (HEV.out W h))
    have H1 : Hid (∀ W, Below w.heap.size w W → Calls Tryz.prog 38 #[RulesV r vp vs ve, .string (str b)] W (IntsP L1 W)) := Lib.hid (fun W h => by rw [hL1]; exact guessHand_any r vp vs ve b W (hr.below piece_keeps h (Nat.le_refl _)) h6 (by omega) (HEV.out W h))
    have H2 : Hid (∀ W, Below w.heap.size w W → Calls Tryz.prog 38 #[RulesV r vp vs ve, .string (str c)] W (IntsP L2 W)) := Lib.hid (fun W h => by rw [hL2]; exact guessHand_any r vp vs ve c W (hr.below piece_keeps h (Nat.le_refl _)) h6 (by omega) (HEV.out W h))
    have H3 : Hid (∀ W, Below w.heap.size w W → Calls Tryz.prog 39 #[.string (str d)] W (BelPost (.int .i64 z3) W)) := Lib.hid (fun W h => by rw [hz3]; exact guessNumber_any d W (by omega) (HEV.out W h))
    have H4 : Hid (∀ W, Below w.heap.size w W → Calls Tryz.prog 39 #[.string (str f)] W (BelPost (.int .i64 z4) W)) := Lib.hid (fun W h => by rw [hz4]; exact guessNumber_any f W (by omega) (HEV.out W h))
    unfold RulesV at H0 H1 H2 ⊢
    clear hr h6 hcap hS hE h5 hl hfl hL0 hL1 hL2 hz3 hz4
    go_enter Tryz.func17, Tryz.ntmps17
    go_wp2_with fail
    rw [HW1.out]
    clear HW1
    go_at_call 36; refine (HSP.out _ HB.out).mono ?_; rintro e w2 ⟨rfl, rfl⟩
    obtain ⟨g, hg⟩ : ∃ g, g = w1.heap.size := ⟨_, rfl⟩
    have hbk := heap_alloc_new w1 (.cells #[.string (str a), .string (str b), .string (str c), .string (str d), .string (str f)] 9)
    have hp : ∀ i, (w1.alloc (.cells #[.string (str a), .string (str b), .string (str c), .string (str d), .string (str f)] 9)).cell? ⟨w1.heap.size, i, none⟩ = (#[.string (str a), .string (str b), .string (str c), .string (str d), .string (str f)] : Array Value)[i]? := fun i => cell_of_row _ w1.heap.size i _ _ (0, 0) hbk
    have p0 := hp 0
    have p1 := hp 1
    have p2 := hp 2
    have p3 := hp 3
    have p4 := hp 4
    simp only [List.getElem?_toArray, List.getElem?_cons_zero, List.getElem?_cons_succ] at p0 p1 p2 p3 p4
    have hal := (Below.refl w1.heap.size w1).alloc (Nat.le_refl _) (.cells #[.string (str a), .string (str b), .string (str c), .string (str d), .string (str f)] 9)
    have HB2 := Lib.hid (HB.out.trans (hal.mono HB.out.size))
    have HX2 := Lib.hid (BoxR.below HX.out hal (Nat.le_refl _))
    have HZ2 := Lib.hid (PBox.below HZ.out hal HSZ.out)
    have HP2 : Hid _ := Lib.hid (And.intro p0 (And.intro p1 (And.intro p2 (And.intro p3 p4))))
    have HGN : Hid (g ≠ w.heap.size + 1) := Lib.hid (by have := HSZ.out; omega)
    have HS2 : Hid (w.heap.size + 1 < (w1.alloc (.cells #[.string (str a), .string (str b), .string (str c), .string (str d), .string (str f)] 9)).heap.size) := Lib.hid (Nat.lt_of_lt_of_le HSZ.out hal.size)
    rw [← hg] at HP2 ⊢
    clear hal hbk hp HB HX HZ HSP p0 p1 p2 p3 p4 HSZ hg
    generalize w1.alloc (.cells #[.string (str a), .string (str b), .string (str c), .string (str d), .string (str f)] 9) = w2 at HP2 HB2 HX2 HZ2 HS2 ⊢
    obtain ⟨p0, p1, p2, p3, p4⟩ := HP2.out
    go_wp2_with fail
    have hBc : Below w2.heap.size w2 w2.drew := (Below.refl _ _).drew
    have tA : True := trivial
    have tC : True := trivial
    have hg1 := HGN.out
    have hg2 : ¬ w.heap.size + 1 = g := fun e => HGN.out e.symm
    clear p0 p1 p2 p3 p4
    go_region_held3 (fun w' => (w'.cell? ⟨w.heap.size, 0, none⟩ = some (.string r.name) ∧ w'.cell? ⟨w.heap.size, 1, none⟩ = some (.int .i64 r.width) ∧ w'.cell? ⟨w.heap.size, 2, none⟩ = some (.int .i64 r.height) ∧ w'.cell? ⟨w.heap.size, 3, none⟩ = some vp ∧ w'.cell? ⟨w.heap.size, 4, none⟩ = some vs ∧ w'.cell? ⟨w.heap.size, 5, none⟩ = some (.bool r.falls) ∧ w'.cell? ⟨w.heap.size, 6, none⟩ = some (.bool r.keeps) ∧ w'.cell? ⟨w.heap.size, 7, none⟩ = some ve ∧ w'.cell? ⟨w.heap.size, 8, none⟩ = some (.int .i64 r.blocked) ∧ w'.cell? ⟨w.heap.size, 9, none⟩ = some (.int .i64 r.quiet) ∧ w'.cell? ⟨w.heap.size, 10, none⟩ = some (.int .i64 r.rep)) ∧ (w'.cell? ⟨g, 0, none⟩ = some (.string (str a)) ∧ w'.cell? ⟨g, 1, none⟩ = some (.string (str b)) ∧ w'.cell? ⟨g, 2, none⟩ = some (.string (str c)) ∧ w'.cell? ⟨g, 3, none⟩ = some (.string (str d)) ∧ w'.cell? ⟨g, 4, none⟩ = some (.string (str f)))) (first | (have hx := HX2.out.below hBc (Nat.le_refl _); unfold BoxR at hx; with_reducible exact ⟨hx, cell_keeps hBc (Nat.le_refl _) HP2.out.1, cell_keeps hBc (Nat.le_refl _) HP2.out.2.1, cell_keeps hBc (Nat.le_refl _) HP2.out.2.2.1, cell_keeps hBc (Nat.le_refl _) HP2.out.2.2.2.1, cell_keeps hBc (Nat.le_refl _) HP2.out.2.2.2.2⟩) | go_keep) (first
      | (go_at_call 37; refine (H0.out _ (HB2.out.trans (hBc.mono HB2.out.size))).mono ?_; rintro e w4 ⟨a0, n0, c0, rfl, h4, hb⟩; have h4 := blk_weak (d := fun k => w.heap.size + 2 ≤ k) (fun k hk => by have h7 := Nat.le_trans hBc.size hk; have := HS2.out; omega) h4; have hBc := hBc.trans (hb.mono hBc.size); clear hb)
      | (have t := tA; go_at_call 38; refine (H1.out _ (HB2.out.trans (hBc.mono HB2.out.size))).mono ?_; rintro e w5 ⟨a1, n1, c1, rfl, h5, hb⟩; have h5 := blk_weak (d := fun k => w.heap.size + 2 ≤ k) (fun k hk => by have h7 := Nat.le_trans hBc.size hk; have := HS2.out; omega) h5; have h4 := h4.below (Blk.keeps int_keeps) hb (Nat.le_refl _); have hBc := hBc.trans (hb.mono hBc.size); clear hb tA t)
      | (go_at_call 38; refine (H2.out _ (HB2.out.trans (hBc.mono HB2.out.size))).mono ?_; rintro e w6 ⟨a2, n2, c2, rfl, h6, hb⟩; have h6 := blk_weak (d := fun k => w.heap.size + 2 ≤ k) (fun k hk => by have h7 := Nat.le_trans hBc.size hk; have := HS2.out; omega) h6; have h4 := h4.below (Blk.keeps int_keeps) hb (Nat.le_refl _); have h5 := h5.below (Blk.keeps int_keeps) hb (Nat.le_refl _); have hBc := hBc.trans (hb.mono hBc.size); clear hb)
      | (have t := tC; go_at_call 39; refine (H3.out _ (HB2.out.trans (hBc.mono HB2.out.size))).mono ?_; rintro e w7 ⟨rfl, hb⟩; have h4 := h4.below (Blk.keeps int_keeps) hb (Nat.le_refl _); have h5 := h5.below (Blk.keeps int_keeps) hb (Nat.le_refl _); have h6 := h6.below (Blk.keeps int_keeps) hb (Nat.le_refl _); have hBc := hBc.trans (hb.mono hBc.size); clear hb tC t)
      | (go_at_call 39; refine (H4.out _ (HB2.out.trans (hBc.mono HB2.out.size))).mono ?_; rintro e w8 ⟨rfl, hb⟩; have h4 := h4.below (Blk.keeps int_keeps) hb (Nat.le_refl _); have h5 := h5.below (Blk.keeps int_keeps) hb (Nat.le_refl _); have h6 := h6.below (Blk.keeps int_keeps) hb (Nat.le_refl _); have hBc := hBc.trans (hb.mono hBc.size); clear hb; have hz8 := PBox.below HZ2.out hBc HS2.out; obtain ⟨⟨x0, x1, x2, x3, x4⟩, f0, f1, f2, f3, f4⟩ := hz8.facts))
    have HB8 := Lib.hid (HB2.out.trans (hBc.mono HB2.out.size))
    have HZ8 := Lib.hid hz8
    have H8 := Lib.hid (And.intro h4 (And.intro h5 h6))
    clear hBc hz8 h4 h5 h6 x0 x1 x2 x3 x4 f0 f1 f2 f3 f4
    go_wp2_with fail
    have HR2 := pbox_fill (p := ⟨L0, L1, L2, IntKind.i64.wrap (z3 - 1), z4⟩) (vc := .slice a0 n0 c0) (v0 := .slice a1 n1 c1) (v1 := .slice a2 n2 c2) HZ8.out
    refine bodyPost_ret (results_cell_row rfl _ _ (w.heap.size + 1) 29 _ (0, 0) _ rfl HR2 Tryz.underlying29 rfl (by kernel_rfl)) rfl ?_
    have hfo := fillP_other w8 (w.heap.size + 1) ⟨L0, L1, L2, IntKind.i64.wrap (z3 - 1), z4⟩ (.slice a0 n0 c0) (.slice a1 n1 c1) (.slice a2 n2 c2)
    refine ⟨a0, n0, c0, a1, n1, c1, a2, n2, c2, by rw [HQ.out]; rfl, ?_, fillP_below HB8.out (by omega) ⟨L0, L1, L2, IntKind.i64.wrap (z3 - 1), z4⟩ _ _ _⟩
    rw [HQ.out]
    exact ((PlaceB.mk (p := ⟨L0, L1, L2, IntKind.i64.wrap (z3 - 1), z4⟩) H8.out.1 H8.out.2.1 H8.out.2.2).on (fun k hk => hfo.1 k (by omega))).weak (fun k hk => by omega)
  · obtain ⟨nl, hnl⟩ : ∃ nl, nl = (cutB 32 S).length := ⟨_, rfl⟩
    have HSP : Hid (∀ W, Below w.heap.size w W → Calls Tryz.prog 36 #[.string (str S), .string ⟨#[32]⟩] W fun e w' => e = .returned (.slice (some ⟨W.heap.size, 0, none⟩) nl nl) ∧ w' = W.alloc (.cells ((cutB 32 S).map fun x => Value.string (str x)).toArray 9)) := Lib.hid (fun W h => by
      have h1 := split_any 32 (str S) W (by rw [str_size]; omega) (HEV.out W h)
      rwa [data_str, ← hnl] at h1)
    have HQ : Hid (guessP r.pieces S = zeroP) := Lib.hid (guessP_no h5)
    have hn5 : ((nl : Int) != 5) = true := by rw [hnl]; simp; omega
    unfold RulesV
    clear hr h6 hcap hS hE h5 hnl
    go_enter Tryz.func17, Tryz.ntmps17
    go_wp2_with fail
    rw [HW1.out]
    clear HW1
    go_at_call 36; refine (HSP.out _ HB.out).mono ?_; rintro e w2 ⟨rfl, rfl⟩
    have hal := (Below.refl w1.heap.size w1).alloc (Nat.le_refl _) (.cells ((cutB 32 S).map fun x => Value.string (str x)).toArray 9)
    have HB2 := Lib.hid (HB.out.trans (hal.mono HB.out.size))
    have hz2 := PBox.below HZ.out hal HSZ.out
    have HZ2 := Lib.hid hz2
    obtain ⟨⟨x0, x1, x2, x3, x4⟩, f0, f1, f2, f3, f4⟩ := hz2.facts
    clear hz2 hal
    go_wp2_with fail
    have HR2 := pbox_fill (p := zeroP) (vc := .slice none 0 0) (v0 := .slice none 0 0) (v1 := .slice none 0 0) HZ2.out
    refine bodyPost_ret (results_cell_row rfl _ _ (w.heap.size + 1) 29 _ (0, 0) _ rfl HR2 Tryz.underlying29 rfl (by kernel_rfl)) rfl ?_
    exact ⟨none, 0, 0, none, 0, 0, none, 0, 0, by rw [HQ.out]; rfl, by rw [HQ.out]; exact zero_in _ _, fillP_below HB2.out (by omega) zeroP _ _ _⟩
end Go.Proofs.YtakekeljndofcaaGreatDoor
