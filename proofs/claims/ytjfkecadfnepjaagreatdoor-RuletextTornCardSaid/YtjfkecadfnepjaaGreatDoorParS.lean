/- ruletext's parser: rules. -/
import Derived.Test.YtjfkecadfnepjaaGreatDoorParG
import Derived.Test.YtjfkecadfnepjaaGreatDoorHeld
set_option maxRecDepth 100000
namespace Go.Proofs.YtjfkecadfnepjaaGreatDoor
open Go.ChangeShapes Go.WideShapes Go.ChangeAt Go.RowKit
attribute [local go_sem ↓] Go.wp_at_zero Go.wp_at_succ

theorem psGo_len : ∀ (f : Nat) (s : PS), (psGo f s).1.length ≤ f
  | 0, _ => Nat.le_refl _
  | f + 1, s => by
    unfold psGo
    split
    · split
      · have := psGo_len f (headS s)
        simp only [List.length_cons]; omega
      · simp
    · simp
theorem promGo_len (ps : List PieceD) : ∀ (l : List (PieceD × List UInt8)) (s : PS), (promGo ps l s).1.length = l.length
  | [], _ => rfl
  | (x, wo) :: l, s => by simp only [promGo, List.length_cons]; rw [promGo_len ps l]
theorem piecesM_len (s : PS) : (piecesM s).1.length ≤ s.ls.length := by
  rw [piecesM, promGo_len]; exact psGo_len _ _
theorem PAt.len {W : World} {b : Nat} {s : PS} (h : PAt W b s) : s.ls.length ≤ 9000 := by
  obtain ⟨a, c, _, h1, h2, _⟩ := h
  omega
theorem side_range (x : List UInt8) (s : PS) : 0 ≤ (sideM x s).1 ∧ (sideM x s).1 ≤ 8 := by
  unfold sideM
  split
  · rename_i h; rw [inB_iff] at h; omega
  · simp
theorem pieces_k {B b : Nat} {w V : World} {σ : PS} (hE : Env B w) (hB : B ≤ b) (hV : StAt B b w V σ) : Calls Tryz.prog 48 #[.pointer (some ⟨b, 0, none⟩)] V (fun e w' => ∃ v, e = .returned v ∧ IsSl PieceT 4 w' v (piecesM σ).1 ∧ StAt B b V w' (piecesM σ).2) :=
  (pieces_par B b σ V hV.1 hB (hV.env hE)).mono fun _ _ ⟨v, h1, h2, h3, h4⟩ => ⟨v, h1, h2, h3, h4⟩
theorem ks_p {W W' : World} {v : Value} {xs : List PieceD} (h : IsSl PieceT 4 W v xs) (k : KS W W') : IsSl PieceT 4 W' v xs := isSl_map h fun _ _ _ hx => hx.kt k.1 k.2.1
theorem ks_i {W W' : World} {v : Value} {xs : List Int} (h : IsSl IntT 1 W v xs) (k : KS W W') : IsSl IntT 1 W' v xs := isSl_map h fun _ _ _ hx => hx.kt k.2.2.1
theorem ks_e {W W' : World} {v : Value} {xs : List EndD} (h : IsSl EndT 4 W v xs) (k : KS W W') : IsSl EndT 4 W' v xs := isSl_map h fun _ _ _ hx => hx.kt k.2.2.2
/-- What a line of one word leaves. -/
def Line1P (B b : Nat) (X : ByteArray) (s : PS) (w : World) (e : Ending) (w' : World) : Prop := ∃ g o c, e = .returned (.slice (some ⟨g, o, none⟩) 1 c) ∧ g ≠ b ∧ TyBlk w' g 9 ∧ 1 ≤ c ∧ w'.cell? ⟨g, o, none⟩ = some (.string X) ∧ StAt B b w w' s
theorem line1_k {B b : Nat} {w V : World} {σ : PS} (k : List UInt8) (hE : Env B w) (hB : B ≤ b) (hk : k.length ≤ 100) (hV : StAt B b w V σ) : Calls Tryz.prog 46 #[.pointer (some ⟨b, 0, none⟩), .string (str k), .int .i64 1] V (Line1P B b (str (wd (lineM k 1 σ).1 0)) (lineM k 1 σ).2 w) := by
  refine (line_par B b k 1 σ V hV.1 hk (by decide) hB (hV.env hE)).mono ?_
  rintro e w' ⟨a, c, rfl, hws, hp, hf⟩
  have hwl := (lineM_rd k 1 σ).2
  obtain ⟨c4, c9, g, o, rfl, hgb, htb, hcw, hsm⟩ := words_at hws hwl (by decide)
  have x0 := hcw 0 (by decide)
  rw [Nat.add_zero] at x0
  exact ⟨g, o, c, by rw [hwl], hgb, htb, c4, x0, hp, hV.2.trans hf⟩
theorem far_box {W : World} {g q : Nat} {nm : ByteArray} {x1 x2 : Int} {vp vs : Value} {fa ke : Bool} {ve : Value} {bl qu rp : Int} (ht : TyBlk W g 9) (hx : XBox W q nm x1 x2 vp vs fa ke ve bl qu rp) : g ≠ q := by
  intro e
  obtain ⟨cs, fr, hh⟩ := ht
  unfold XBox at hx
  rw [e, hx] at hh
  simp at hh
theorem far_cell {g q : Nat} (h : g ≠ q) (U : World) (i j : Nat) (u : Value) : (U.setCell ⟨q, i, none⟩ u).cell? ⟨g, j, none⟩ = U.cell? ⟨g, j, none⟩ := World.cell?_of_block (Below.heap_setCell U ⟨q, i, none⟩ u g h)
theorem wd_small {k : List UInt8} {σ : PS} {W : World} {b : Nat} (hp : PAt W b σ) : (wd (lineM k 1 σ).1 0).length ≤ 8192 := by
  obtain ⟨a, c, _, _, _, _, h4⟩ := hp
  unfold lineM
  split
  · rename_i hb
    obtain ⟨l, r, hl, _, _⟩ := beg_cases hb
    split
    · have h1 := (rest_small (k := k) (h4 l (by rw [hl]; simp))).1
      rw [hl]
      simp only [List.headD_cons]
      unfold wd
      cases hx : (restW k l)[0]? with
      | none => simp
      | some x => exact h1 x (List.mem_of_getElem? hx)
    · simp [wd]
  · simp [wd]
def RulesP (B b : Nat) (s : PS) (w : World) (e : Ending) (w' : World) : Prop := ∃ vp vs ve, e = .returned (RulesV (rulesM s) vp vs ve) ∧ IsSl PieceT 4 w' vp (rulesM s).pieces ∧ IsSl IntT 1 w' vs (rulesM s).start ∧ IsSl EndT 4 w' ve (rulesM s).ends ∧ StAt B b w w' (gA s).2
set_option maxHeartbeats 16000000 in
theorem rules_par (B b : Nat) (s : PS) (w : World) (h : PAt w b s) (hB : B ≤ b) (hE : Env B w) :
    Calls Tryz.prog 25 #[.pointer (some ⟨b, 0, none⟩)] w (RulesP B b s w) := by
  have hbw := h.lt
  have hBw : B ≤ w.heap.size := by omega
  have HE := Lib.hid hE
  obtain ⟨V, hV⟩ : ∃ V, V = (w.alloc (.cells (XCells ⟨#[]⟩ 0 0 (.slice none 0 0) (.slice none 0 0) false false (.slice none 0 0) 0 0 0) 26)).alloc (.cells (XCells ⟨#[]⟩ 0 0 (.slice none 0 0) (.slice none 0 0) false false (.slice none 0 0) 0 0 0) 26) := ⟨_, rfl⟩
  have hb1 := (Below.refl w.heap.size w).alloc (Nat.le_refl _) (.cells (XCells ⟨#[]⟩ 0 0 (.slice none 0 0) (.slice none 0 0) false false (.slice none 0 0) 0 0 0) 26)
  have HG0 : Hid (GS B b w V s ⟨#[]⟩ 0 0 (.slice none 0 0) (.slice none 0 0) false false (.slice none 0 0) 0 0 0) := Lib.hid (by
    rw [hV]
    refine ⟨(StAt.refl h).below (hb1.alloc (by simp) _) hB, ?_, ?_⟩
    · have := XBox.new (w.alloc (.cells (XCells ⟨#[]⟩ 0 0 (.slice none 0 0) (.slice none 0 0) false false (.slice none 0 0) 0 0 0) 26)) ⟨#[]⟩ 0 0 (.slice none 0 0) (.slice none 0 0) false false (.slice none 0 0) 0 0 0
      simpa using this
    · exact (Below.heap_alloc _ _ _ (by simp)).trans (heap_alloc_new w _))
  have HVW : Hid (_ = V) := Lib.hid hV.symm
  unfold XCells at HVW
  clear h hE hV hb1
  go_enter Tryz.func25, Tryz.ntmps25
  have HLN : Hid (Calls Tryz.prog 46 #[.pointer (some ⟨b, 0, none⟩), .string ⟨#[103, 97, 109, 101]⟩, .int .i64 (3 : Nat)] V (WordsP B b (g0 s).1 (g0 s).2 V)) := Lib.hid (line_par B b kGame 3 s V HG0.out.1.1 (by decide) (by decide) hB (HG0.out.1.env HE.out))
  go_wp2_with fail
  rw [HVW.out]
  go_at_call 46; refine HLN.out.mono ?_; rintro e W ⟨wa, wc, rfl, hws, hpW, hfW⟩
  have hwl : (g0 s).1.length = 3 := (lineM_rd kGame 3 s).2
  obtain ⟨c4, c9, g, o, rfl, hgb, htb, hcw, hsm⟩ := words_at hws hwl (by decide)
  rw [hwl]
  have x0 := hcw 0 (by decide)
  have x1 := hcw 1 (by decide)
  have x2 := hcw 2 (by decide)
  rw [Nat.add_zero] at x0
  have HG1 := Lib.hid (HG0.out.step ⟨hpW, hfW⟩ hbw)
  have HSD : Hid (StAt B b W W.drew (g0 s).2) := Lib.hid ((StAt.refl hpW).drew hB)
  have HEW : Hid (Env B W) := Lib.hid (HG1.out.1.env HE.out)
  have K1 : Hid (∀ U, StAt B b W U (g0 s).2 → Calls Tryz.prog 47 #[.pointer (some ⟨b, 0, none⟩), .string (str (wd (g0 s).1 1))] U (StP B b W (.int .i64 (g1 s).1) (g1 s).2)) := Lib.hid (fun U hU => par_st hU (side_par B b _ _ U hU.1 (hsm 1) hB (hU.env HEW.out)))
  have K2 : Hid (∀ U, StAt B b W U (g1 s).2 → Calls Tryz.prog 47 #[.pointer (some ⟨b, 0, none⟩), .string (str (wd (g0 s).1 2))] U (StP B b W (.int .i64 (g2 s).1) (g2 s).2)) := Lib.hid (fun U hU => par_st hU (side_par B b _ _ U hU.1 (hsm 2) hB (hU.env HEW.out)))
  have hge : g ≠ w.heap.size + 1 := by
    intro e
    obtain ⟨cs, fr, hh⟩ := htb
    have := HG1.out.2.1
    unfold XBox at this
    rw [e, this] at hh
    simp at hh
  have hst : ∀ (U : World) (i j : Nat) (u : Value), (U.setCell ⟨w.heap.size + 1, i, none⟩ u).cell? ⟨g, j, none⟩ = U.cell? ⟨g, j, none⟩ := fun U i j u => World.cell?_of_block (Below.heap_setCell U ⟨w.heap.size + 1, i, none⟩ u g hge)
  have HSM := Lib.hid hsm
  obtain ⟨Wn, hWn⟩ : ∃ n : Nat, (g1 s).1 = (n : Int) := Int.eq_ofNat_of_zero_le (side_range _ _).1
  obtain ⟨Hn, hHn⟩ : ∃ n : Nat, (g2 s).1 = (n : Int) := Int.eq_ofNat_of_zero_le (side_range _ _).1
  have hW8 : Wn ≤ 8 := by have h1 : (g1 s).1 ≤ 8 := (side_range _ _).2; omega
  have hH8 : Hn ≤ 8 := by have h1 : (g2 s).1 ≤ 8 := (side_range _ _).2; omega
  obtain ⟨X0, hX0⟩ : ∃ X, X = str (wd (g0 s).1 0) := ⟨_, rfl⟩
  obtain ⟨X1, hX1⟩ : ∃ X, X = str (wd (g0 s).1 1) := ⟨_, rfl⟩
  obtain ⟨X2, hX2⟩ : ∃ X, X = str (wd (g0 s).1 2) := ⟨_, rfl⟩
  rw [← hX0] at x0
  rw [← hX1] at x1
  rw [← hX2] at x2
  rw [← hX1, hWn] at K1
  rw [← hX2, hHn] at K2
  have HX0 := Lib.hid hX0
  have HWN := Lib.hid hWn
  have HHN := Lib.hid hHn
  have hxb : w.heap.size + 1 ≠ b := by omega
  clear hws hpW hfW hsm hcw hwl htb hWn hHn hX0 hX1 hX2 HLN HG0 HVW
  obtain ⟨⟨q0, q1, q2, -⟩, z0, z1, z2, -⟩ := HG1.out.2.1.facts
  go_wp2_with fail
  go_region_held3 (fun w' => w'.cell? ⟨g, o, none⟩ = some (.string X0) ∧ w'.cell? ⟨g, o + 1, none⟩ = some (.string X1) ∧ w'.cell? ⟨g, o + 2, none⟩ = some (.string X2)) (go_keep) (first
    | (go_at_call 47; refine (K2.out _ H1.out).mono ?_; rintro e W2 ⟨rfl, h2⟩; have HG2 := Lib.hid (HG1.out.step h2 hbw); obtain ⟨⟨q0, q1, q2, -⟩, z0, z1, z2, -⟩ := HG2.out.2.1.facts; have y0 := h2.2.cell hgb x0; have y1 := h2.2.cell hgb x1; have y2 := h2.2.cell hgb x2; clear h2)
    | (go_at_call 47; refine (K1.out _ HSD.out).mono ?_; rintro e W1 ⟨rfl, h1⟩; have H1 := Lib.hid h1; have HGA := Lib.hid (HG1.out.step h1 hbw); obtain ⟨⟨q0, q1, q2, -⟩, z0, z1, z2, -⟩ := HGA.out.2.1.facts; have y0 := h1.2.cell hgb x0; have y1 := h1.2.cell hgb x1; have y2 := h1.2.cell hgb x2; clear h1))
  have HG3 := Lib.hid (((HG2.out.s0 hbw hBw X0).s1 hbw hBw (Wn : Int)).s2 hbw hBw (Hn : Int))
  clear q0 q1 q2 z0 z1 z2 x0 x1 x2 y0 y1 y2 hst hge K1 K2 HSD HEW HG1 HG2 HGA H1
  generalize ((W2.setCell ⟨w.heap.size + 1, 0, none⟩ (.string X0)).setCell ⟨w.heap.size + 1, 1, none⟩ (.int .i64 (Wn : Int))).setCell ⟨w.heap.size + 1, 2, none⟩ (.int .i64 (Hn : Int)) = U3 at HG3 ⊢
  go_wp2_with fail
  go_at_call 48; refine (pieces_k (HG3.out.1.env HE.out) hB (StAt.refl HG3.out.1.1)).mono ?_; rintro e W4 ⟨vp, rfl, hsp, h4⟩
  have HG4 := Lib.hid (HG3.out.step h4 hbw)
  have hpl : (g3 s).1.length ≤ 9000 := Nat.le_trans (piecesM_len _) HG3.out.1.1.len
  have HFT : Hid (LettersFit (g3 s).1) := Lib.hid (piecesM_rd (g2 s).2).2
  obtain ⟨pn, hpn⟩ : ∃ n, n = (g3 s).1.length := ⟨_, rfl⟩
  obtain ⟨pa, pc, rfl, -, -⟩ := hsp.shape hpn
  have HPL := Lib.hid hpl
  have HSP : Hid (IsSl PieceT 4 W4 (.slice pa pn pc) (g3 s).1) := Lib.hid hsp
  obtain ⟨⟨q0, q1, q2, q3, q4, q5, q6, q7, q8, q9, q10⟩, -, -, -, z3, -⟩ := HG4.out.2.1.facts
  clear h4 hsp hpn hpl HG3
  go_wp2_with fail
  have HG4s := Lib.hid (HG4.out.s3 hbw hBw (.slice pa pn pc))
  have HSP4 : Hid (IsSl PieceT 4 (W4.setCell ⟨w.heap.size + 1, 3, none⟩ (.slice pa pn pc)) (.slice pa pn pc) (g3 s).1) := Lib.hid (isSl_map HSP.out fun _ _ _ hx => hx.kt (KS.set HG4.out.2.1.blk 3 _).1 (KS.set HG4.out.2.1.blk 3 _).2.1)
  clear q0 q1 q2 q3 q4 q5 q6 q7 q8 q9 q10 z3 HSP
  generalize W4.setCell ⟨w.heap.size + 1, 3, none⟩ (.slice pa pn pc) = U4 at HG4s HSP4 ⊢
  have HKR : Hid (Calls Tryz.prog 49 #[.pointer (some ⟨b, 0, none⟩), .agg #[.string X0, .int .i64 (Wn : Int), .int .i64 (Hn : Int), .slice pa pn pc, .slice none 0 0, .bool false, .bool false, .slice none 0 0, .int .i64 0, .int .i64 0, .int .i64 0]] U4 fun e w' => ∃ u, e = .returned u ∧ IsSl IntT 1 w' u (g4 s).1 ∧ StAt B b U4 w' (g4 s).2) := Lib.hid (by
    have h1 := rows_par B b ⟨X0, (Wn : Int), (Hn : Int), (g3 s).1, [], false, false, [], 0, 0, 0⟩ (.slice pa pn pc) (.slice none 0 0) (.slice none 0 0) (g3 s).2 U4 Wn Hn HG4s.out.1.1 hB (HG4s.out.1.env HE.out) HSP4.out HPL.out HFT.out rfl rfl hW8 hH8
    rw [show g4 s = rowsM (g3 s).1 Wn Hn (g3 s).2 by rw [g4, HWN.out, HHN.out]; rfl]
    exact h1)
  go_at_call 49; refine HKR.out.mono ?_; rintro e W5 ⟨vs, rfl, hss, h5⟩
  have HG5 := Lib.hid (HG4s.out.step h5 hbw)
  have HSP5 := Lib.hid (ks_p HSP4.out (KS.st HG4s.out.1.1 h5))
  obtain ⟨sn, hsn⟩ : ∃ n, n = (g4 s).1.length := ⟨_, rfl⟩
  obtain ⟨sa, sc, rfl, -, -⟩ := hss.shape hsn
  have HSS5 := Lib.hid hss
  obtain ⟨⟨-, -, -, -, q4, -⟩, -, -, -, -, z4, -⟩ := HG5.out.2.1.facts
  clear h5 hss hsn HG4s HSP4 HKR
  go_wp2_with fail
  have HG5s := Lib.hid (HG5.out.s4 hbw hBw (.slice sa sn sc))
  have HSP5s := Lib.hid (ks_p HSP5.out (KS.set HG5.out.2.1.blk 4 (.slice sa sn sc)))
  have HSS5s := Lib.hid (ks_i HSS5.out (KS.set HG5.out.2.1.blk 4 (.slice sa sn sc)))
  clear q4 z4 HSP5 HSS5 HG5
  generalize W5.setCell ⟨w.heap.size + 1, 4, none⟩ (.slice sa sn sc) = U5 at HG5s HSP5s HSS5s ⊢
  have HK5 : Hid (Calls Tryz.prog 50 #[.pointer (some ⟨b, 0, none⟩), .string ⟨#[102, 97, 108, 108, 115]⟩] U5 (StP B b U5 (.bool (g5 s).1) (g5 s).2)) := Lib.hid (par_st (StAt.refl HG5s.out.1.1) (flag_par B b kFalls _ U5 HG5s.out.1.1 (by decide) hB (HG5s.out.1.env HE.out)))
  go_at_call 50; refine HK5.out.mono ?_; rintro e W6 ⟨rfl, h6⟩
  have HG6 := Lib.hid (HG5s.out.step h6 hbw)
  have HSP6 := Lib.hid (ks_p HSP5s.out (KS.st HG5s.out.1.1 h6))
  have HSS6 := Lib.hid (ks_i HSS5s.out (KS.st HG5s.out.1.1 h6))
  obtain ⟨⟨-, -, -, -, -, q5, -⟩, -, -, -, -, -, z5, -⟩ := HG6.out.2.1.facts
  clear h6 HG5s HSP5s HSS5s HK5
  go_wp2_with fail
  have HG6s := Lib.hid (HG6.out.s5 hbw hBw (g5 s).1)
  have HSP6s := Lib.hid (ks_p HSP6.out (KS.set HG6.out.2.1.blk 5 (.bool (g5 s).1)))
  have HSS6s := Lib.hid (ks_i HSS6.out (KS.set HG6.out.2.1.blk 5 (.bool (g5 s).1)))
  clear q5 z5 HSP6 HSS6 HG6
  generalize W6.setCell ⟨w.heap.size + 1, 5, none⟩ (.bool (g5 s).1) = U6 at HG6s HSP6s HSS6s ⊢
  have HK6 : Hid (Calls Tryz.prog 50 #[.pointer (some ⟨b, 0, none⟩), .string ⟨#[107, 101, 101, 112, 115]⟩] U6 (StP B b U6 (.bool (g6 s).1) (g6 s).2)) := Lib.hid (par_st (StAt.refl HG6s.out.1.1) (flag_par B b kKeeps _ U6 HG6s.out.1.1 (by decide) hB (HG6s.out.1.env HE.out)))
  go_at_call 50; refine HK6.out.mono ?_; rintro e W7 ⟨rfl, h7⟩
  have HG7 := Lib.hid (HG6s.out.step h7 hbw)
  have HSP7 := Lib.hid (ks_p HSP6s.out (KS.st HG6s.out.1.1 h7))
  have HSS7 := Lib.hid (ks_i HSS6s.out (KS.st HG6s.out.1.1 h7))
  obtain ⟨⟨-, -, -, q3, -, -, q6, -⟩, -, -, -, -, -, -, z6, -⟩ := HG7.out.2.1.facts
  clear h7 HG6s HSP6s HSS6s HK6
  go_wp2_with fail
  have HG7s := Lib.hid (HG7.out.s6 hbw hBw (g6 s).1)
  have HSP7s := Lib.hid (ks_p HSP7.out (KS.set HG7.out.2.1.blk 6 (.bool (g6 s).1)))
  have HSS7s := Lib.hid (ks_i HSS7.out (KS.set HG7.out.2.1.blk 6 (.bool (g6 s).1)))
  clear q3 q6 z6 HSP7 HSS7 HG7
  generalize W7.setCell ⟨w.heap.size + 1, 6, none⟩ (.bool (g6 s).1) = U7 at HG7s HSP7s HSS7s ⊢
  have HK7 : Hid (Calls Tryz.prog 51 #[.pointer (some ⟨b, 0, none⟩), .slice pa pn pc] U7 fun e w' => ∃ u, e = .returned u ∧ IsSl EndT 4 w' u (g7 s).1 ∧ StAt B b U7 w' (g7 s).2) := Lib.hid (ends_par B b (g3 s).1 (.slice pa pn pc) (g6 s).2 U7 HG7s.out.1.1 hB (HG7s.out.1.env HE.out) HSP7s.out HPL.out HFT.out)
  go_at_call 51; refine HK7.out.mono ?_; rintro e W8 ⟨ve, rfl, hee, h8⟩
  have HG8 := Lib.hid (HG7s.out.step h8 hbw)
  have HSP8 := Lib.hid (ks_p HSP7s.out (KS.st HG7s.out.1.1 h8))
  have HSS8 := Lib.hid (ks_i HSS7s.out (KS.st HG7s.out.1.1 h8))
  obtain ⟨en, hen⟩ : ∃ n, n = (g7 s).1.length := ⟨_, rfl⟩
  obtain ⟨ea, ec, rfl, -, -⟩ := hee.shape hen
  have HEE8 := Lib.hid hee
  obtain ⟨⟨-, -, -, -, -, -, -, q7, -⟩, -, -, -, -, -, -, -, z7, -⟩ := HG8.out.2.1.facts
  clear h8 hee hen HG7s HSP7s HSS7s HK7
  go_wp2_with fail
  have HG8s := Lib.hid (HG8.out.s7 hbw hBw (.slice ea en ec))
  have HSP8s := Lib.hid (ks_p HSP8.out (KS.set HG8.out.2.1.blk 7 (.slice ea en ec)))
  have HSS8s := Lib.hid (ks_i HSS8.out (KS.set HG8.out.2.1.blk 7 (.slice ea en ec)))
  have HEE8s := Lib.hid (ks_e HEE8.out (KS.set HG8.out.2.1.blk 7 (.slice ea en ec)))
  clear q7 z7 HSP8 HSS8 HEE8 HG8
  generalize W8.setCell ⟨w.heap.size + 1, 7, none⟩ (.slice ea en ec) = U8 at HG8s HSP8s HSS8s HEE8s ⊢
  have HSD8 : Hid (StAt B b U8 U8.drew (g7 s).2) := Lib.hid ((StAt.refl HG8s.out.1.1).drew hB)
  have HE8 : Hid (Env B U8) := Lib.hid (HG8s.out.1.env HE.out)
  obtain ⟨X8, hX8⟩ : ∃ X, X = str (wd (lineM kBlocked 1 (g7 s).2).1 0) := ⟨_, rfl⟩
  have KL8 : Hid (∀ U, StAt B b U8 U (g7 s).2 → Calls Tryz.prog 46 #[.pointer (some ⟨b, 0, none⟩), .string ⟨#[98, 108, 111, 99, 107, 101, 100]⟩, .int .i64 1] U (Line1P B b X8 (lineM kBlocked 1 (g7 s).2).2 U8)) := Lib.hid (fun U hU => by rw [hX8]; exact line1_k kBlocked HE8.out hB (by decide) hU)
  have KC8 : Hid (∀ U gt, StAt B b U8 U (lineM kBlocked 1 (g7 s).2).2 → WBlk U gt wBlk → Calls Tryz.prog 52 #[.pointer (some ⟨b, 0, none⟩), .string X8, .slice (some ⟨gt, 0, none⟩) 3 3] U (StP B b U (.int .i64 (g8 s).1) (g8 s).2)) := Lib.hid (fun U gt hU hwb => by rw [hX8]; exact par_st (StAt.refl hU.1) (choice_par B b gt _ wBlk _ U hU.1 hwb hB (by decide)))
  clear hX8
  go_wp2_with fail
  refine wp_region_held_drew (S := fun _ => True) (by kernel_rfl) trivial (fun hHeld => ?_)
  refine wpAnyH_take (i := 0) (v := ?_) rfl (by kernel_rfl) (by kernel_rfl) (by kernel_rfl) (fun _ _ _ h => h) (Or.inl ⟨by rfl, ?_⟩) (by assumption) ?_
  rotate_left
  · intro w hSw
    (try dsimp only at hSw)
    go_simp
    all_goals with_reducible rfl
  simp only [Act.put, List.setIfInBounds_toArray, List.set_cons_zero, List.set_cons_succ, List.getElem_toArray, List.getElem_cons_zero]
  refine wpAnyH_take (i := 1) (v := ?_) rfl (by kernel_rfl) (by kernel_rfl) (by kernel_rfl) (fun _ _ _ h => h) (Or.inl ⟨by rfl, ?_⟩) (by assumption) ?_
  rotate_left
  · intro w hSw
    (try dsimp only at hSw)
    go_simp
    all_goals with_reducible rfl
  simp only [Act.put, List.setIfInBounds_toArray, List.set_cons_zero, List.set_cons_succ, List.getElem_toArray, List.getElem_cons_zero, List.getElem_cons_succ]
  refine wpAnyH_ready (rs := [2]) (by kernel_rfl) (by simp) (AllReadyH.cons rfl (fun K hK => ?_) AllReadyH.nil)
  go_simp
  go_at_call 46; refine (KL8.out _ HSD8.out).mono ?_; rintro e W9 ⟨gk9, o9, n9, rfl, hg9, ht9, hn9, x9, h9⟩; have H9 := Lib.hid h9; have hge9 := far_box ht9 (HG8s.out.step h9 hbw).2.1; clear h9 ht9
  refine hK.out _ _ ?_ (fun hHeld => ?_)
  · go_keep
  clear hK K
  try simp only [Act.put, List.setIfInBounds_toArray, List.set_cons_zero, List.set_cons_succ, List.getElem_toArray, List.getElem_cons_zero, List.getElem_cons_succ]
  refine held_weaken (S' := fun w' => w'.cell? ⟨gk9, o9, none⟩ = some (.string X8)) (fun _ _ => trivial) _ _ _ _ ?_
  clear hHeld
  have hHeld := x9
  refine wpAnyH_take (i := 3) (v := ?_) rfl (by kernel_rfl) (by kernel_rfl) (by kernel_rfl) (fun _ _ _ h => h) (Or.inl ⟨by rfl, ?_⟩) (by assumption) ?_
  rotate_left
  · intro w hSw
    (try dsimp only at hSw)
    go_simp
    all_goals with_reducible rfl
  simp only [Act.put, List.setIfInBounds_toArray, List.set_cons_zero, List.set_cons_succ, List.getElem_toArray, List.getElem_cons_zero, List.getElem_cons_succ]
  refine wpAnyH_take (i := 4) (v := ?_) rfl (by kernel_rfl) (by kernel_rfl) (by kernel_rfl) (fun _ _ _ h => h) (Or.inl ⟨by rfl, ?_⟩) (by assumption) ?_
  rotate_left
  · intro w hSw
    (try dsimp only at hSw)
    go_simp
    all_goals with_reducible rfl
  simp only [Act.put, List.setIfInBounds_toArray, List.set_cons_zero, List.set_cons_succ, List.getElem_toArray, List.getElem_cons_zero, List.getElem_cons_succ]
  refine wpAnyH_ready (rs := [5]) (by kernel_rfl) (by simp) (AllReadyH.cons rfl (fun K hK => ?_) AllReadyH.nil)
  go_simp
  go_at_call 21; refine (blockedWords_any _).mono ?_; rintro e WA ⟨gt, rfl, hwd, hbA⟩; have x9 := cell_keeps hbA (Nat.le_refl _) x9; have HA9 := Lib.hid (H9.out.below hbA hB); have HWA := Lib.hid hwd; clear hwd hbA
  refine hK.out _ _ ?_ (fun hHeld => ?_)
  · go_keep
  clear hK K
  try simp only [Act.put, List.setIfInBounds_toArray, List.set_cons_zero, List.set_cons_succ, List.getElem_toArray, List.getElem_cons_zero, List.getElem_cons_succ]
  refine wpAnyH_ready (rs := [6]) (by kernel_rfl) (by simp) (AllReadyH.cons rfl (fun K hK => ?_) AllReadyH.nil)
  go_simp
  go_at_call 52; refine (KC8.out _ gt HA9.out HWA.out).mono ?_; rintro e WB ⟨rfl, hB9⟩; have x9 := hB9.2.cell (a := ⟨gk9, o9, none⟩) hg9 x9; have HU9 : Hid (StAt B b U8 WB (g8 s).2) := Lib.hid (HA9.out.trans hB9); have HGB := Lib.hid (HG8s.out.step HU9.out hbw); obtain ⟨⟨-, -, -, -, -, -, -, -, q8, -⟩, -, -, -, -, -, -, -, -, z8, -⟩ := HGB.out.2.1.facts; clear hB9
  refine hK.out _ _ ?_ (fun hHeld => ?_)
  · go_keep
  clear hK K
  try simp only [Act.put, List.setIfInBounds_toArray, List.set_cons_zero, List.set_cons_succ, List.getElem_toArray, List.getElem_cons_zero, List.getElem_cons_succ]
  have hst9 := far_cell hge9
  refine wpAnyH_take (i := 7) (v := ?_) rfl (by kernel_rfl) (by kernel_rfl) (by kernel_rfl) (fun _ _ _ h => h) (Or.inl ⟨by rfl, ?_⟩) (by assumption) ?_
  rotate_left
  · intro w hSw
    (try dsimp only at hSw)
    go_simp
    all_goals with_reducible rfl
  simp only [Act.put, List.setIfInBounds_toArray, List.set_cons_zero, List.set_cons_succ, List.getElem_toArray, List.getElem_cons_zero, List.getElem_cons_succ]
  refine wpAnyH_ready (rs := [8]) (by kernel_rfl) (by simp) (AllReadyH.cons rfl (fun K hK => ?_) AllReadyH.nil)
  go_simp
  skip
  refine hK.out _ _ ?_ (fun hHeld => ?_)
  · go_keep
  clear hK K
  try simp only [Act.put, List.setIfInBounds_toArray, List.set_cons_zero, List.set_cons_succ, List.getElem_toArray, List.getElem_cons_zero, List.getElem_cons_succ]
  refine wpAnyH_done (by kernel_rfl) ?_ _
  have HG9 := Lib.hid (HGB.out.s8 hbw hBw (g8 s).1)
  have HSP9 := Lib.hid (ks_p (ks_p HSP8s.out (KS.st HG8s.out.1.1 HU9.out)) (KS.set HGB.out.2.1.blk 8 (.int .i64 (g8 s).1)))
  have HSS9 := Lib.hid (ks_i (ks_i HSS8s.out (KS.st HG8s.out.1.1 HU9.out)) (KS.set HGB.out.2.1.blk 8 (.int .i64 (g8 s).1)))
  have HEE9 := Lib.hid (ks_e (ks_e HEE8s.out (KS.st HG8s.out.1.1 HU9.out)) (KS.set HGB.out.2.1.blk 8 (.int .i64 (g8 s).1)))
  clear q8 z8 HSP8s HSS8s HEE8s HG8s HGB HU9 H9 HA9 HWA KL8 KC8 hst9 hge9 x9 hHeld HSD8 HE8 hg9 hn9
  generalize WB.setCell ⟨w.heap.size + 1, 8, none⟩ (.int .i64 (g8 s).1) = U9 at HG9 HSP9 HSS9 HEE9 ⊢
  obtain ⟨X9, hX9⟩ : ∃ X, X = str (wd (lineM kQuiet 1 (g8 s).2).1 0) := ⟨_, rfl⟩
  have KL9 : Hid (Calls Tryz.prog 46 #[.pointer (some ⟨b, 0, none⟩), .string ⟨#[113, 117, 105, 101, 116]⟩, .int .i64 1] U9 (Line1P B b X9 (lineM kQuiet 1 (g8 s).2).2 U9)) := Lib.hid (by rw [hX9]; exact line1_k kQuiet (HG9.out.1.env HE.out) hB (by decide) (StAt.refl HG9.out.1.1))
  have KN9 : Hid (∀ U, StAt B b U9 U (lineM kQuiet 1 (g8 s).2).2 → Calls Tryz.prog 53 #[.pointer (some ⟨b, 0, none⟩), .string X9] U (StP B b U9 (.int .i64 (g9 s).1) (g9 s).2)) := Lib.hid (fun U hU => by rw [hX9]; exact number_k (HG9.out.1.env HE.out) hB (wd_small HG9.out.1.1) hU)
  clear hX9
  go_wp2_with fail
  go_at_call 46; refine KL9.out.mono ?_; rintro e WC ⟨gC, oC, nC, rfl, hgC, -, hnC, xC, hC⟩
  have HC := Lib.hid hC
  clear hC
  go_wp2_with fail
  go_at_call 53; refine (KN9.out _ HC.out).mono ?_; rintro e WD ⟨rfl, hD⟩
  have HGD := Lib.hid (HG9.out.step hD hbw)
  have HSPD := Lib.hid (ks_p HSP9.out (KS.st HG9.out.1.1 hD))
  have HSSD := Lib.hid (ks_i HSS9.out (KS.st HG9.out.1.1 hD))
  have HEED := Lib.hid (ks_e HEE9.out (KS.st HG9.out.1.1 hD))
  obtain ⟨⟨-, -, -, -, -, -, -, -, -, q9, -⟩, -, -, -, -, -, -, -, -, -, z9, -⟩ := HGD.out.2.1.facts
  clear hD HG9 HSP9 HSS9 HEE9 KL9 KN9 xC HC hgC hnC
  go_wp2_with fail
  have HGE := Lib.hid (HGD.out.s9 hbw hBw (g9 s).1)
  have HSPE := Lib.hid (ks_p HSPD.out (KS.set HGD.out.2.1.blk 9 (.int .i64 (g9 s).1)))
  have HSSE := Lib.hid (ks_i HSSD.out (KS.set HGD.out.2.1.blk 9 (.int .i64 (g9 s).1)))
  have HEEE := Lib.hid (ks_e HEED.out (KS.set HGD.out.2.1.blk 9 (.int .i64 (g9 s).1)))
  clear q9 z9 HGD HSPD HSSD HEED
  generalize WD.setCell ⟨w.heap.size + 1, 9, none⟩ (.int .i64 (g9 s).1) = UE at HGE HSPE HSSE HEEE ⊢
  obtain ⟨XE, hXE⟩ : ∃ X, X = str (wd (lineM kRepeat 1 (g9 s).2).1 0) := ⟨_, rfl⟩
  have KLE : Hid (Calls Tryz.prog 46 #[.pointer (some ⟨b, 0, none⟩), .string ⟨#[114, 101, 112, 101, 97, 116]⟩, .int .i64 1] UE (Line1P B b XE (lineM kRepeat 1 (g9 s).2).2 UE)) := Lib.hid (by rw [hXE]; exact line1_k kRepeat (HGE.out.1.env HE.out) hB (by decide) (StAt.refl HGE.out.1.1))
  have KNE : Hid (∀ U, StAt B b UE U (lineM kRepeat 1 (g9 s).2).2 → Calls Tryz.prog 53 #[.pointer (some ⟨b, 0, none⟩), .string XE] U (StP B b UE (.int .i64 (gA s).1) (gA s).2)) := Lib.hid (fun U hU => by rw [hXE]; exact number_k (HGE.out.1.env HE.out) hB (wd_small HGE.out.1.1) hU)
  clear hXE
  go_at_call 46; refine KLE.out.mono ?_; rintro e WF ⟨gF, oF, nF, rfl, hgF, -, hnF, xF, hF⟩
  have HF := Lib.hid hF
  clear hF
  go_wp2_with fail
  go_at_call 53; refine (KNE.out _ HF.out).mono ?_; rintro e WG ⟨rfl, hG⟩
  have HGG := Lib.hid (HGE.out.step hG hbw)
  have HSPG := Lib.hid (ks_p HSPE.out (KS.st HGE.out.1.1 hG))
  have HSSG := Lib.hid (ks_i HSSE.out (KS.st HGE.out.1.1 hG))
  have HEEG := Lib.hid (ks_e HEEE.out (KS.st HGE.out.1.1 hG))
  obtain ⟨⟨q0, q1, q2, q3, q4, q5, q6, q7, q8, q9, q10⟩, -, -, -, -, -, -, -, -, -, -, z10⟩ := HGG.out.2.1.facts
  obtain ⟨⟨r0, r1, r2, r3, r4, r5, r6, r7, r8, r9, r10⟩, y0, y1, y2, y3, y4, y5, y6, y7, y8, y9, y10⟩ := HGG.out.2.2.facts
  clear hG HGE HSPE HSSE HEEE KLE KNE xF HF hgF hnF
  go_wp2_with fail
  have hne : w.heap.size ≠ w.heap.size + 1 := by omega
  have HRF := (HGG.out.2.2.other (c := w.heap.size + 1) (i := 10) hne (.int .i64 (gA s).1)).fill X0 (Wn : Int) (Hn : Int) (.slice pa pn pc) (.slice sa sn sc) (g5 s).1 (g6 s).1 (.slice ea en ec) (g8 s).1 (g9 s).1 (gA s).1
  have hblk : RBlk (WG.setCell ⟨w.heap.size + 1, 10, none⟩ (.int .i64 (gA s).1)) w.heap.size := (HGG.out.2.2.other (c := w.heap.size + 1) (i := 10) hne (.int .i64 (gA s).1)).blk
  have hks := (KS.set HGG.out.2.1.blk 10 (.int .i64 (gA s).1)).trans (KS.fill hblk (.string X0) (.int .i64 (Wn : Int)) (.int .i64 (Hn : Int)) (.slice pa pn pc) (.slice sa sn sc) (.bool (g5 s).1) (.bool (g6 s).1) (.slice ea en ec) (.int .i64 (g8 s).1) (.int .i64 (g9 s).1) (.int .i64 (gA s).1))
  have hsf := (HGG.out.1.far (q := w.heap.size + 1) (by omega) hbw hBw 10 (.int .i64 (gA s).1)).fillX (q := w.heap.size) (Nat.le_refl _) hbw hBw (.string X0) (.int .i64 (Wn : Int)) (.int .i64 (Hn : Int)) (.slice pa pn pc) (.slice sa sn sc) (.bool (g5 s).1) (.bool (g6 s).1) (.slice ea en ec) (.int .i64 (g8 s).1) (.int .i64 (g9 s).1) (.int .i64 (gA s).1)
  refine bodyPost_ret (results_cell_row rfl _ _ w.heap.size 26 _ (0, 0) _ rfl HRF Tryz.underlying26 rfl (by kernel_rfl)) rfl ?_
  refine ⟨.slice pa pn pc, .slice sa sn sc, .slice ea en ec, ?_, ks_p HSPG.out hks, ks_i HSSG.out hks, ks_e HEEG.out hks, hsf⟩
  show Ending.returned (.agg (XCells X0 (Wn : Int) (Hn : Int) _ _ _ _ _ _ _ _)) = _
  rw [← HWN.out, ← HHN.out, HX0.out]
  rfl
end Go.Proofs.YtjfkecadfnepjaaGreatDoor
