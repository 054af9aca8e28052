/- ruletext's parser: end. -/
import Derived.Test.YtjfkecadfnepjaaGreatDoorParP
set_option maxRecDepth 100000
namespace Go.Proofs.YtjfkecadfnepjaaGreatDoor
open Go.ChangeShapes Go.WideShapes Go.ChangeAt Go.RowKit
attribute [local go_sem ↓] Go.wp_at_zero Go.wp_at_succ

/-- A condition's variable: a block of its own. -/
def EVar (W : World) (pb : Nat) (a p c : Int) (l : Bool) : Prop := W.heap[pb]? = some (.cells #[.int .i64 a, .int .i64 p, .int .i64 c, .bool l] 60 (0, 0))
theorem EVar.facts {W : World} {pb : Nat} {a p c : Int} {l : Bool} (h : EVar W pb a p c l) : (W.cell? ⟨pb, 0, none⟩ = some (.int .i64 a) ∧ W.cell? ⟨pb, 1, none⟩ = some (.int .i64 p) ∧ W.cell? ⟨pb, 2, none⟩ = some (.int .i64 c) ∧ W.cell? ⟨pb, 3, none⟩ = some (.bool l)) ∧ ∀ i, W.frozen? ⟨pb, i, none⟩ = false := by
  have hc : ∀ i, W.cell? ⟨pb, i, none⟩ = (#[.int .i64 a, .int .i64 p, .int .i64 c, .bool l] : Array Value)[i]? := fun i => cell_of_row W pb i _ _ (0, 0) h
  exact ⟨⟨hc 0, hc 1, hc 2, hc 3⟩, fun i => frozen_of_row W pb i _ _ h⟩
theorem EVar.fill {W : World} {pb : Nat} {a p c : Int} {l : Bool} (h : EVar W pb a p c l) (a' p' c' : Int) (l' : Bool) : EVar ((((W.setCell ⟨pb, 0, none⟩ (.int .i64 a')).setCell ⟨pb, 1, none⟩ (.int .i64 p')).setCell ⟨pb, 2, none⟩ (.int .i64 c')).setCell ⟨pb, 3, none⟩ (.bool l')) pb a' p' c' l' := by
  have h0 : EVar (W.setCell ⟨pb, 0, none⟩ (.int .i64 a')) pb a' p c l := heap_setCell_same W pb 0 _ _ (.int .i64 a') h
  have h1 : EVar ((W.setCell ⟨pb, 0, none⟩ (.int .i64 a')).setCell ⟨pb, 1, none⟩ (.int .i64 p')) pb a' p' c l := heap_setCell_same _ pb 1 _ _ (.int .i64 p') h0
  have h2 : EVar (((W.setCell ⟨pb, 0, none⟩ (.int .i64 a')).setCell ⟨pb, 1, none⟩ (.int .i64 p')).setCell ⟨pb, 2, none⟩ (.int .i64 c')) pb a' p' c' l := heap_setCell_same _ pb 2 _ _ (.int .i64 c') h1
  exact heap_setCell_same _ pb 3 _ _ (.bool l') h2
theorem EVar.set3 {W : World} {pb : Nat} {a p c : Int} {l : Bool} (h : EVar W pb a p c l) (l' : Bool) : EVar (W.setCell ⟨pb, 3, none⟩ (.bool l')) pb a p c l' := heap_setCell_same W pb 3 _ _ (.bool l') h
theorem EVar.fr {B b : Nat} {W W' : World} {pb : Nat} {a p c : Int} {l : Bool} (h : EVar W pb a p c l) (hf : Fr B b W W') (hb : pb ≠ b) : EVar W' pb a p c l := hf.heap hb h
theorem EVar.other {W : World} {pb : Nat} {a p c : Int} {l : Bool} (h : EVar W pb a p c l) {q i : Nat} (hq : pb ≠ q) (u : Value) : EVar (W.setCell ⟨q, i, none⟩ u) pb a p c l := (heap_setCell_other W ⟨q, i, none⟩ pb u hq).trans h
theorem StAt.far {B b : Nat} {w W : World} {s : PS} (h : StAt B b w W s) {q : Nat} (hq : w.heap.size ≤ q) (hb : b < w.heap.size) (hB : B ≤ w.heap.size) (i : Nat) (u : Value) : StAt B b w (W.setCell ⟨q, i, none⟩ u) s := by
  have hg : W.grownBy (W.setCell ⟨q, i, none⟩ u) (some q) := ⟨rfl, rfl, rfl, by simp, fun k _ hne => Below.heap_setCell W ⟨q, i, none⟩ u k (fun e => hne (by rw [e]))⟩
  exact h.grown hg (fun k hk => by obtain rfl := Option.some.inj hk; exact hq) hB hb
theorem StAt.fill {B b : Nat} {w W : World} {s : PS} (h : StAt B b w W s) {q : Nat} (hq : w.heap.size ≤ q) (hb : b < w.heap.size) (hB : B ≤ w.heap.size) (u0 u1 u2 u3 : Value) : StAt B b w ((((W.setCell ⟨q, 0, none⟩ u0).setCell ⟨q, 1, none⟩ u1).setCell ⟨q, 2, none⟩ u2).setCell ⟨q, 3, none⟩ u3) s :=
  (((h.far hq hb hB 0 u0).far hq hb hB 1 u1).far hq hb hB 2 u2).far hq hb hB 3 u3
def EndP (B b : Nat) (x : EndD) (s : PS) (w : World) (e : Ending) (w' : World) : Prop := e = .returned (.agg #[.int .i64 x.kind, .int .i64 x.piece, .int .i64 x.count, .bool x.loses]) ∧ StAt B b w w' s
set_option maxHeartbeats 4000000 in
theorem end_par (B b : Nat) (ps : List PieceD) (v : Value) (s : PS) (w : World) (h : PAt w b s) (hB : B ≤ b) (hE : Env B w) (hv : IsSl PieceT 4 w v ps) (hl : ps.length ≤ 9000) (hf : LettersFit ps) :
    Calls Tryz.prog 72 #[.pointer (some ⟨b, 0, none⟩), v] w (EndP B b (endM ps s).1 (endM ps s).2 w) := by
  have hbw := h.lt
  obtain ⟨V, hV⟩ : ∃ V, V = (w.alloc (.cells #[.int .i64 0, .int .i64 0, .int .i64 0, .bool false] 60)).alloc (.cells #[.int .i64 0, .int .i64 0, .int .i64 0, .bool false] 60) := ⟨_, rfl⟩
  have hba := (Below.refl w.heap.size w).alloc (Nat.le_refl _) (.cells #[.int .i64 0, .int .i64 0, .int .i64 0, .bool false] 60)
  have hbb : Below w.heap.size w V := by rw [hV]; exact hba.alloc (by simp) _
  have HST : Hid (StAt B b w V s) := Lib.hid ((StAt.refl h).below hbb hB)
  have HR : Hid (EVar V w.heap.size 0 0 0 false) := Lib.hid (by
    rw [hV]
    exact (Below.heap_alloc _ _ _ (by simp)).trans (heap_alloc_new w _))
  have HE1 : Hid (EVar V (w.heap.size + 1) 0 0 0 false) := Lib.hid (by
    rw [hV]
    have := heap_alloc_new (w.alloc (.cells #[.int .i64 0, .int .i64 0, .int .i64 0, .bool false] 60)) (.cells #[.int .i64 0, .int .i64 0, .int .i64 0, .bool false] 60)
    simpa [EVar] using this)
  have HEV : Hid (Env B V) := Lib.hid (HST.out.env hE)
  have HPC : Hid (∀ W, StAt B b w W s → True) := Lib.hid fun _ _ => trivial
  have HV : Hid _ := Lib.hid hV
  have HE0 := Lib.hid hE
  have HVV : Hid (∀ W σ, StAt B b w W σ → IsSl PieceAt 4 W v ps) := Lib.hid fun W σ hW => isSl_map hv fun _ _ _ hx => (hx.kt (h.kt hW.2 (by decide)) (h.kt hW.2 (by decide))).plain
  obtain ⟨va, vc, rfl, -, -⟩ := hv.shape (n := ps.length) rfl
  obtain ⟨n, hn⟩ : ∃ n, n = ps.length := ⟨_, rfl⟩
  have HN := Lib.hid hn
  have HL := Lib.hid hl
  have HF := Lib.hid hf
  rw [← hn] at HVV ⊢
  have HPA : Hid (PAt V b s) := Lib.hid HST.out.1
  have HBL : Hid (Calls Tryz.prog 68 #[.pointer (some ⟨b, 0, none⟩), .string ⟨#[101, 110, 100, 32, 108, 105, 110, 101]⟩] V fun e w' => e = .returned (.bool (begM kEL s)) ∧ V = w') := Lib.hid (turned (begins_any b kEL s V HPA.out (by decide)))
  have HBR : Hid (Calls Tryz.prog 68 #[.pointer (some ⟨b, 0, none⟩), .string ⟨#[101, 110, 100, 32, 114, 101, 97, 99, 104]⟩] V fun e w' => e = .returned (.bool (begM kER s)) ∧ V = w') := Lib.hid (turned (begins_any b kER s V HPA.out (by decide)))
  have HVW : Hid ((w.alloc (.cells #[.int .i64 0, .int .i64 0, .int .i64 0, .bool false] 60)).alloc (.cells #[.int .i64 0, .int .i64 0, .int .i64 0, .bool false] 60) = V) := Lib.hid hV.symm
  obtain ⟨eb, heb⟩ : ∃ eb, eb = w.heap.size + 1 := ⟨_, rfl⟩
  have HEB := Lib.hid heb
  rw [← heb] at HE1
  clear h hE hv hl hf hn hba hbb hV HV HPC heb
  go_enter Tryz.func72, Tryz.ntmps72
  go_upto_block 0 with fail
  rw [← HEB.out, HVW.out]
  go_cut [6] from 7 to 55 (fun t wx => ∃ (hw : List UInt8) (σ : PS) (a p c : Int), t = .string (str hw) ∧ Hid (StAt B b w wx σ) ∧ Hid (EVar wx eb a p c false) ∧ Hid (EVar wx w.heap.size 0 0 0 false) ∧ Hid (endM ps s = (⟨a, p, c, isOne (choiceM hw wHow σ).1⟩, (choiceM hw wHow σ).2)))
  case first =>
    cases hbl : begM kEL s with
    | true =>
      rw [hbl] at HBL
      have HEM : Hid (endM ps s = elM s) := Lib.hid (by rw [endM, if_pos hbl])
      have HLN : Hid (Calls Tryz.prog 46 #[.pointer (some ⟨b, 0, none⟩), .string ⟨#[101, 110, 100, 32, 108, 105, 110, 101]⟩, .int .i64 (2 : Nat)] V (WordsP B b (lineM kEL 2 s).1 (lineM kEL 2 s).2 V)) := Lib.hid (line_par B b kEL 2 s V HPA.out (by decide) (by decide) hB HEV.out)
      clear hbl
      go_wp2_with fail
      go_at_call 68; refine HBL.out.mono ?_; rintro e w' ⟨rfl, rfl⟩
      go_wp2_with fail
      go_at_call 46; refine HLN.out.mono ?_; rintro e W ⟨wa, wc, rfl, hws, hpW, hfW⟩
      have hwl := (lineM_rd kEL 2 s).2
      obtain ⟨c4, c9, g, o, rfl, hgb, htb, hcw, hsm⟩ := words_at hws hwl (by decide)
      rw [hwl]
      have x0 := hcw 0 (by decide)
      have x1 := hcw 1 (by decide)
      rw [Nat.add_zero] at x0
      have HSW : Hid (StAt B b w W (lineM kEL 2 s).2) := Lib.hid (HST.out.trans ⟨hpW, hfW⟩)
      have HK : Hid (Calls Tryz.prog 53 #[.pointer (some ⟨b, 0, none⟩), .string (str (wd (lineM kEL 2 s).1 0))] W (StP B b W (.int .i64 (numM (wd (lineM kEL 2 s).1 0) (lineM kEL 2 s).2).1) (numM (wd (lineM kEL 2 s).1 0) (lineM kEL 2 s).2).2)) := Lib.hid (number_k (HSW.out.env HE0.out) hB (hsm 0) (StAt.refl hpW))
      have HE2 : Hid (EVar W eb 0 0 0 false) := Lib.hid (HE1.out.fr hfW (by have := HEB.out; omega))
      have HR2 : Hid (EVar W w.heap.size 0 0 0 false) := Lib.hid (HR.out.fr hfW (by omega))
      have HTB := Lib.hid htb
      clear hws hpW hfW hsm hcw hwl htb
      obtain ⟨m, hm⟩ : ∃ m, m = (numM (wd (lineM kEL 2 s).1 0) (lineM kEL 2 s).2).1 := ⟨_, rfl⟩
      obtain ⟨X0, hX0⟩ : ∃ X, X = str (wd (lineM kEL 2 s).1 0) := ⟨_, rfl⟩
      obtain ⟨X1, hX1⟩ : ∃ X, X = str (wd (lineM kEL 2 s).1 1) := ⟨_, rfl⟩
      rw [← hX0] at x0
      rw [← hX1] at x1
      rw [← hm, ← hX0] at HK
      have HM := Lib.hid hm
      have HX1 := Lib.hid hX1
      clear hm hX0 hX1
      go_wp2_with fail
      go_at_call 53; refine HK.out.mono ?_; rintro e W2 ⟨rfl, h2⟩
      have H2 := Lib.hid h2
      have y1 := h2.2.cell hgb x1
      have hge : g ≠ eb := by
        intro e
        obtain ⟨cs, fr, hh⟩ := HTB.out
        have := HE2.out
        unfold EVar at this
        rw [e, this] at hh
        simp at hh
      have HE3 : Hid (EVar W2 eb 0 0 0 false) := Lib.hid (HE2.out.fr h2.2 (by have := HEB.out; omega))
      have HR3 : Hid (EVar W2 w.heap.size 0 0 0 false) := Lib.hid (HR2.out.fr h2.2 (by omega))
      obtain ⟨⟨e0, e1, e2, e3⟩, hfz⟩ := HE3.out.facts
      have f0 := hfz 0
      have f1 := hfz 1
      have f2 := hfz 2
      have f3 := hfz 3
      clear h2 hfz
      go_wp2_with fail
      have HFF : Hid (StAt B b w ((((W2.setCell ⟨eb, 0, none⟩ (.int .i64 (0))).setCell ⟨eb, 1, none⟩ (.int .i64 (0))).setCell ⟨eb, 2, none⟩ (.int .i64 (m))).setCell ⟨eb, 3, none⟩ (.bool false)) (numM (wd (lineM kEL 2 s).1 0) (lineM kEL 2 s).2).2) := Lib.hid ((HSW.out.trans H2.out).fill (by have := HEB.out; omega) hbw (by omega) _ _ _ _)
      have HF2 := Lib.hid (HE3.out.fill (0) (0) (m) false)
      have HF3 : Hid (EVar ((((W2.setCell ⟨eb, 0, none⟩ (.int .i64 (0))).setCell ⟨eb, 1, none⟩ (.int .i64 (0))).setCell ⟨eb, 2, none⟩ (.int .i64 (m))).setCell ⟨eb, 3, none⟩ (.bool false)) w.heap.size 0 0 0 false) := Lib.hid ((((HR3.out.other (by have := HEB.out; omega) _).other (by have := HEB.out; omega) _).other (by have := HEB.out; omega) _).other (by have := HEB.out; omega) _)
      go_meet
      case rel => exact ⟨wd (lineM kEL 2 s).1 1, (numM (wd (lineM kEL 2 s).1 0) (lineM kEL 2 s).2).2, 0, 0, m, by rw [HX1.out], HFF, HF2, HF3, Lib.hid (by rw [HEM.out, HM.out]; rfl)⟩
    | false =>
      rw [hbl] at HBL
      cases hbr : begM kER s with
      | true =>
        rw [hbr] at HBR
        have HEM : Hid (endM ps s = erM ps s) := Lib.hid (by rw [endM, if_neg (by rw [hbl]; decide), if_pos hbr])
        have HLN : Hid (Calls Tryz.prog 46 #[.pointer (some ⟨b, 0, none⟩), .string ⟨#[101, 110, 100, 32, 114, 101, 97, 99, 104]⟩, .int .i64 (2 : Nat)] V (WordsP B b (lineM kER 2 s).1 (lineM kER 2 s).2 V)) := Lib.hid (line_par B b kER 2 s V HPA.out (by decide) (by decide) hB HEV.out)
        clear hbl hbr
        go_wp2_with fail
        go_at_call 68; refine HBL.out.mono ?_; rintro e w' ⟨rfl, rfl⟩
        go_wp2_with fail
        go_at_call 68; refine HBR.out.mono ?_; rintro e w' ⟨rfl, rfl⟩
        go_wp2_with fail
        go_at_call 46; refine HLN.out.mono ?_; rintro e W ⟨wa, wc, rfl, hws, hpW, hfW⟩
        have hwl := (lineM_rd kER 2 s).2
        obtain ⟨c4, c9, g, o, rfl, hgb, htb, hcw, hsm⟩ := words_at hws hwl (by decide)
        rw [hwl]
        have x0 := hcw 0 (by decide)
        have x1 := hcw 1 (by decide)
        rw [Nat.add_zero] at x0
        have HSW : Hid (StAt B b w W (lineM kER 2 s).2) := Lib.hid (HST.out.trans ⟨hpW, hfW⟩)
        have HK : Hid (Calls Tryz.prog 70 #[.pointer (some ⟨b, 0, none⟩), .string (str (wd (lineM kER 2 s).1 0)), .slice va n vc] W (StP B b W (.int .i64 (pieceM (wd (lineM kER 2 s).1 0) ps (lineM kER 2 s).2).1) (pieceM (wd (lineM kER 2 s).1 0) ps (lineM kER 2 s).2).2)) := Lib.hid (par_st (StAt.refl hpW) (piece_par B b _ ps _ _ W hpW (HVV.out _ _ HSW.out) HL.out HF.out hB))
        have HE2 : Hid (EVar W eb 0 0 0 false) := Lib.hid (HE1.out.fr hfW (by have := HEB.out; omega))
        have HR2 : Hid (EVar W w.heap.size 0 0 0 false) := Lib.hid (HR.out.fr hfW (by omega))
        have HTB := Lib.hid htb
        clear hws hpW hfW hsm hcw hwl htb
        obtain ⟨m, hm⟩ : ∃ m, m = (pieceM (wd (lineM kER 2 s).1 0) ps (lineM kER 2 s).2).1 := ⟨_, rfl⟩
        obtain ⟨X0, hX0⟩ : ∃ X, X = str (wd (lineM kER 2 s).1 0) := ⟨_, rfl⟩
        obtain ⟨X1, hX1⟩ : ∃ X, X = str (wd (lineM kER 2 s).1 1) := ⟨_, rfl⟩
        rw [← hX0] at x0
        rw [← hX1] at x1
        rw [← hm, ← hX0] at HK
        have HM := Lib.hid hm
        have HX1 := Lib.hid hX1
        clear hm hX0 hX1
        go_wp2_with fail
        go_at_call 70; refine HK.out.mono ?_; rintro e W2 ⟨rfl, h2⟩
        have H2 := Lib.hid h2
        have y1 := h2.2.cell hgb x1
        have hge : g ≠ eb := by
          intro e
          obtain ⟨cs, fr, hh⟩ := HTB.out
          have := HE2.out
          unfold EVar at this
          rw [e, this] at hh
          simp at hh
        have HE3 : Hid (EVar W2 eb 0 0 0 false) := Lib.hid (HE2.out.fr h2.2 (by have := HEB.out; omega))
        have HR3 : Hid (EVar W2 w.heap.size 0 0 0 false) := Lib.hid (HR2.out.fr h2.2 (by omega))
        obtain ⟨⟨e0, e1, e2, e3⟩, hfz⟩ := HE3.out.facts
        have f0 := hfz 0
        have f1 := hfz 1
        have f2 := hfz 2
        have f3 := hfz 3
        clear h2 hfz
        go_wp2_with fail
        have HFF : Hid (StAt B b w ((((W2.setCell ⟨eb, 0, none⟩ (.int .i64 (1))).setCell ⟨eb, 1, none⟩ (.int .i64 (m))).setCell ⟨eb, 2, none⟩ (.int .i64 (0))).setCell ⟨eb, 3, none⟩ (.bool false)) (pieceM (wd (lineM kER 2 s).1 0) ps (lineM kER 2 s).2).2) := Lib.hid ((HSW.out.trans H2.out).fill (by have := HEB.out; omega) hbw (by omega) _ _ _ _)
        have HF2 := Lib.hid (HE3.out.fill (1) (m) (0) false)
        have HF3 : Hid (EVar ((((W2.setCell ⟨eb, 0, none⟩ (.int .i64 (1))).setCell ⟨eb, 1, none⟩ (.int .i64 (m))).setCell ⟨eb, 2, none⟩ (.int .i64 (0))).setCell ⟨eb, 3, none⟩ (.bool false)) w.heap.size 0 0 0 false) := Lib.hid ((((HR3.out.other (by have := HEB.out; omega) _).other (by have := HEB.out; omega) _).other (by have := HEB.out; omega) _).other (by have := HEB.out; omega) _)
        go_meet
        case rel => exact ⟨wd (lineM kER 2 s).1 1, (pieceM (wd (lineM kER 2 s).1 0) ps (lineM kER 2 s).2).2, 1, m, 0, by rw [HX1.out], HFF, HF2, HF3, Lib.hid (by rw [HEM.out, HM.out]; rfl)⟩
      | false =>
        rw [hbr] at HBR
        have HEM : Hid (endM ps s = etM ps s) := Lib.hid (by rw [endM, if_neg (by rw [hbl]; decide), if_neg (by rw [hbr]; decide)])
        have HLN : Hid (Calls Tryz.prog 46 #[.pointer (some ⟨b, 0, none⟩), .string ⟨#[101, 110, 100, 32, 116, 97, 107, 101]⟩, .int .i64 (3 : Nat)] V (WordsP B b (lineM kET 3 s).1 (lineM kET 3 s).2 V)) := Lib.hid (line_par B b kET 3 s V HPA.out (by decide) (by decide) hB HEV.out)
        clear hbl hbr
        go_wp2_with fail
        go_at_call 68; refine HBL.out.mono ?_; rintro e w' ⟨rfl, rfl⟩
        go_wp2_with fail
        go_at_call 68; refine HBR.out.mono ?_; rintro e w' ⟨rfl, rfl⟩
        go_wp2_with fail
        go_at_call 46; refine HLN.out.mono ?_; rintro e W ⟨wa, wc, rfl, hws, hpW, hfW⟩
        have hwl := (lineM_rd kET 3 s).2
        obtain ⟨c4, c9, g, o, rfl, hgb, htb, hcw, hsm⟩ := words_at hws hwl (by decide)
        rw [hwl]
        have x0 := hcw 0 (by decide)
        have x1 := hcw 1 (by decide)
        have x2 := hcw 2 (by decide)
        rw [Nat.add_zero] at x0
        have HSW : Hid (StAt B b w W (lineM kET 3 s).2) := Lib.hid (HST.out.trans ⟨hpW, hfW⟩)
        have HSD : Hid (StAt B b W W.drew (lineM kET 3 s).2) := Lib.hid ((StAt.refl hpW).drew hB)
        have HK : Hid (∀ U, StAt B b W U (lineM kET 3 s).2 → Calls Tryz.prog 70 #[.pointer (some ⟨b, 0, none⟩), .string (str (wd (lineM kET 3 s).1 0)), .slice va n vc] U (StP B b W (.int .i64 (etP ps s).1) (etP ps s).2)) := Lib.hid (fun U hU => par_st hU (piece_par B b _ ps _ _ U hU.1 (HVV.out _ _ (HSW.out.trans hU)) HL.out HF.out hB))
        have HK2 : Hid (∀ U, StAt B b W U (etP ps s).2 → Calls Tryz.prog 53 #[.pointer (some ⟨b, 0, none⟩), .string (str (wd (lineM kET 3 s).1 1))] U (StP B b W (.int .i64 (etN ps s).1) (etN ps s).2)) := Lib.hid (fun U hU => number_k (HSW.out.env HE0.out) hB (hsm 1) hU)
        have HE2 : Hid (EVar W eb 0 0 0 false) := Lib.hid (HE1.out.fr hfW (by have := HEB.out; omega))
        have HR2 : Hid (EVar W w.heap.size 0 0 0 false) := Lib.hid (HR.out.fr hfW (by omega))
        have HTB := Lib.hid htb
        have hge : g ≠ eb := by
          intro e
          obtain ⟨cs, fr, hh⟩ := HTB.out
          have := HE2.out
          unfold EVar at this
          rw [e, this] at hh
          simp at hh
        clear hws hpW hfW hsm hcw hwl htb
        obtain ⟨m, hm⟩ : ∃ m, m = (etP ps s).1 := ⟨_, rfl⟩
        obtain ⟨m2, hm2⟩ : ∃ m, m = (etN ps s).1 := ⟨_, rfl⟩
        obtain ⟨X0, hX0⟩ : ∃ X, X = str (wd (lineM kET 3 s).1 0) := ⟨_, rfl⟩
        obtain ⟨X1, hX1⟩ : ∃ X, X = str (wd (lineM kET 3 s).1 1) := ⟨_, rfl⟩
        obtain ⟨X2, hX2⟩ : ∃ X, X = str (wd (lineM kET 3 s).1 2) := ⟨_, rfl⟩
        rw [← hX0] at x0
        rw [← hX1] at x1
        rw [← hX2] at x2
        rw [← hm, ← hX0] at HK
        rw [← hm2, ← hX1] at HK2
        have HM := Lib.hid hm
        have HM2 := Lib.hid hm2
        have HX2 := Lib.hid hX2
        have hee : eb ≠ b := by have := HEB.out; omega
        clear hm hm2 hX0 hX1 hX2
        obtain ⟨⟨e0, e1, e2, e3⟩, hfz⟩ := HE2.out.facts
        have f0 := hfz 0
        have f1 := hfz 1
        have f2 := hfz 2
        have f3 := hfz 3
        clear hfz
        have hst : ∀ (U : World) (i j : Nat) (u : Value), (U.setCell ⟨eb, i, none⟩ u).cell? ⟨g, j, none⟩ = U.cell? ⟨g, j, none⟩ := fun U i j u => World.cell?_of_block (Below.heap_setCell U ⟨eb, i, none⟩ u g hge)
        go_wp2_with fail
        go_region_held3 (fun w' => w'.cell? ⟨g, o, none⟩ = some (.string X0) ∧ w'.cell? ⟨g, o + 1, none⟩ = some (.string X1) ∧ w'.cell? ⟨g, o + 2, none⟩ = some (.string X2)) (go_keep) (first
          | (go_at_call 70; refine (HK.out _ HSD.out).mono ?_; rintro e W1 ⟨rfl, h1⟩; have H1 := Lib.hid h1; have y0 := h1.2.cell hgb x0; have y1 := h1.2.cell hgb x1; have y2 := h1.2.cell hgb x2; have e0 := h1.2.cell hee e0; have e1 := h1.2.cell hee e1; have e2 := h1.2.cell hee e2; have e3 := h1.2.cell hee e3; clear h1)
          | (go_at_call 53; refine (HK2.out _ H1.out).mono ?_; rintro e W2 ⟨rfl, h2⟩; have H2 := Lib.hid h2; have HE3 : Hid (EVar W2 eb 0 0 0 false) := Lib.hid (HE2.out.fr h2.2 hee); have HR3 : Hid (EVar W2 w.heap.size 0 0 0 false) := Lib.hid (HR2.out.fr h2.2 (by omega)); obtain ⟨⟨e0, e1, e2, e3⟩, hfz⟩ := HE3.out.facts; have f0 := hfz 0; have f1 := hfz 1; have f2 := hfz 2; have f3 := hfz 3; have y0 := h2.2.cell hgb x0; have y1 := h2.2.cell hgb x1; have y2 := h2.2.cell hgb x2; clear h2 hfz))
        go_wp2_with fail
        have HFF : Hid (StAt B b w ((((W2.setCell ⟨eb, 0, none⟩ (.int .i64 2)).setCell ⟨eb, 1, none⟩ (.int .i64 m)).setCell ⟨eb, 2, none⟩ (.int .i64 m2)).setCell ⟨eb, 3, none⟩ (.bool false)) (etN ps s).2) := Lib.hid ((HSW.out.trans H2.out).fill (by have := HEB.out; omega) hbw (by omega) _ _ _ _)
        have HF2 := Lib.hid (HE3.out.fill 2 m m2 false)
        have HF3 : Hid (EVar ((((W2.setCell ⟨eb, 0, none⟩ (.int .i64 2)).setCell ⟨eb, 1, none⟩ (.int .i64 m)).setCell ⟨eb, 2, none⟩ (.int .i64 m2)).setCell ⟨eb, 3, none⟩ (.bool false)) w.heap.size 0 0 0 false) := Lib.hid ((((HR3.out.other (by have := HEB.out; omega) _).other (by have := HEB.out; omega) _).other (by have := HEB.out; omega) _).other (by have := HEB.out; omega) _)
        go_meet
        case rel => exact ⟨wd (lineM kET 3 s).1 2, (etN ps s).2, 2, m, m2, by rw [HX2.out], HFF, HF2, HF3, Lib.hid (by rw [HEM.out, HM.out, HM2.out]; rfl)⟩
  case rest =>
    clear HBL HBR HPA HE1 HR HVW
    obtain ⟨hw, σ, a, p, c, rfl, hst, hev, hrv, heq⟩ := hcut
    obtain ⟨X, hX⟩ : ∃ X, X = str hw := ⟨_, rfl⟩
    rw [← hX]
    have HX := Lib.hid hX
    clear hX
    obtain ⟨q, hq⟩ : ∃ q, q = (choiceM hw wHow σ).1 := ⟨_, rfl⟩
    have HQ := Lib.hid hq
    have HKC : Hid (∀ V g, StAt B b w V σ → WBlk V g wHow → Calls Tryz.prog 52 #[.pointer (some ⟨b, 0, none⟩), .string X, .slice (some ⟨g, 0, none⟩) 2 2] V (StP B b V (.int .i64 q) (choiceM hw wHow σ).2)) := Lib.hid (fun V g hV hwb => by
      rw [hq, HX.out]; exact par_st (StAt.refl hV.1) (choice_par B b g hw wHow σ V hV.1 hwb hB (by decide)))
    clear hq
    go_wp2_with fail
    go_at_call 44; refine (howWords_any _).mono ?_; rintro e W3 ⟨gh, rfl, hwd, hb3⟩
    have HS3 : Hid (StAt B b w W3 σ) := Lib.hid (hst.out.below hb3 hB)
    have HE3 : Hid (EVar W3 eb a p c false) := Lib.hid ((hb3.block eb (Array.getElem?_eq_some_iff.1 hev.out).1).trans hev.out)
    have HR3 : Hid (EVar W3 w.heap.size 0 0 0 false) := Lib.hid ((hb3.block w.heap.size (Array.getElem?_eq_some_iff.1 hrv.out).1).trans hrv.out)
    have HWD := Lib.hid hwd
    clear hst hev hrv hwd hb3
    go_wp2_with fail
    go_at_call 52; refine (HKC.out _ gh HS3.out HWD.out).mono ?_; rintro e W4 ⟨rfl, h4⟩
    have HS4 : Hid (StAt B b w W4 (choiceM hw wHow σ).2) := Lib.hid (HS3.out.trans h4)
    have HE4 : Hid (EVar W4 eb a p c false) := Lib.hid (HE3.out.fr h4.2 (by have := HEB.out; omega))
    have HR4 : Hid (EVar W4 w.heap.size 0 0 0 false) := Lib.hid (HR3.out.fr h4.2 (by omega))
    clear h4 HS3 HE3 HR3 HWD
    obtain ⟨⟨e0, e1, e2, e3⟩, ez⟩ := HE4.out.facts
    obtain ⟨⟨r0, r1, r2, r3⟩, rz⟩ := HR4.out.facts
    have ez3 := ez 3
    have rz0 := rz 0
    have rz1 := rz 1
    have rz2 := rz 2
    have rz3 := rz 3
    have hne : w.heap.size ≠ eb := by have := HEB.out; omega
    clear ez rz
    go_wp2_with fail
    have HRF := ((HR4.out.other (q := eb) (i := 3) hne (.bool (q == 1))).fill a p c (q == 1))
    refine bodyPost_ret (results_cell_row rfl _ _ w.heap.size 60 _ (0, 0) _ rfl HRF Tryz.underlying60 rfl (by kernel_rfl)) rfl ?_
    refine ⟨?_, ?_⟩
    · rw [heq.out, ← HQ.out]
      have : isOne q = (q == 1) := by rw [isOne, Bool.eq_iff_iff]; simp
      rw [this]
    · rw [heq.out]
      exact (HS4.out.far (by have := HEB.out; omega) hbw (by omega) 3 _).fill (Nat.le_refl _) hbw (by omega) _ _ _ _
end Go.Proofs.YtjfkecadfnepjaaGreatDoor
