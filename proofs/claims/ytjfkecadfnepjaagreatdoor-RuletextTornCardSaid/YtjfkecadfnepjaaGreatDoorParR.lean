/- ruletext's parser: rows. -/
import Derived.Test.YtjfkecadfnepjaaGreatDoorParF
import Derived.Test.YtjfkecadfnepjaaGreatDoorRBox
import Derived.Lib.ConvBytes
import Derived.Laws.MakeOwn
import Derived.Lib.SliceRun
set_option maxRecDepth 100000
namespace Go.Proofs.YtjfkecadfnepjaaGreatDoor
open Go.ChangeShapes Go.WideShapes Go.ChangeAt Go.RowKit
attribute [local go_sem ↓] Go.wp_at_zero Go.wp_at_succ

theorem info_int : (Tryz.prog.info? 3).map (fun i => (i.zero, i.size, i.bytes)) = some (some (.int .i64 0), 1, 8) := by kernel_rfl
def intC (x : Int) : List Value := [.int .i64 x]
theorem intC_map (l : List Int) : cellsL intC l = l.map (.int .i64) := by
  induction l with
  | nil => rfl
  | cons x l ih => simp only [cellsL, List.map_cons, List.flatten_cons] at ih ⊢; rw [ih]; rfl
theorem intC_len (l : List Int) : (cellsL intC l).length = l.length := by rw [intC_map, List.length_map]
theorem intC_set (l : List Int) (m : Nat) (v : Int) : (cellsL intC l).set m (.int .i64 v) = cellsL intC (l.set m v) := by rw [intC_map, intC_map, List.map_set]
theorem own_ints {W : World} {base : Nat} {v : Value} {l : List Int} (h : W.ownsRow base 3 1 v l.length (cellsL intC l)) : IsSl IntT 1 W v l :=
  own_isSl (k := 1) (fun _ => rfl) h fun _ _ _ _ ht hc => ⟨ht, hc 0 _ rfl⟩
theorem RBox.fr {B b : Nat} {W W' : World} {rb : Nat} {t : TypeId} {r : RulesD} {vp vs ve : Value} (h : RBox W rb t r vp vs ve) (hf : Fr B b W W') (hb : rb ≠ b) : RBox W' rb t r vp vs ve := hf.heap hb h
theorem rowsGo_no {ps : List PieceD} {W y : Nat} {cs : List Int} {s : PS} (h : (wd (lineM kRow 1 s).1 0).length ≠ W) : rowsGo ps W (y + 1) cs s = (cs, failS (lineM kRow 1 s).2) := by rw [rowsGo, if_neg h]
theorem rowsGo_yes {ps : List PieceD} {W y : Nat} {cs : List Int} {s : PS} (h : (wd (lineM kRow 1 s).1 0).length = W) : rowsGo ps W (y + 1) cs s = rowsGo ps W y (rowGo ps (wd (lineM kRow 1 s).1 0) (y * W) cs (lineM kRow 1 s).2).1 (rowGo ps (wd (lineM kRow 1 s).1 0) (y * W) cs (lineM kRow 1 s).2).2 := by rw [rowsGo, if_pos h]
/-- The rows' state: the cells so far, and the rules that were handed in. -/
def RwAt (B b : Nat) (w wr : World) (gi A : Nat) (cs : List Int) (σ : PS) (r : RulesD) (vp vs ve : Value) : Prop :=
  wr.ownsRow w.heap.size 3 1 (.slice (some ⟨gi, 0, none⟩) A A) A (cellsL intC cs) ∧ cs.length = A ∧ StAt B b w wr σ ∧ RBox wr w.heap.size 26 r vp vs ve
theorem RwAt.step {B b gi A : Nat} {w wr W : World} {cs : List Int} {σ τ : PS} {r : RulesD} {vp vs ve : Value} (h : RwAt B b w wr gi A cs σ r vp vs ve) (hf : StAt B b wr W τ) (hb : b < w.heap.size) : RwAt B b w W gi A cs τ r vp vs ve :=
  ⟨own_fr h.1 hf.2 hb, h.2.1, h.2.2.1.trans hf, h.2.2.2.fr hf.2 (by omega)⟩
theorem RwAt.below {B b gi A : Nat} {w wr W : World} {cs : List Int} {σ : PS} {r : RulesD} {vp vs ve : Value} (h : RwAt B b w wr gi A cs σ r vp vs ve) (hb : Below wr.heap.size wr W) (hbw : b < w.heap.size) (hB : B ≤ b) : RwAt B b w W gi A cs σ r vp vs ve :=
  h.step ((StAt.refl h.2.2.1.1).below hb hB) hbw
theorem RwAt.put {B b gi A m : Nat} {w wr : World} {cs : List Int} {σ : PS} {r : RulesD} {vp vs ve : Value} (h : RwAt B b w wr gi A cs σ r vp vs ve) (hgi : gi = w.heap.size + 1) (hb : b < w.heap.size) (hB : B ≤ w.heap.size) (v : Int) : RwAt B b w (wr.setCell ⟨gi, m, none⟩ (.int .i64 v)) gi A (cs.set m v) σ r vp vs ve := by
  obtain ⟨h1, h2, h3, h4⟩ := h
  refine ⟨?_, by rw [List.length_set]; exact h2, h3.far (by omega) hb hB m _, (heap_setCell_other wr ⟨gi, m, none⟩ w.heap.size _ (by show w.heap.size ≠ gi; omega)).trans h4⟩
  rw [← intC_set]
  exact (h1.stored m (.int .i64 v)).1
theorem rwAt_made {B b A : Nat} {w w1 wm : World} {s : PS} {r : RulesD} {vp vs ve : Value} {N : Nat} (hS : StAt B b w w1 s) (hX : RBox w1 w.heap.size 26 r vp vs ve) (hN : N = w.heap.size + 1) (hb : b < w.heap.size) (hB : B ≤ w.heap.size) (hown : wm.ownsRow w.heap.size 3 1 (.slice (some ⟨N, 0, none⟩) A A) A (madeCells (Value.cells (.int .i64 0)) (A * 1)).toList) (hg : w1.grownBy wm none) : RwAt B b w wm (w.heap.size + 1) A (List.replicate A 0) s r vp vs ve := by
  refine ⟨?_, by simp, hS.grown hg (fun k e => by cases e) hB hb, ?_⟩
  · rw [intC_map, List.map_replicate, ← toList_madeCells_one, ← hN]
    rw [Nat.mul_one] at hown; exact hown
  · exact (hg.block _ (Array.getElem?_eq_some_iff.1 hX).1 (by simp)).trans hX
/-- The bytes of a row, in a block of their own. -/
def BytesAt (W : World) (bb n : Nat) (l : List UInt8) : Prop := ∀ t, t < n → W.cell? ⟨bb, t, none⟩ = some (.int .u8 ((l[t]?.getD 0).toNat : Int))
theorem BytesAt.fr {B b : Nat} {W W' : World} {bb n : Nat} {l : List UInt8} (h : BytesAt W bb n l) (hf : Fr B b W W') (hb : bb ≠ b) : BytesAt W' bb n l := fun t ht => hf.cell (a := ⟨bb, t, none⟩) hb (h t ht)
theorem BytesAt.other {W : World} {bb n q i : Nat} {l : List UInt8} (h : BytesAt W bb n l) (hq : bb ≠ q) (u : Value) : BytesAt (W.setCell ⟨q, i, none⟩ u) bb n l := fun t ht => (World.cell?_of_block (w := W) (a := ⟨bb, t, none⟩) (Below.heap_setCell W ⟨q, i, none⟩ u bb hq)).trans (h t ht)
theorem BytesAt.drew {W : World} {bb n : Nat} {l : List UInt8} (h : BytesAt W bb n l) : BytesAt W.drew bb n l := fun t ht => h t ht
theorem conv_bytes (X : ByteArray) (l : List UInt8) (n : Nat) (W : World) (hX : X = str l) (hn : X.size = n) : ∃ G Wb, (convert 9 45 (.string X)).run Tryz.prog W = .ok (.slice (some ⟨W.heap.size, 0, none⟩) n G) Wb ∧ Below W.heap.size W Wb ∧ BytesAt Wb W.heap.size n l := by
  have h := Lib.run_convert_string_bytes (P := Tryz.prog) W 9 45 5 X Tryz.underlying9 Tryz.underlying45 Tryz.underlying5
  rw [hn] at h
  exact ⟨_, _, h, Lib.bytesWorld_below _ _ _, fun t ht => by rw [Lib.bytesWorld_cell W _ X t (by omega), hX, data_str, List.getD]⟩
theorem rowGo_at2 {ps : List PieceD} {l : List UInt8} {x i : Nat} {cs : List Int} {s : PS} {c : UInt8} (hc : l[x]? = some c) : rowGo ps (l.drop x) i cs s = rowGo ps (l.drop (x + 1)) (i + 1) (cs.set i (cellM c ps s).1) (cellM c ps s).2 := by
  obtain ⟨h1, h2⟩ := List.getElem?_eq_some_iff.1 hc
  rw [List.drop_eq_getElem_cons h1, h2]; rfl
set_option maxHeartbeats 8000000 in
theorem rows_par (B b : Nat) (r : RulesD) (vp vs ve : Value) (s : PS) (w : World) (W H : Nat) (h : PAt w b s) (hB : B ≤ b) (hE : Env B w) (hv : IsSl PieceT 4 w vp r.pieces) (hl : r.pieces.length ≤ 9000) (hf : LettersFit r.pieces) (hW : r.width = (W : Int)) (hH : r.height = (H : Int)) (hW8 : W ≤ 8) (hH8 : H ≤ 8) :
    Calls Tryz.prog 49 #[.pointer (some ⟨b, 0, none⟩), RulesV r vp vs ve] w (fun e w' => ∃ u, e = .returned u ∧ IsSl IntT 1 w' u (rowsM r.pieces W H s).1 ∧ StAt B b w w' (rowsM r.pieces W H s).2) := by
  obtain ⟨i0, hi, hz0, hz1, hz2⟩ := info_parts info_int
  have hbw := h.lt
  obtain ⟨A, hA⟩ : ∃ A, A = W * H := ⟨_, rfl⟩
  have hA64 : A ≤ 64 := by rw [hA]; exact Nat.mul_le_mul hW8 hH8
  have HAA := Lib.hid hA
  have hWH : (W : Int) * (H : Int) = (A : Int) := by rw [hA, Int.natCast_mul]
  have HVV : Hid (∀ V σ, StAt B b w V σ → IsSl PieceAt 4 V vp r.pieces) := Lib.hid fun V σ hV => isSl_map hv fun _ _ _ hx => (hx.kt (h.kt hV.2 (by decide)) (h.kt hV.2 (by decide))).plain
  obtain ⟨pa, pc, hpv, -, -⟩ := hv.shape (n := r.pieces.length) rfl
  obtain ⟨pn, hpn⟩ : ∃ n, n = r.pieces.length := ⟨_, rfl⟩
  rw [← hpn] at hpv
  subst hpv
  have HL := Lib.hid hl
  have HF := Lib.hid hf
  have HE := Lib.hid hE
  have hba := (Below.refl w.heap.size w).alloc (Nat.le_refl _) (.cells (RulesCells r (.slice pa pn pc) vs ve) 26)
  obtain ⟨w1, hw1⟩ : ∃ w1, w1 = w.alloc (.cells (RulesCells r (.slice pa pn pc) vs ve) 26) := ⟨_, rfl⟩
  have HX : Hid (RBox w1 w.heap.size 26 r (.slice pa pn pc) vs ve) := Lib.hid (by rw [hw1]; exact RBox.new w _ r _ _ _)
  rw [← hw1] at hba
  have HS1 : Hid (StAt B b w w1 s) := Lib.hid ((StAt.refl h).below hba hB)
  have hs1 : w1.heap.size = w.heap.size + 1 := by rw [hw1]; simp
  have HW1 : Hid (w.alloc (.cells #[.string r.name, .int .i64 r.width, .int .i64 r.height, .slice pa pn pc, vs, .bool r.falls, .bool r.keeps, ve, .int .i64 r.blocked, .int .i64 r.quiet, .int .i64 r.rep] 26) = w1) := Lib.hid hw1.symm
  unfold RulesV
  obtain ⟨⟨b0, b1, b2, b3, b4, -⟩, -⟩ := HX.out.facts
  have HWW := Lib.hid hW
  have HHH := Lib.hid hH
  rw [hW] at b1
  rw [hH] at b2
  rw [hw1] at b1 b2
  unfold RulesCells at b1 b2
  clear hA h hE hv hl hf hba hw1 hW hH hpn b0 b3 b4
  go_enter Tryz.func49, Tryz.ntmps49
  go_wp2_with (at_make; refine wpList_make_full _ rfl _ _ 23 rfl w.heap.size 3 i0 (.int .i64 0) 1 Tryz.underlying23 hi hz0 hz1 .i64 .i64 A A A rfl rfl rfl rfl (by rw [hz2]; omega) (by unfold maxLen; omega) (by simp) ?_; intro wm hownm hgrowm; rw [HW1.out] at hgrowm; have HR0 := Lib.hid (rwAt_made HS1.out HX.out (by simp) hbw (by omega) hownm hgrowm); obtain ⟨⟨-, c1, c2, c3, -⟩, -⟩ := HR0.out.2.2.2.facts; rw [HWW.out] at c1; rw [HHH.out] at c2; clear hownm hgrowm b1 b2)
  have HG0 : Hid (rowsGo r.pieces W H (List.replicate A 0) s = rowsM r.pieces W H s) := Lib.hid (by rw [rowsM, HAA.out])
  clear HX HS1 HW1 hs1 c1 c2 c3
  go_loopw [6, 7, 8, 9, 38] (fun y _ _ _ _ wr => ∃ (k : Nat) (cs : List Int) (σ : PS), k ≤ H ∧ y = .int .i64 ((k : Int) - 1) ∧ Hid (RwAt B b w wr (w.heap.size + 1) A cs σ r (.slice pa pn pc) vs ve) ∧ Hid (rowsGo r.pieces W k cs σ = rowsM r.pieces W H s)) (fun y _ _ _ _ _ => match y with | .int _ z => (z + 1).toNat | _ => 0)
  case atStart => exact ⟨H, _, s, by omega, rfl, HR0, HG0⟩
  case round =>
    clear HR0 HG0
    obtain ⟨k, cs, σ, hk, rfl, hrw, hgo⟩ := hrel
    obtain ⟨V, hV⟩ : ∃ V, V = wr := ⟨_, rfl⟩
    subst hV
    rcases k with _ | j
    · have HF : Hid (IsSl IntT 1 V (.slice (some ⟨w.heap.size + 1, 0, none⟩) A A) (rowsM r.pieces W H s).1 ∧ StAt B b w V (rowsM r.pieces W H s).2) := Lib.hid (by
        obtain ⟨h1, h2, h3, _⟩ := hrw.out
        rw [← hgo.out]
        refine ⟨?_, h3⟩
        rw [← h2] at h1 ⊢
        exact own_ints h1)
      rw [show (((0 : Nat) : Int) - 1) = -1 from rfl]
      go_wp2_with fail
      go_ret
      exact ⟨_, rfl, HF.out⟩
    · rw [show (((j + 1 : Nat) : Int) - 1) = (j : Int) by omega]
      have HLN : Hid (Calls Tryz.prog 46 #[.pointer (some ⟨b, 0, none⟩), .string ⟨#[114, 111, 119]⟩, .int .i64 (1 : Nat)] V (WordsP B b (lineM kRow 1 σ).1 (lineM kRow 1 σ).2 V)) := Lib.hid (line_par B b kRow 1 σ V hrw.out.2.2.1.1 (by decide) (by decide) hB (hrw.out.2.2.1.env HE.out))
      go_wp2_with fail
      go_at_call 46; refine HLN.out.mono ?_; rintro e W2 ⟨wa, wc, rfl, hws, hpW, hfW⟩
      have hwl := (lineM_rd kRow 1 σ).2
      obtain ⟨c4, c9, g, o, rfl, hgb, htb, hcw, hsm⟩ := words_at hws hwl (by decide)
      rw [hwl]
      have x0 := hcw 0 (by decide)
      rw [Nat.add_zero] at x0
      have HR2 := Lib.hid (hrw.out.step ⟨hpW, hfW⟩ hbw)
      obtain ⟨⟨-, c1, c2, c3, -⟩, -⟩ := HR2.out.2.2.2.facts
      rw [HWW.out] at c1
      have hsz := hsm 0
      obtain ⟨l, hl⟩ : ∃ l, l = wd (lineM kRow 1 σ).1 0 := ⟨_, rfl⟩
      obtain ⟨X, hX⟩ : ∃ X, X = str l := ⟨_, rfl⟩
      rw [← hl] at hsz
      rw [← hl, ← hX] at x0
      have HLL := Lib.hid hl
      have HXX := Lib.hid hX
      have hXs : X.size = l.length := by rw [hX, str_size]
      obtain ⟨n, hn⟩ : ∃ n, n = X.size := ⟨_, rfl⟩
      have HNN : Hid (n = l.length ∧ X.size = n) := Lib.hid ⟨hn.trans hXs, hn.symm⟩
      obtain ⟨u, bad, d0, d1, f1⟩ := bad_at hpW
      by_cases hlw : l.length = W
      · have hXW : X.size = W := hXs.trans hlw
        obtain ⟨G, Wb, hcv, hbb, hby⟩ := conv_bytes X l W W2 hX hXW
        have hne : ((X.size : Int) != (W : Int)) = false := by rw [hXW]; simp
        have HRB : Hid (RwAt B b w Wb (w.heap.size + 1) A cs (lineM kRow 1 σ).2 r (.slice pa pn pc) vs ve) := Lib.hid (HR2.out.below hbb hbw hB)
        have HBY : Hid (BytesAt Wb W2.heap.size W l) := Lib.hid hby
        have hgi : w.heap.size + 1 < W2.heap.size := (own_block HR2.out.1 (w.heap.size + 1) rfl).2.1
        have HG1 : Hid (rowsGo r.pieces W j (rowGo r.pieces l (j * W) cs (lineM kRow 1 σ).2).1 (rowGo r.pieces l (j * W) cs (lineM kRow 1 σ).2).2 = rowsM r.pieces W H s) := Lib.hid (by rw [← hgo.out, rowsGo_yes (by rw [← hl]; exact hlw), hl])
        have HLW := Lib.hid hlw
        have HR0 : Hid (rowGo r.pieces (l.drop 0) (j * W + 0) cs (lineM kRow 1 σ).2 = rowGo r.pieces l (j * W) cs (lineM kRow 1 σ).2) := Lib.hid rfl
        clear hws hpW hfW hwl htb hcw hsm hl hX hXs hn hlw hsz hgo hrw HLN c2 c3 hbb hby d0 d1 f1 HR2
        obtain ⟨s1, hs1⟩ : ∃ s1, s1 = (lineM kRow 1 σ).2 := ⟨_, rfl⟩
        rw [← hs1] at HRB HG1 HR0
        clear hs1
        obtain ⟨bb, hbb⟩ : ∃ bb, bb = W2.heap.size := ⟨_, rfl⟩
        rw [← hbb] at hcv HBY hgi
        have HBE := Lib.hid hbb
        clear hbb
        go_wp2_with fail
        clear hcv hne hXW
        go_loopw [8, 9, 38] (fun _ _ i wx => ∃ (x : Nat) (cs' : List Int) (τ : PS), x ≤ W ∧ i = .int .i64 (x : Int) ∧ Hid (RwAt B b w wx (w.heap.size + 1) A cs' τ r (.slice pa pn pc) vs ve) ∧ Hid (BytesAt wx bb W l) ∧ Hid (rowGo r.pieces (l.drop x) (j * W + x) cs' τ = rowGo r.pieces l (j * W) cs s1)) (fun _ _ i _ => W - (intOf i).toNat)
        case atStart => exact ⟨0, cs, s1, by omega, rfl, HRB, HBY, HR0⟩
        case round =>
          clear HRB HBY HR0 c1 x0
          obtain ⟨x, cs', τ, hx, rfl, hrw, hby, hgo⟩ := hrel
          by_cases hlt : x < W
          · obtain ⟨c, hc⟩ : ∃ c, l[x]? = some c := ⟨_, List.getElem?_eq_getElem (by rw [HLW.out]; exact hlt)⟩
            have y0 := hby.out x hlt
            rw [hc, Option.getD_some] at y0
            obtain ⟨P, hP⟩ : ∃ P : Nat, P = j * W := ⟨_, rfl⟩
            have hPA : P + W ≤ A := by
              rw [hP, HAA.out, ← Nat.succ_mul, Nat.mul_comm W H]; exact Nat.mul_le_mul_right W (by omega)
            have hPI : (j : Int) * (W : Int) = (P : Int) := by rw [hP, Int.natCast_mul]
            obtain ⟨m, hm⟩ : ∃ m : Nat, m = P + x := ⟨_, rfl⟩
            have HMM := Lib.hid hm
            have Q3 : Hid (IntKind.i64.wrap ((j : Int) * (W : Int)) = (P : Int)) := Lib.hid (by rw [hPI, IntWalk.i64_in _ (by omega)])
            have Q4 : Hid (IntKind.i64.wrap ((P : Int) + (x : Int)) = (m : Int)) := Lib.hid (by rw [IntWalk.i64_in _ (by omega)]; omega)
            have h0P : (0 : Int) ≤ (m : Int) := by omega
            have h1P : (m : Int) < (A : Int) := by omega
            have h2P : m < A := by omega
            obtain ⟨⟨-, c1, -, c3, -⟩, -⟩ := hrw.out.2.2.2.facts
            rw [HWW.out] at c1
            obtain ⟨q, hq⟩ : ∃ q, q = (cellM c r.pieces τ).1 := ⟨_, rfl⟩
            have KC : Hid (∀ U, StAt B b wr U τ → Calls Tryz.prog 71 #[.pointer (some ⟨b, 0, none⟩), .int .u8 c.toNat, .slice pa pn pc] U (StP B b wr (.int .i64 q) (cellM c r.pieces τ).2)) := Lib.hid (fun U hU => by
              rw [hq]
              exact par_st hU (cell_par B b c r.pieces _ τ U hU.1 (HVV.out _ _ (hrw.out.2.2.1.trans hU)) HL.out HF.out hB))
            have HGN : Hid (rowGo r.pieces (l.drop (x + 1)) (j * W + (x + 1)) (cs'.set m q) (cellM c r.pieces τ).2 = rowGo r.pieces l (j * W) cs s1) := Lib.hid (by
              have h1 := hgo.out
              rw [rowGo_at2 hc, ← hP] at h1
              rw [← hP, ← Nat.add_assoc, hq, hm]; exact h1)
            have HSD : Hid (StAt B b wr wr.drew τ) := Lib.hid ((StAt.refl hrw.out.2.2.1.1).drew hB)
            obtain ⟨C, hC⟩ : ∃ C : Int, C = (c.toNat : Int) := ⟨_, rfl⟩
            rw [← hC] at y0 KC
            have hwb : w.heap.size ≠ b := by omega
            have hst : ∀ (U : World) (i t : Nat) (u : Value), (U.setCell ⟨w.heap.size + 1, i, none⟩ u).cell? ⟨w.heap.size, t, none⟩ = U.cell? ⟨w.heap.size, t, none⟩ := fun U i t u => World.cell?_of_block (Below.heap_setCell U ⟨w.heap.size + 1, i, none⟩ u w.heap.size (by show w.heap.size ≠ w.heap.size + 1; omega))
            clear hc hP hq hgo hC hm hPI
            go_wp2_with fail
            have q3 := Q3.out
            have q4 := Q4.out
            go_region_held3 (fun w' => w'.cell? ⟨w.heap.size, 1, none⟩ = some (.int .i64 (W : Int)) ∧ w'.cell? ⟨w.heap.size, 3, none⟩ = some (.slice pa pn pc)) (go_keep) (first
              | (go_at_call 71; refine (KC.out _ HSD.out).mono ?_; rintro e W3 ⟨rfl, h3⟩; have H3 := Lib.hid (hrw.out.step h3 hbw); have HB3 : Hid (BytesAt W3 bb W l) := Lib.hid (hby.out.fr h3.2 (by omega)); have z1 := h3.2.cell (a := ⟨w.heap.size, 1, none⟩) hwb c1; have z3 := h3.2.cell (a := ⟨w.heap.size, 3, none⟩) hwb c3; obtain ⟨u0, hu0⟩ : ∃ u, W3.cell? ⟨w.heap.size + 1, m, none⟩ = some u := ⟨_, (H3.out.1.cellAt m (by omega)).trans (List.getElem?_eq_getElem (by rw [intC_len, H3.out.2.1]; omega))⟩; have hfz := H3.out.1.frozenAt m; clear h3))
            go_wp2_with fail
            clear q3 q4
            have HR9 := Lib.hid (H3.out.put (m := m) rfl hbw (by omega) q)
            have HB9 : Hid (BytesAt (W3.setCell ⟨w.heap.size + 1, m, none⟩ (.int .i64 q)) bb W l) := Lib.hid (HB3.out.other (by omega) _)
            refine ⟨⟨x + 1, cs'.set m q, _, by omega, by simp, HR9, HB9, HGN⟩, by simp [intOf]; omega⟩
          · obtain rfl : W = x := by omega
            have HN : Hid (rowsGo r.pieces W j cs' τ = rowsM r.pieces W H s) := Lib.hid (by
              have h1 := hgo.out
              rw [List.drop_eq_nil_of_le (by rw [HLW.out]; exact Nat.le_refl _)] at h1
              rw [← HG1.out, ← h1]; rfl)
            go_wp2_with fail
            go_roundw
            case rel => exact ⟨j, cs', τ, by omega, by go_num, hrw, HN⟩
            case measure => simp
      · have hne : ((X.size : Int) != (W : Int)) = true := by rw [hXs]; simpa using (by omega : ¬ (l.length : Int) = (W : Int))
        have HF : Hid (IsSl IntT 1 (W2.setCell ⟨b, 1, none⟩ (.bool true)) (.slice (some ⟨w.heap.size + 1, 0, none⟩) A A) (rowsM r.pieces W H s).1 ∧ StAt B b w (W2.setCell ⟨b, 1, none⟩ (.bool true)) (rowsM r.pieces W H s).2) := Lib.hid (by
          obtain ⟨h1, h2, h3, _⟩ := HR2.out.step ((StAt.refl hpW).fail hB) hbw
          rw [← hgo.out, rowsGo_no (by rw [← hl]; exact hlw)]
          refine ⟨?_, h3⟩
          rw [← h2] at h1 ⊢
          exact own_ints h1)
        clear hws hpW hfW hwl htb hcw hsm hl hX hXs hn hlw hsz hgo hrw HLN c2 c3
        go_wp2_with fail
        go_ret
        exact ⟨_, rfl, HF.out⟩
end Go.Proofs.YtjfkecadfnepjaaGreatDoor
