/- rules.Mirror: the rules in which both players are exchanged. -/
import Derived.Test.YthbilpgecombiaaMirD
import Derived.Laws.ResultCell
namespace Go.Proofs.Ythbilpgecombiaa
open Go.ChangeShapes Go.WideShapes Go.ChangeAt Go.RowKit

theorem results_row_tmp {P : Program} {fn : Func} {p u : Tmp} {ty : TypeId} (h : fn.results = #[.cell p ty, .tmp u]) (tmps : Array Value) (w : World) (g : Nat) (t : TypeId) (cs : Array Value) (fr : Nat × Nat) (d : TypeDesc)
    (hp : tmps.getD p undef = .pointer (some ⟨g, 0, none⟩)) (hg : w.heap[g]? = some (.cells cs t fr))
    (hu : P.underlying ty = some d) (hd : (match d with | .struct _ | .array _ _ => true | _ => false) = true) (hi : (P.info? ty).map (·.size) = some cs.size) :
    (results fn tmps).run P w = .ok (.tuple #[.agg cs, tmps.getD u undef]) w := by
  rw [results_cell_tmp h, hp]
  simp [asAddr, run_loadVar_row w g t ty cs fr d hg hu hd hi, Result.andThen]
def MirBad (r : RulesD) (w : World) (e : Ending) (w' : World) : Prop := e = .returned (.tuple #[RulesV zero0 (.slice none 0 0) (.slice none 0 0) (.slice none 0 0), .int .i64 (rulesE r)]) ∧ Below w.heap.size w w'
set_option maxRecDepth 100000 in
set_option maxHeartbeats 4000000 in
theorem mirror_bad (r : RulesD) (vp vs ve : Value) (w : World) (hr : RulesIn w r vp vs ve) (hz : rulesE r ≠ 0) :
    Calls Try.prog 37 #[RulesV r vp vs ve] w (MirBad r w) := by
  have HCK : Hid (∀ W, Below w.heap.size w W → Calls Try.prog 30 #[RulesV r vp vs ve] W (BelPost (.int .i64 (rulesE r)) W)) := Lib.hid (fun W h => check_any r vp vs ve W (hr.below h (Nat.le_refl _)))
  obtain ⟨ap, cp, rfl, _, _⟩ := hr.1.1.shape (n := r.pieces.length) rfl
  obtain ⟨sa, cs, rfl, _, _⟩ := hr.1.2.1.shape (n := r.start.length) rfl
  obtain ⟨ea, ce, rfl, _, _⟩ := hr.1.2.2.shape (n := r.ends.length) rfl
  obtain ⟨c, hc⟩ : ∃ c : Int, c = rulesE r := ⟨_, rfl⟩
  have HC : Hid _ := Lib.hid hc
  rw [← hc] at HCK hz
  have hne : (c != 0) = true := by simpa using hz
  have HX0 := RBox.alloc (RBox.new w 26 r (.slice ap r.pieces.length cp) (.slice sa r.start.length cs) (.slice ea r.ends.length ce)) (.cells (RulesCells zero0 (.slice none 0 0) (.slice none 0 0) (.slice none 0 0)) 26)
  have HZ0 := RBox.new (w.alloc (.cells (RulesCells r (.slice ap r.pieces.length cp) (.slice sa r.start.length cs) (.slice ea r.ends.length ce)) 26)) 26 zero0 (.slice none 0 0) (.slice none 0 0) (.slice none 0 0)
  have HB0 := Below.alloc (Below.alloc (Below.refl w.heap.size w) (Nat.le_refl _) (.cells (RulesCells r (.slice ap r.pieces.length cp) (.slice sa r.start.length cs) (.slice ea r.ends.length ce)) 26)) (by simp) (.cells (RulesCells zero0 (.slice none 0 0) (.slice none 0 0) (.slice none 0 0)) 26)
  have HX : Hid _ := Lib.hid HX0
  have HZ : Hid _ := Lib.hid HZ0
  have HB : Hid _ := Lib.hid HB0
  unfold RulesV at HCK ⊢
  clear hc hz hr HX0 HZ0 HB0
  go_enter Try.func37, Try.ntmps37
  go_wp2_with fail
  go_at_call 30; refine (HCK.out _ HB.out).mono ?_; rintro e w1 ⟨rfl, hb⟩
  have HB1 : Hid (Below w.heap.size w w1) := Lib.hid (HB.out.trans (hb.mono HB.out.size))
  have hz1 := HZ.out.below hb (by simp)
  simp only [World.size_alloc] at hz1
  have HZ1 := Lib.hid hz1
  have HZF := hz1.facts
  clear hb HB HZ HX hz1 HCK
  unfold RFacts BoxR at HZF
  obtain ⟨⟨z0, z1, z2, z3, z4, z5, z6, z7, z8, z9, z10⟩, y0, y1, y2, y3, y4, y5, y6, y7, y8, y9, y10⟩ := HZF
  go_wp2_with fail
  have HR2 := rbox_fill (r := zero0) (vp := .slice none 0 0) (vs := .slice none 0 0) (ve := .slice none 0 0) HZ1.out
  refine bodyPost_ret (results_row_tmp rfl _ _ (w.heap.size + 1) 26 _ (0, 0) _ rfl HR2 Try.underlying26 rfl (by kernel_rfl)) rfl ?_
  refine ⟨?_, fill_below HB1.out (by omega) zero0 _ _ _⟩
  rw [← HC.out]
  rfl

def MirOk (r : RulesD) (w : World) (e : Ending) (w' : World) : Prop := ∃ vp vs ve, e = .returned (.tuple #[RulesV (mirD r) vp vs ve, .int .i64 0]) ∧ RulesIn w' (mirD r) vp vs ve ∧ Below w.heap.size w w'
/-- The same; and the cells lie in a block of their own. -/
def MirOkB (r : RulesD) (w : World) (e : Ending) (w' : World) : Prop := ∃ vp vs ve, e = .returned (.tuple #[RulesV (mirD r) vp vs ve, .int .i64 0]) ∧ RulesIn w' (mirD r) vp vs ve ∧ Below w.heap.size w w' ∧ ∃ g n c, vs = .slice (some ⟨g, 0, none⟩) n c ∧ w.heap.size ≤ g
/-- Neither the new start's block nor the result's own. -/
def Off (w : World) (gs k : Nat) : Prop := k ≠ gs ∧ k ≠ w.heap.size + 1
def MInv (r : RulesD) (W H : Nat) (w : World) (b3 gs A cs : Nat) (vp vs ve vp' ve' : Value) (k : Nat) (V : World) : Prop :=
  (RBox V w.heap.size 26 r vp vs ve ∧ RBox V (w.heap.size + 1) 26 zero0 (.slice none 0 0) (.slice none 0 0) (.slice none 0 0) ∧ RBox V b3 26 r vp' (.slice (some ⟨gs, 0, none⟩) A cs) ve') ∧
    V.ownsRow (w.heap.size + 2) 3 1 (.slice (some ⟨gs, 0, none⟩) A cs) A ((mirTo W H r.start k).map (.int .i64)) ∧ IsSl (Blk (Off w gs) (PieceIn (Off w gs))) 4 V vp' r.pieces ∧ IsSl (Blk (Off w gs) EndAt) 4 V ve' r.ends ∧ Below w.heap.size w V
theorem MInv.below {r : RulesD} {W H : Nat} {w : World} {b3 gs A cs : Nat} {vp vs ve vp' ve' : Value} {k : Nat} {V V' : World} (h : MInv r W H w b3 gs A cs vp vs ve vp' ve' k V) (hb : Below V.heap.size V V') : MInv r W H w b3 gs A cs vp vs ve vp' ve' k V' := by
  obtain ⟨⟨h1, h2, h3⟩, h4, h5, h6, h7⟩ := h
  exact ⟨⟨h1.below hb (Array.getElem?_eq_some_iff.1 h1).1, h2.below hb (Array.getElem?_eq_some_iff.1 h2).1, h3.below hb (Array.getElem?_eq_some_iff.1 h3).1⟩, own_below h4 hb, h5.mono fun g o x h => ⟨h.1, pieceIn_keeps _ _ _ _ _ _ _ hb (Nat.le_refl _) h.2⟩, h6.mono fun g o x h => ⟨h.1, end_keeps _ _ _ _ _ _ hb (Nat.le_refl _) h.2⟩, h7.trans (hb.mono h7.size)⟩
theorem MInv.put {r : RulesD} {W H : Nat} {w : World} {b3 gs A cs : Nat} {vp vs ve vp' ve' : Value} {k m : Nat} {x : Int} {V : World} (h : MInv r W H w b3 gs A cs vp vs ve vp' ve' k V) (hgs : w.heap.size + 2 ≤ gs) (hb3 : gs < b3) (hW : 0 < W) (hk : k < W * H) (hx : r.start[k]? = some x) (hm : mirSq W H k = m) :
    MInv r W H w b3 gs A cs vp vs ve vp' ve' (k + 1) (V.setCell ⟨gs, m, none⟩ (.int .i64 (exch x))) := by
  obtain ⟨⟨h1, h2, h3⟩, h4, h5, h6, h7⟩ := h
  have hs : Stays (fun b => b ≠ gs) V (V.setCell ⟨gs, m, none⟩ (.int .i64 (exch x))) := (Stays.of (Below.refl _ V)).set (by simp) _
  refine ⟨⟨h1.other (by simp; omega) _, h2.other (by simp; omega) _, h3.other (by simp; omega) _⟩, ?_, h5.mono fun g o y h => ⟨h.1, hs.piece (fun b hb => hb.1) h.1.1 h.2⟩, h6.mono fun g o y h => hs.endd (fun b hb => hb.1) h, h7.setCell (by simp; omega) _⟩
  have h8 := (h4.stored m (.int .i64 (exch x))).1
  have h9 := mirTo_set (W := W) (H := H) hW (st := r.start) hk
  rw [hx, hm] at h9
  rw [show (some x).getD 0 = x from rfl] at h9
  rw [← h9]
  exact h8
theorem ints_of_own {W : World} {B : Nat} {e : TypeId} {g n cap : Nat} {st : List Int} (h : W.ownsRow B e 1 (.slice (some ⟨g, 0, none⟩) n cap) n (st.map (.int .i64))) (hn : n = st.length) : IsSl IntAt 1 W (.slice (some ⟨g, 0, none⟩) n cap) st := by
  by_cases h0 : st = []
  · exact .inl ⟨h0, _, _, by rw [hn, h0]; rfl⟩
  · refine .inr ⟨g, 0, cap, by rw [hn], h0, by rw [← hn]; exact own_cap h, own_max h, fun i x hx => ?_⟩
    have hi := (List.getElem?_eq_some_iff.1 hx).1
    have h2 := h.cellAt i (by omega)
    rw [List.getElem?_map, hx] at h2
    rw [IntAt, Nat.zero_add, Nat.mul_one]
    exact h2
set_option maxRecDepth 100000 in
set_option maxHeartbeats 4000000 in
theorem mirror_okB (r : RulesD) (vp vs ve : Value) (w : World) (hr : RulesIn w r vp vs ve) (hz : rulesE r = 0) :
    Calls Try.prog 37 #[RulesV r vp vs ve] w (MirOkB r w) := by
  have HCK : Hid (∀ W, Below w.heap.size w W → Calls Try.prog 30 #[RulesV r vp vs ve] W (BelPost (.int .i64 0) W)) := Lib.hid (fun W h => by have := check_any r vp vs ve W (hr.below h (Nat.le_refl _)); rwa [hz] at this)
  have HCL : Hid (∀ W, Below w.heap.size w W → w.heap.size + 2 ≤ W.heap.size → Calls Try.prog 68 #[RulesV r vp vs ve] W (CloneR (fun k => k ≠ w.heap.size + 1) r W)) := Lib.hid (fun W h h2 => cloneR_any (fun k => k ≠ w.heap.size + 1) r vp vs ve W (fun k hk => by omega) ((hr.1.1.mono fun g o x hx => pieceIn_of hx (fun b hb => by omega)).below (pieceIn_keeps _) h (Nat.le_refl _)) (hr.below h (Nat.le_refl _)) (fits_ok hz))
  obtain ⟨W, H, hw, hh, w1, w2, h1, h2, hl, hcs⟩ := ok_nats hz
  obtain ⟨A, hA⟩ : ∃ A : Nat, A = W * H := ⟨_, rfl⟩
  have hlA : A = r.start.length := by rw [hA, hl]
  have hA64 : A ≤ 64 := by rw [hA]; have := Nat.mul_le_mul w2 h2; omega
  have HCS : Hid _ := Lib.hid hcs
  have HPN : Hid (r.pieces.length ≤ 6) := Lib.hid (piecesE_ok (rulesE_ok hz).2.2.2.1).2
  have HAA : Hid _ := Lib.hid hA
  have HLA : Hid _ := Lib.hid hlA
  have HR : Hid _ := Lib.hid hr
  have HZ : Hid _ := Lib.hid hz
  have HWE : Hid (r.width = (W : Int)) := Lib.hid hw
  have HHE : Hid (r.height = (H : Int)) := Lib.hid hh
  obtain ⟨ap, cp, rfl, _, _⟩ := hr.1.1.shape (n := r.pieces.length) rfl
  obtain ⟨sa, cs0, rfl, _, hst⟩ := hr.1.2.1.shape hlA
  obtain ⟨ea, ce, rfl, _, _⟩ := hr.1.2.2.shape (n := r.ends.length) rfl
  have HST : Hid _ := Lib.hid hst
  have HX0 := RBox.alloc (RBox.new w 26 r (.slice ap r.pieces.length cp) (.slice sa A cs0) (.slice ea r.ends.length ce)) (.cells (RulesCells zero0 (.slice none 0 0) (.slice none 0 0) (.slice none 0 0)) 26)
  have HZ0 := RBox.new (w.alloc (.cells (RulesCells r (.slice ap r.pieces.length cp) (.slice sa A cs0) (.slice ea r.ends.length ce)) 26)) 26 zero0 (.slice none 0 0) (.slice none 0 0) (.slice none 0 0)
  have HB0 := Below.alloc (Below.alloc (Below.refl w.heap.size w) (Nat.le_refl _) (.cells (RulesCells r (.slice ap r.pieces.length cp) (.slice sa A cs0) (.slice ea r.ends.length ce)) 26)) (by simp) (.cells (RulesCells zero0 (.slice none 0 0) (.slice none 0 0) (.slice none 0 0)) 26)
  have HX : Hid _ := Lib.hid HX0
  have HZB : Hid _ := Lib.hid HZ0
  have HB : Hid _ := Lib.hid HB0
  unfold RulesV at HCK HCL ⊢
  rw [hw, hh] at HCK HCL ⊢
  clear hz hr HX0 HZ0 HB0 hst hA hlA hl hcs hw hh
  go_enter Try.func37, Try.ntmps37
  go_wp2_with fail
  have hb0 := HB.out
  have hx0 := HX.out
  have hz0 := HZB.out
  unfold RulesCells at hb0 hx0 hz0
  rw [HWE.out, HHE.out] at hb0 hx0 hz0
  go_at_call 30; refine (HCK.out _ hb0).mono ?_; rintro e w3 ⟨rfl, hb⟩
  have hx1 := RBox.below hx0 hb (by simp; omega)
  have hz1 := RBox.below hz0 hb (by simp)
  have HB1 : Hid (Below w.heap.size w w3) := Lib.hid (hb0.trans (hb.mono hb0.size))
  have HS1 : Hid (w.heap.size + 2 ≤ w3.heap.size) := Lib.hid (by have := hb.size; simp at this; omega)
  simp only [World.size_alloc] at hz1
  have HX1 := Lib.hid hx1
  have HZ1 := Lib.hid hz1
  have hxf := hx1.facts
  clear hb hb0 hx0 hz0 hx1 hz1 HB HX HZB
  unfold RFacts BoxR at hxf
  obtain ⟨⟨b0, b1, b2, b3, b4, b5, b6, b7, b8, b9, b10⟩, f0, f1, f2, f3, f4, f5, f6, f7, f8, f9, f10⟩ := hxf
  rw [HWE.out] at b1
  rw [HHE.out] at b2
  go_wp2_with fail
  go_at_call 68; refine (HCL.out _ HB1.out HS1.out).mono ?_; rintro e w4 ⟨vp', gs, cs, ve', rfl, hpi, hen, hown, hb⟩
  obtain ⟨ap2, cp2, rfl, _, _⟩ := hpi.shape rfl
  obtain ⟨ae2, ce2, rfl, _, _⟩ := hen.shape rfl
  rw [← HLA.out] at hown ⊢
  have hs1 := HS1.out
  have hgs := hown.lt gs rfl
  have hgs1 : w.heap.size + 2 ≤ gs := by omega
  have hgs2 : gs < w4.heap.size := hgs.2
  have hAcs : A ≤ cs := own_cap hown
  have HI : Hid (MInv r W H w w4.heap.size gs A cs (.slice ap r.pieces.length cp) (.slice sa A cs0) (.slice ea r.ends.length ce) (.slice ap2 r.pieces.length cp2) (.slice ae2 r.ends.length ce2) 0 (w4.alloc (.cells (RulesCells r (.slice ap2 r.pieces.length cp2) (.slice (some ⟨gs, 0, none⟩) A cs) (.slice ae2 r.ends.length ce2)) 26))) := Lib.hid (by
    have hba := (Below.refl w4.heap.size w4).alloc (Nat.le_refl _) (.cells (RulesCells r (.slice ap2 r.pieces.length cp2) (.slice (some ⟨gs, 0, none⟩) A cs) (.slice ae2 r.ends.length ce2)) 26)
    have hx := HX1.out.below hb (by omega)
    have hz := HZ1.out.below hb (by omega)
    have hx' : w.heap.size < w4.heap.size := (Array.getElem?_eq_some_iff.1 hx).1
    have hz' : w.heap.size + 1 < w4.heap.size := (Array.getElem?_eq_some_iff.1 hz).1
    refine ⟨⟨hx.below hba hx', hz.below hba hz', RBox.new w4 _ r _ _ _⟩, ?_, hpi.mono fun g o x h => ⟨h.1, pieceIn_keeps _ _ _ _ _ _ _ hba (Nat.le_refl _) h.2⟩, hen.mono fun g o x h => ⟨h.1, end_keeps _ _ _ _ _ _ hba (Nat.le_refl _) h.2⟩, (HB1.out.trans (hb.mono HB1.out.size)).trans (hba.mono (HB1.out.trans (hb.mono HB1.out.size)).size)⟩
    rw [mirTo_zero (by rw [← HLA.out, HAA.out])]
    exact (Joins.ownsRow_le hown hs1).alloc _)
  unfold RulesCells at HI
  unfold RulesV
  clear hpi hen hown hb HB1 HS1 HX1 HZ1 hs1 hgs b0 b1 b2 b3 b4 b5 b6 b7 b8 b9 b10 f0 f1 f2 f3 f4 f5 f6 f7 f8 f9 f10 HCK HCL
  have b4 := (HI.out.1.1.facts).1.2.2.2.2.1
  go_wp2_with fail
  go_loopw [6, 7, 8, 9, 21] (fun _ _ _ _ i wr => ∃ k : Nat, k ≤ A ∧ i = .int .i64 (k : Int) ∧ Hid (MInv r W H w w4.heap.size gs A cs (.slice ap r.pieces.length cp) (.slice sa A cs0) (.slice ea r.ends.length ce) (.slice ap2 r.pieces.length cp2) (.slice ae2 r.ends.length ce2) k wr)) (fun _ _ _ _ i _ => A - (intOf i).toNat)
  case atStart => exact ⟨0, by omega, rfl, HI⟩
  case round =>
    clear HI b4
    obtain ⟨k, hk, rfl, hinv⟩ := hrel
    by_cases hlt : k < A
    · obtain ⟨g0, o0, x, rfl, hx, hcx⟩ := HST.out k hlt
      have c0 := cell_keeps hinv.out.2.2.2.2 (Nat.le_refl _) hcx
      rw [Nat.mul_one] at c0
      have HXK : Hid _ := Lib.hid hx
      have hxb := inB_iff.1 (HCS.out x (List.mem_of_getElem? hx))
      have hpn := HPN.out
      have hx1 : 0 ≤ x := hxb.1
      have hx2 : x ≤ 12 := by have := hxb.2; omega
      have hf1 := hinv.out.1.1.facts.1
      have hf3 := hinv.out.1.2.2.facts.1.2.2.2.2.1
      unfold BoxR at hf1
      obtain ⟨b0, b1, b2, _⟩ := hf1
      rw [HWE.out] at b1
      rw [HHE.out] at b2
      clear hx hxb hcx b0 hpn
      obtain ⟨y, hy⟩ : ∃ y : Nat, y = k / W := ⟨_, rfl⟩
      obtain ⟨z, hz⟩ : ∃ z : Nat, z = k % W := ⟨_, rfl⟩
      have hyI : (k : Int) / (W : Int) = (y : Int) := by rw [hy]; norm_cast
      have hzI : (k : Int) % (W : Int) = (z : Int) := by rw [hz]; norm_cast
      have hyH : y < H := by rw [hy]; exact row_lt (by rw [← HAA.out]; exact hlt)
      have hzW : z < W := by rw [hz]; exact Nat.mod_lt _ (by omega)
      obtain ⟨a, ha⟩ : ∃ a : Nat, a = H - 1 := ⟨_, rfl⟩
      obtain ⟨b, hbb⟩ : ∃ b : Nat, b = H - 1 - y := ⟨_, rfl⟩
      obtain ⟨P, hP⟩ : ∃ P : Nat, P = b * W := ⟨_, rfl⟩
      obtain ⟨m, hm⟩ : ∃ m : Nat, m = P + z := ⟨_, rfl⟩
      have HM : Hid (mirSq W H k = m) := Lib.hid (by rw [mirSq, ← hz, ← hy, hm, hP, hbb, Nat.add_comm])
      have hmA : m < A := by
        have h3 := mir_lt (W := W) (H := H) (k := k) (by omega) (by rw [← HAA.out]; exact hlt)
        rw [HM.out, ← HAA.out] at h3; exact h3
      have Q1 : Hid (IntKind.i64.wrap ((H : Int) - 1) = (a : Int)) := Lib.hid (by rw [IntWalk.i64_in _ (by omega)]; omega)
      have Q2 : Hid (IntKind.i64.wrap ((a : Int) - (y : Int)) = (b : Int)) := Lib.hid (by rw [IntWalk.i64_in _ (by omega)]; omega)
      have hPI : (b : Int) * (W : Int) = (P : Int) := by rw [hP, Int.natCast_mul]
      have Q3 : Hid (IntKind.i64.wrap ((b : Int) * (W : Int)) = (P : Int)) := Lib.hid (by rw [hPI, IntWalk.i64_in _ (by omega)])
      have Q4 : Hid (IntKind.i64.wrap ((P : Int) + (z : Int)) = (m : Int)) := Lib.hid (by rw [IntWalk.i64_in _ (by omega)]; omega)
      clear hPI ha hbb hm
      clear hy hz hP
      go_wp2_with fail
      go_quiet (fail)
      have hd := below_drewN (Below.refl wr.heap.size wr) nq
      generalize wr.drewN nq = w5 at hd ⊢
      have HI5 := Lib.hid (hinv.out.below hd)
      have hf1 := HI5.out.1.1.facts.1
      have hf3 := HI5.out.1.2.2.facts.1.2.2.2.2.1
      unfold BoxR at hf1
      obtain ⟨b0, b1, b2, _⟩ := hf1
      rw [HWE.out] at b1
      rw [HHE.out] at b2
      clear hinv hd b0 c0
      go_wp2_with fail
      have KX := exchanged_any x { heap := w5.heap, tape := w5.tape, drawn := w5.drawn + 1, os := w5.os, output := w5.output } hx1 (by omega)
      have hmcs : m < cs := by omega
      have q1 := Q1.out
      have q2 := Q2.out
      have q3 := Q3.out
      have q4 := Q4.out
      go_still_tail 15, (by kernel_rfl)
      still_call KX
      repeat still_step
      refine wpStill_nil ?_
      change wpList _ _ _ _ _ w5.drew
      clear q1 q2 q3 q4 Q1 Q2 Q3 Q4 KX
      have hd : Below w5.heap.size w5 w5.drew := (Below.refl _ _).drew
      generalize w5.drew = w6 at hd ⊢
      have HI6 := Lib.hid (HI5.out.below hd)
      have hfz := HI6.out.2.1.frozenAt m
      obtain ⟨u0, hu0⟩ : ∃ u, w6.cell? ⟨gs, m, none⟩ = some u := by
        have h3 := HI6.out.2.1.cellAt m (by omega)
        rw [h3, List.getElem?_eq_getElem (by simp [mirTo, ← HAA.out, hmA])]
        exact ⟨_, rfl⟩
      have HN6 := Lib.hid (HI6.out.put (x := x) hgs1 hgs2 (by omega) (by rw [← HAA.out]; exact hlt) HXK.out HM.out)
      clear hd HI5 HI6 b1 b2 hf3
      go_wp2_with fail
      go_roundw
      case rel => exact ⟨k + 1, by omega, by go_num, HN6⟩
      case measure => simp [intOf]; omega
    · obtain rfl : A = k := by omega
      have hf3 := hinv.out.1.2.2.facts
      have hf2 := hinv.out.1.2.1.facts
      unfold RFacts BoxR at hf2 hf3
      obtain ⟨⟨b0, b1, b2, b3, b4, b5, b6, b7, b8, b9, b10⟩, _⟩ := hf3
      obtain ⟨⟨z0, z1, z2, z3, z4, z5, z6, z7, z8, z9, z10⟩, y0, y1, y2, y3, y4, y5, y6, y7, y8, y9, y10⟩ := hf2
      go_wp2_with fail
      clear b0 b1 b2 b3 b4 b5 b6 b7 b8 b9 b10 z0 z1 z2 z3 z4 z5 z6 z7 z8 z9 z10 y0 y1 y2 y3 y4 y5 y6 y7 y8 y9 y10
      have HR2 := rbox_fill (r := r) (vp := .slice ap2 r.pieces.length cp2) (vs := .slice (some ⟨gs, 0, none⟩) A cs) (ve := .slice ae2 r.ends.length ce2) hinv.out.1.2.1
      refine bodyPost_ret (results_row_tmp rfl _ _ (w.heap.size + 1) 26 _ (0, 0) _ rfl HR2 Try.underlying26 rfl (by kernel_rfl)) rfl ?_
      have hfo := fill_other wr (w.heap.size + 1) r (.slice ap2 r.pieces.length cp2) (.slice (some ⟨gs, 0, none⟩) A cs) (.slice ae2 r.ends.length ce2)
      have hbl := fill_below hinv.out.2.2.2.2 (b := w.heap.size + 1) (by omega) r (.slice ap2 r.pieces.length cp2) (.slice (some ⟨gs, 0, none⟩) A cs) (.slice ae2 r.ends.length ce2)
      refine ⟨.slice ap2 r.pieces.length cp2, .slice (some ⟨gs, 0, none⟩) A cs, .slice ae2 r.ends.length ce2, rfl, ?_, hbl, gs, A, cs, rfl, by omega⟩
      change RulesIn (fill11 wr (w.heap.size + 1) r (.slice ap2 r.pieces.length cp2) (.slice (some ⟨gs, 0, none⟩) A cs) (.slice ae2 r.ends.length ce2)) (mirD r) _ _ _
      generalize fill11 wr (w.heap.size + 1) r (.slice ap2 r.pieces.length cp2) (.slice (some ⟨gs, 0, none⟩) A cs) (.slice ae2 r.ends.length ce2) = WF at hfo ⊢
      obtain ⟨_, h4, h5, h6, _⟩ := hinv.out
      have hst : Stays (fun b => b ≠ w.heap.size + 1) wr WF := ⟨fun b _ hb => hfo.1 b hb, by rw [hfo.2]; exact Nat.le_refl _⟩
      refine ⟨⟨h5.mono fun g o y h => (hst.piece (fun b hb => hb.2) h.1.2 h.2).plain, ?_, h6.mono fun g o y h => (hst.endd (fun b hb => hb.2) h).2⟩, HR.out.2⟩
      have h8 := ints_of_own (own_keep h4 (hfo.1 gs (by omega))) (by rw [mirTo_length, ← HAA.out])
      rw [show (mirD r).start = mirTo W H r.start A by rw [mirD, HWE.out, HHE.out, HAA.out]; rfl]
      exact h8
theorem mirror_ok (r : RulesD) (vp vs ve : Value) (w : World) (hr : RulesIn w r vp vs ve) (hz : rulesE r = 0) :
    Calls Try.prog 37 #[RulesV r vp vs ve] w (MirOk r w) :=
  (mirror_okB r vp vs ve w hr hz).mono fun _ _ ⟨vp, vs, ve, h1, h2, h3, _⟩ => ⟨vp, vs, ve, h1, h2, h3⟩
end Go.Proofs.Ythbilpgecombiaa
