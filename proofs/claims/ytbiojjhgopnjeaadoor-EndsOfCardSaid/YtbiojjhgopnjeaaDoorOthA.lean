/- Merged by merge.py of the texts Mirror POther. -/
import Derived.Test.YtbiojjhgopnjeaaDoorRulB
import Derived.Laws.ResultCell
import Derived.Test.YtbiojjhgopnjeaaDoorPlcA
namespace Go.Proofs.YtbiojjhgopnjeaaDoor
open Go.ChangeShapes Go.WideShapes Go.ChangeAt Go.RowKit

theorem results_row_tmp {P : Program} {fn : Func} {p u : Tmp} {ty : TypeId} (h : fn.results = #[.cell p ty, .tmp u]) (tmps : Array Value) (w : World) (g : Nat) (t : TypeId) (cs : Array Value) (fr : Nat × Nat) (d : TypeDesc)
    (hp : tmps.getD p undef = .pointer (some ⟨g, 0, none⟩)) (hg : w.heap[g]? = some (.cells cs t fr))
    (hu : P.underlying ty = some d) (hd : (match d with | .struct _ | .array _ _ => true | _ => false) = true) (hi : (P.info? ty).map (·.size) = some cs.size) :
    (results fn tmps).run P w = .ok (.tuple #[.agg cs, tmps.getD u undef]) w := by
  rw [results_cell_tmp h, hp]
  simp [asAddr, run_loadVar_row w g t ty cs fr d hg hu hd hi, Result.andThen]
def MirBad (r : RulesD) (w : World) (e : Ending) (w' : World) : Prop := e = .returned (.tuple #[RulesV zero0 (.slice none 0 0) (.slice none 0 0) (.slice none 0 0), .int .i64 (rulesE r)]) ∧ Below w.heap.size w w'
set_option maxRecDepth 100000 in
set_option maxHeartbeats 4000000 in
theorem mirror_bad (r : RulesD) (vp vs ve : Value) (w : World) (hr : RulesIn w r vp vs ve) (hz : rulesE r ≠ 0) :
    Calls Tryd.prog 21 #[RulesV r vp vs ve] w (MirBad r w) := by
  have HCK : Hid (∀ W, Below w.heap.size w W → Calls Tryd.prog 35 #[RulesV r vp vs ve] W (BelPost (.int .i64 (rulesE r)) W)) := Lib.hid (fun W h => check_any r vp vs ve W (hr.below h (Nat.le_refl _)))
  obtain ⟨ap, cp, rfl, _, _⟩ := hr.1.1.shape (n := r.pieces.length) rfl
  obtain ⟨sa, cs, rfl, _, _⟩ := hr.1.2.1.shape (n := r.start.length) rfl
  obtain ⟨ea, ce, rfl, _, _⟩ := hr.1.2.2.shape (n := r.ends.length) rfl
  obtain ⟨c, hc⟩ : ∃ c : Int, c = rulesE r := ⟨_, rfl⟩
  have HC : Hid _ := Lib.hid hc
  rw [← hc] at HCK hz
  have hne : (c != 0) = true := by simpa using hz
  have HX0 := RBox.alloc (RBox.new w 26 r (.slice ap r.pieces.length cp) (.slice sa r.start.length cs) (.slice ea r.ends.length ce)) (.cells (RulesCells zero0 (.slice none 0 0) (.slice none 0 0) (.slice none 0 0)) 26)
  have HZ0 := RBox.new (w.alloc (.cells (RulesCells r (.slice ap r.pieces.length cp) (.slice sa r.start.length cs) (.slice ea r.ends.length ce)) 26)) 26 zero0 (.slice none 0 0) (.slice none 0 0) (.slice none 0 0)
  have HB0 := Below.alloc (Below.alloc (Below.refl w.heap.size w) (Nat.le_refl _) (.cells (RulesCells r (.slice ap r.pieces.length cp) (.slice sa r.start.length cs) (.slice ea r.ends.length ce)) 26)) (by simp) (.cells (RulesCells zero0 (.slice none 0 0) (.slice none 0 0) (.slice none 0 0)) 26)
  have HX : Hid _ := Lib.hid HX0
  have HZ : Hid _ := Lib.hid HZ0
  have HB : Hid _ := Lib.hid HB0
  unfold RulesV at HCK ⊢
  clear hc hz hr HX0 HZ0 HB0
  go_enter Tryd.func21, Tryd.ntmps21
  go_wp2_with fail
  go_at_call 35; refine (HCK.out _ HB.out).mono ?_; rintro e w1 ⟨rfl, hb⟩
  have HB1 : Hid (Below w.heap.size w w1) := Lib.hid (HB.out.trans (hb.mono HB.out.size))
  have hz1 := HZ.out.below hb (by simp)
  simp only [World.size_alloc] at hz1
  have HZ1 := Lib.hid hz1
  have HZF := hz1.facts
  clear hb HB HZ HX hz1 HCK
  unfold RFacts BoxR at HZF
  obtain ⟨⟨z0, z1, z2, z3, z4, z5, z6, z7, z8, z9, z10⟩, y0, y1, y2, y3, y4, y5, y6, y7, y8, y9, y10⟩ := HZF
  go_wp2_with fail
  have HR2 := rbox_fill (r := zero0) (vp := .slice none 0 0) (vs := .slice none 0 0) (ve := .slice none 0 0) HZ1.out
  refine bodyPost_ret (results_row_tmp rfl _ _ (w.heap.size + 1) 26 _ (0, 0) _ rfl HR2 Tryd.underlying26 rfl (by kernel_rfl)) rfl ?_
  refine ⟨?_, fill_below HB1.out (by omega) zero0 _ _ _⟩
  rw [← HC.out]
  rfl

def MirOk (r : RulesD) (w : World) (e : Ending) (w' : World) : Prop := ∃ vp vs ve, e = .returned (.tuple #[RulesV (mirD r) vp vs ve, .int .i64 0]) ∧ RulesIn w' (mirD r) vp vs ve ∧ Below w.heap.size w w'
/-- The same; and the cells lie in a block of their own. -/
def MirOkB (r : RulesD) (w : World) (e : Ending) (w' : World) : Prop := ∃ vp vs ve, e = .returned (.tuple #[RulesV (mirD r) vp vs ve, .int .i64 0]) ∧ RulesIn w' (mirD r) vp vs ve ∧ Below w.heap.size w w' ∧ ∃ g n c, vs = .slice (some ⟨g, 0, none⟩) n c ∧ w.heap.size ≤ g
/-- Neither the new start's block nor the result's own. -/
def Off (w : World) (gs k : Nat) : Prop := k ≠ gs ∧ k ≠ w.heap.size + 1
def MInv (r : RulesD) (W H : Nat) (w : World) (b3 gs A cs : Nat) (vp vs ve vp' ve' : Value) (k : Nat) (V : World) : Prop :=
  (RBox V w.heap.size 26 r vp vs ve ∧ RBox V (w.heap.size + 1) 26 zero0 (.slice none 0 0) (.slice none 0 0) (.slice none 0 0) ∧ RBox V b3 26 r vp' (.slice (some ⟨gs, 0, none⟩) A cs) ve') ∧
    V.ownsRow (w.heap.size + 2) 3 1 (.slice (some ⟨gs, 0, none⟩) A cs) A ((mirTo W H r.start k).map (.int .i64)) ∧ IsSl (Blk (Off w gs) (PieceIn (Off w gs))) 4 V vp' r.pieces ∧ IsSl (Blk (Off w gs) EndAt) 4 V ve' r.ends ∧ Below w.heap.size w V
theorem MInv.below {r : RulesD} {W H : Nat} {w : World} {b3 gs A cs : Nat} {vp vs ve vp' ve' : Value} {k : Nat} {V V' : World} (h : MInv r W H w b3 gs A cs vp vs ve vp' ve' k V) (hb : Below V.heap.size V V') : MInv r W H w b3 gs A cs vp vs ve vp' ve' k V' := by
  obtain ⟨⟨h1, h2, h3⟩, h4, h5, h6, h7⟩ := h
  exact ⟨⟨h1.below hb (Array.getElem?_eq_some_iff.1 h1).1, h2.below hb (Array.getElem?_eq_some_iff.1 h2).1, h3.below hb (Array.getElem?_eq_some_iff.1 h3).1⟩, own_below h4 hb, h5.mono fun g o x h => ⟨h.1, pieceIn_keeps _ _ _ _ _ _ _ hb (Nat.le_refl _) h.2⟩, h6.mono fun g o x h => ⟨h.1, end_keeps _ _ _ _ _ _ hb (Nat.le_refl _) h.2⟩, h7.trans (hb.mono h7.size)⟩
theorem MInv.put {r : RulesD} {W H : Nat} {w : World} {b3 gs A cs : Nat} {vp vs ve vp' ve' : Value} {k m : Nat} {x : Int} {V : World} (h : MInv r W H w b3 gs A cs vp vs ve vp' ve' k V) (hgs : w.heap.size + 2 ≤ gs) (hb3 : gs < b3) (hW : 0 < W) (hk : k < W * H) (hx : r.start[k]? = some x) (hm : mirSq W H k = m) :
    MInv r W H w b3 gs A cs vp vs ve vp' ve' (k + 1) (V.setCell ⟨gs, m, none⟩ (.int .i64 (exch x))) := by
  obtain ⟨⟨h1, h2, h3⟩, h4, h5, h6, h7⟩ := h
  have hs : Stays (fun b => b ≠ gs) V (V.setCell ⟨gs, m, none⟩ (.int .i64 (exch x))) := (Stays.of (Below.refl _ V)).set (by simp) _
  refine ⟨⟨h1.other (by simp; omega) _, h2.other (by simp; omega) _, h3.other (by simp; omega) _⟩, ?_, h5.mono fun g o y h => ⟨h.1, hs.piece (fun b hb => hb.1) h.1.1 h.2⟩, h6.mono fun g o y h => hs.endd (fun b hb => hb.1) h, h7.setCell (by simp; omega) _⟩
  have h8 := (h4.stored m (.int .i64 (exch x))).1
  have h9 := mirTo_set (W := W) (H := H) hW (st := r.start) hk
  rw [hx, hm] at h9
  rw [show (some x).getD 0 = x from rfl] at h9
  rw [← h9]
  exact h8
theorem ints_of_own {W : World} {B : Nat} {e : TypeId} {g n cap : Nat} {st : List Int} (h : W.ownsRow B e 1 (.slice (some ⟨g, 0, none⟩) n cap) n (st.map (.int .i64))) (hn : n = st.length) : IsSl IntAt 1 W (.slice (some ⟨g, 0, none⟩) n cap) st := by
  by_cases h0 : st = []
  · exact .inl ⟨h0, _, _, by rw [hn, h0]; rfl⟩
  · refine .inr ⟨g, 0, cap, by rw [hn], h0, by rw [← hn]; exact own_cap h, own_max h, fun i x hx => ?_⟩
    have hi := (List.getElem?_eq_some_iff.1 hx).1
    have h2 := h.cellAt i (by omega)
    rw [List.getElem?_map, hx] at h2
    rw [IntAt, Nat.zero_add, Nat.mul_one]
    exact h2
set_option maxRecDepth 100000 in
set_option maxHeartbeats 4000000 in
theorem mirror_okB (r : RulesD) (vp vs ve : Value) (w : World) (hr : RulesIn w r vp vs ve) (hz : rulesE r = 0) :
    Calls Tryd.prog 21 #[RulesV r vp vs ve] w (MirOkB r w) := by
  have HCK : Hid (∀ W, Below w.heap.size w W → Calls Tryd.prog 35 #[RulesV r vp vs ve] W (BelPost (.int .i64 0) W)) := Lib.hid (fun W h => by have := check_any r vp vs ve W (hr.below h (Nat.le_refl _)); rwa [hz] at this)
  have HCL : Hid (∀ W, Below w.heap.size w W → w.heap.size + 2 ≤ W.heap.size → Calls Tryd.prog 46 #[RulesV r vp vs ve] W (CloneR (fun k => k ≠ w.heap.size + 1) r W)) := Lib.hid (fun W h h2 => cloneR_any (fun k => k ≠ w.heap.size + 1) r vp vs ve W (fun k hk => by omega) ((hr.1.1.mono fun g o x hx => pieceIn_of hx (fun b hb => by omega)).below (pieceIn_keeps _) h (Nat.le_refl _)) (hr.below h (Nat.le_refl _)) (fits_ok hz))
  obtain ⟨W, H, hw, hh, w1, w2, h1, h2, hl, hcs⟩ := ok_nats hz
  obtain ⟨A, hA⟩ : ∃ A : Nat, A = W * H := ⟨_, rfl⟩
  have hlA : A = r.start.length := by rw [hA, hl]
  have hA64 : A ≤ 64 := by rw [hA]; have := Nat.mul_le_mul w2 h2; omega
  have HCS : Hid _ := Lib.hid hcs
  have HPN : Hid (r.pieces.length ≤ 6) := Lib.hid (piecesE_ok (rulesE_ok hz).2.2.2.1).2
  have HAA : Hid _ := Lib.hid hA
  have HLA : Hid _ := Lib.hid hlA
  have HR : Hid _ := Lib.hid hr
  have HZ : Hid _ := Lib.hid hz
  have HWE : Hid (r.width = (W : Int)) := Lib.hid hw
  have HHE : Hid (r.height = (H : Int)) := Lib.hid hh
  obtain ⟨ap, cp, rfl, _, _⟩ := hr.1.1.shape (n := r.pieces.length) rfl
  obtain ⟨sa, cs0, rfl, _, hst⟩ := hr.1.2.1.shape hlA
  obtain ⟨ea, ce, rfl, _, _⟩ := hr.1.2.2.shape (n := r.ends.length) rfl
  have HST : Hid _ := Lib.hid hst
  have HX0 := RBox.alloc (RBox.new w 26 r (.slice ap r.pieces.length cp) (.slice sa A cs0) (.slice ea r.ends.length ce)) (.cells (RulesCells zero0 (.slice none 0 0) (.slice none 0 0) (.slice none 0 0)) 26)
  have HZ0 := RBox.new (w.alloc (.cells (RulesCells r (.slice ap r.pieces.length cp) (.slice sa A cs0) (.slice ea r.ends.length ce)) 26)) 26 zero0 (.slice none 0 0) (.slice none 0 0) (.slice none 0 0)
  have HB0 := Below.alloc (Below.alloc (Below.refl w.heap.size w) (Nat.le_refl _) (.cells (RulesCells r (.slice ap r.pieces.length cp) (.slice sa A cs0) (.slice ea r.ends.length ce)) 26)) (by simp) (.cells (RulesCells zero0 (.slice none 0 0) (.slice none 0 0) (.slice none 0 0)) 26)
  have HX : Hid _ := Lib.hid HX0
  have HZB : Hid _ := Lib.hid HZ0
  have HB : Hid _ := Lib.hid HB0
  unfold RulesV at HCK HCL ⊢
  rw [hw, hh] at HCK HCL ⊢
  clear hz hr HX0 HZ0 HB0 hst hA hlA hl hcs hw hh
  go_enter Tryd.func21, Tryd.ntmps21
  go_wp2_with fail
  have hb0 := HB.out
  have hx0 := HX.out
  have hz0 := HZB.out
  unfold RulesCells at hb0 hx0 hz0
  rw [HWE.out, HHE.out] at hb0 hx0 hz0
  go_at_call 35; refine (HCK.out _ hb0).mono ?_; rintro e w3 ⟨rfl, hb⟩
  have hx1 := RBox.below hx0 hb (by simp; omega)
  have hz1 := RBox.below hz0 hb (by simp)
  have HB1 : Hid (Below w.heap.size w w3) := Lib.hid (hb0.trans (hb.mono hb0.size))
  have HS1 : Hid (w.heap.size + 2 ≤ w3.heap.size) := Lib.hid (by have := hb.size; simp at this; omega)
  simp only [World.size_alloc] at hz1
  have HX1 := Lib.hid hx1
  have HZ1 := Lib.hid hz1
  have hxf := hx1.facts
  clear hb hb0 hx0 hz0 hx1 hz1 HB HX HZB
  unfold RFacts BoxR at hxf
  obtain ⟨⟨b0, b1, b2, b3, b4, b5, b6, b7, b8, b9, b10⟩, f0, f1, f2, f3, f4, f5, f6, f7, f8, f9, f10⟩ := hxf
  rw [HWE.out] at b1
  rw [HHE.out] at b2
  go_wp2_with fail
  go_at_call 46; refine (HCL.out _ HB1.out HS1.out).mono ?_; rintro e w4 ⟨vp', gs, cs, ve', rfl, hpi, hen, hown, hb⟩
  obtain ⟨ap2, cp2, rfl, _, _⟩ := hpi.shape rfl
  obtain ⟨ae2, ce2, rfl, _, _⟩ := hen.shape rfl
  rw [← HLA.out] at hown ⊢
  have hs1 := HS1.out
  have hgs := hown.lt gs rfl
  have hgs1 : w.heap.size + 2 ≤ gs := by omega
  have hgs2 : gs < w4.heap.size := hgs.2
  have hAcs : A ≤ cs := own_cap hown
  have HI : Hid (MInv r W H w w4.heap.size gs A cs (.slice ap r.pieces.length cp) (.slice sa A cs0) (.slice ea r.ends.length ce) (.slice ap2 r.pieces.length cp2) (.slice ae2 r.ends.length ce2) 0 (w4.alloc (.cells (RulesCells r (.slice ap2 r.pieces.length cp2) (.slice (some ⟨gs, 0, none⟩) A cs) (.slice ae2 r.ends.length ce2)) 26))) := Lib.hid (by
    have hba := (Below.refl w4.heap.size w4).alloc (Nat.le_refl _) (.cells (RulesCells r (.slice ap2 r.pieces.length cp2) (.slice (some ⟨gs, 0, none⟩) A cs) (.slice ae2 r.ends.length ce2)) 26)
    have hx := HX1.out.below hb (by omega)
    have hz := HZ1.out.below hb (by omega)
    have hx' : w.heap.size < w4.heap.size := (Array.getElem?_eq_some_iff.1 hx).1
    have hz' : w.heap.size + 1 < w4.heap.size := (Array.getElem?_eq_some_iff.1 hz).1
    refine ⟨⟨hx.below hba hx', hz.below hba hz', RBox.new w4 _ r _ _ _⟩, ?_, hpi.mono fun g o x h => ⟨h.1, pieceIn_keeps _ _ _ _ _ _ _ hba (Nat.le_refl _) h.2⟩, hen.mono fun g o x h => ⟨h.1, end_keeps _ _ _ _ _ _ hba (Nat.le_refl _) h.2⟩, (HB1.out.trans (hb.mono HB1.out.size)).trans (hba.mono (HB1.out.trans (hb.mono HB1.out.size)).size)⟩
    rw [mirTo_zero (by rw [← HLA.out, HAA.out])]
    exact (Joins.ownsRow_le hown hs1).alloc _)
  unfold RulesCells at HI
  unfold RulesV
  clear hpi hen hown hb HB1 HS1 HX1 HZ1 hs1 hgs b0 b1 b2 b3 b4 b5 b6 b7 b8 b9 b10 f0 f1 f2 f3 f4 f5 f6 f7 f8 f9 f10 HCK HCL
  have b4 := (HI.out.1.1.facts).1.2.2.2.2.1
  go_wp2_with fail
  go_loopw [6, 7, 8, 9, 21] (fun _ _ _ _ i wr => ∃ k : Nat, k ≤ A ∧ i = .int .i64 (k : Int) ∧ Hid (MInv r W H w w4.heap.size gs A cs (.slice ap r.pieces.length cp) (.slice sa A cs0) (.slice ea r.ends.length ce) (.slice ap2 r.pieces.length cp2) (.slice ae2 r.ends.length ce2) k wr)) (fun _ _ _ _ i _ => A - (intOf i).toNat)
  case atStart => exact ⟨0, by omega, rfl, HI⟩
  case round =>
    clear HI b4
    obtain ⟨k, hk, rfl, hinv⟩ := hrel
    by_cases hlt : k < A
    · obtain ⟨g0, o0, x, rfl, hx, hcx⟩ := HST.out k hlt
      have c0 := cell_keeps hinv.out.2.2.2.2 (Nat.le_refl _) hcx
      rw [Nat.mul_one] at c0
      have HXK : Hid _ := Lib.hid hx
      have hxb := inB_iff.1 (HCS.out x (List.mem_of_getElem? hx))
      have hpn := HPN.out
      have hx1 : 0 ≤ x := hxb.1
      have hx2 : x ≤ 12 := by have := hxb.2; omega
      have hf1 := hinv.out.1.1.facts.1
      have hf3 := hinv.out.1.2.2.facts.1.2.2.2.2.1
      unfold BoxR at hf1
      obtain ⟨b0, b1, b2, _⟩ := hf1
      rw [HWE.out] at b1
      rw [HHE.out] at b2
      clear hx hxb hcx b0 hpn
      obtain ⟨y, hy⟩ : ∃ y : Nat, y = k / W := ⟨_, rfl⟩
      obtain ⟨z, hz⟩ : ∃ z : Nat, z = k % W := ⟨_, rfl⟩
      have hyI : (k : Int) / (W : Int) = (y : Int) := by rw [hy]; norm_cast
      have hzI : (k : Int) % (W : Int) = (z : Int) := by rw [hz]; norm_cast
      have hyH : y < H := by rw [hy]; exact row_lt (by rw [← HAA.out]; exact hlt)
      have hzW : z < W := by rw [hz]; exact Nat.mod_lt _ (by omega)
      obtain ⟨a, ha⟩ : ∃ a : Nat, a = H - 1 := ⟨_, rfl⟩
      obtain ⟨b, hbb⟩ : ∃ b : Nat, b = H - 1 - y := ⟨_, rfl⟩
      obtain ⟨P, hP⟩ : ∃ P : Nat, P = b * W := ⟨_, rfl⟩
      obtain ⟨m, hm⟩ : ∃ m : Nat, m = P + z := ⟨_, rfl⟩
      have HM : Hid (mirSq W H k = m) := Lib.hid (by rw [mirSq, ← hz, ← hy, hm, hP, hbb, Nat.add_comm])
      have hmA : m < A := by
        have h3 := mir_lt (W := W) (H := H) (k := k) (by omega) (by rw [← HAA.out]; exact hlt)
        rw [HM.out, ← HAA.out] at h3; exact h3
      have Q1 : Hid (IntKind.i64.wrap ((H : Int) - 1) = (a : Int)) := Lib.hid (by rw [IntWalk.i64_in _ (by omega)]; omega)
      have Q2 : Hid (IntKind.i64.wrap ((a : Int) - (y : Int)) = (b : Int)) := Lib.hid (by rw [IntWalk.i64_in _ (by omega)]; omega)
      have hPI : (b : Int) * (W : Int) = (P : Int) := by rw [hP, Int.natCast_mul]
      have Q3 : Hid (IntKind.i64.wrap ((b : Int) * (W : Int)) = (P : Int)) := Lib.hid (by rw [hPI, IntWalk.i64_in _ (by omega)])
      have Q4 : Hid (IntKind.i64.wrap ((P : Int) + (z : Int)) = (m : Int)) := Lib.hid (by rw [IntWalk.i64_in _ (by omega)]; omega)
      clear hPI ha hbb hm
      clear hy hz hP
      go_wp2_with fail
      go_quiet (fail)
      have hd := below_drewN (Below.refl wr.heap.size wr) nq
      generalize wr.drewN nq = w5 at hd ⊢
      have HI5 := Lib.hid (hinv.out.below hd)
      have hf1 := HI5.out.1.1.facts.1
      have hf3 := HI5.out.1.2.2.facts.1.2.2.2.2.1
      unfold BoxR at hf1
      obtain ⟨b0, b1, b2, _⟩ := hf1
      rw [HWE.out] at b1
      rw [HHE.out] at b2
      clear hinv hd b0 c0
      go_wp2_with fail
      have KX := exchanged_any x { heap := w5.heap, tape := w5.tape, drawn := w5.drawn + 1, os := w5.os, output := w5.output } hx1 (by omega)
      have hmcs : m < cs := by omega
      have q1 := Q1.out
      have q2 := Q2.out
      have q3 := Q3.out
      have q4 := Q4.out
      go_still_tail 15, (by kernel_rfl)
      still_call KX
      repeat still_step
      refine wpStill_nil ?_
      change wpList _ _ _ _ _ w5.drew
      clear q1 q2 q3 q4 Q1 Q2 Q3 Q4 KX
      have hd : Below w5.heap.size w5 w5.drew := (Below.refl _ _).drew
      generalize w5.drew = w6 at hd ⊢
      have HI6 := Lib.hid (HI5.out.below hd)
      have hfz := HI6.out.2.1.frozenAt m
      obtain ⟨u0, hu0⟩ : ∃ u, w6.cell? ⟨gs, m, none⟩ = some u := by
        have h3 := HI6.out.2.1.cellAt m (by omega)
        rw [h3, List.getElem?_eq_getElem (by simp [mirTo, ← HAA.out, hmA])]
        exact ⟨_, rfl⟩
      have HN6 := Lib.hid (HI6.out.put (x := x) hgs1 hgs2 (by omega) (by rw [← HAA.out]; exact hlt) HXK.out HM.out)
      clear hd HI5 HI6 b1 b2 hf3
      go_wp2_with fail
      go_roundw
      case rel => exact ⟨k + 1, by omega, by go_num, HN6⟩
      case measure => simp [intOf]; omega
    · obtain rfl : A = k := by omega
      have hf3 := hinv.out.1.2.2.facts
      have hf2 := hinv.out.1.2.1.facts
      unfold RFacts BoxR at hf2 hf3
      obtain ⟨⟨b0, b1, b2, b3, b4, b5, b6, b7, b8, b9, b10⟩, _⟩ := hf3
      obtain ⟨⟨z0, z1, z2, z3, z4, z5, z6, z7, z8, z9, z10⟩, y0, y1, y2, y3, y4, y5, y6, y7, y8, y9, y10⟩ := hf2
      go_wp2_with fail
      clear b0 b1 b2 b3 b4 b5 b6 b7 b8 b9 b10 z0 z1 z2 z3 z4 z5 z6 z7 z8 z9 z10 y0 y1 y2 y3 y4 y5 y6 y7 y8 y9 y10
      have HR2 := rbox_fill (r := r) (vp := .slice ap2 r.pieces.length cp2) (vs := .slice (some ⟨gs, 0, none⟩) A cs) (ve := .slice ae2 r.ends.length ce2) hinv.out.1.2.1
      refine bodyPost_ret (results_row_tmp rfl _ _ (w.heap.size + 1) 26 _ (0, 0) _ rfl HR2 Tryd.underlying26 rfl (by kernel_rfl)) rfl ?_
      have hfo := fill_other wr (w.heap.size + 1) r (.slice ap2 r.pieces.length cp2) (.slice (some ⟨gs, 0, none⟩) A cs) (.slice ae2 r.ends.length ce2)
      have hbl := fill_below hinv.out.2.2.2.2 (b := w.heap.size + 1) (by omega) r (.slice ap2 r.pieces.length cp2) (.slice (some ⟨gs, 0, none⟩) A cs) (.slice ae2 r.ends.length ce2)
      refine ⟨.slice ap2 r.pieces.length cp2, .slice (some ⟨gs, 0, none⟩) A cs, .slice ae2 r.ends.length ce2, rfl, ?_, hbl, gs, A, cs, rfl, by omega⟩
      change RulesIn (fill11 wr (w.heap.size + 1) r (.slice ap2 r.pieces.length cp2) (.slice (some ⟨gs, 0, none⟩) A cs) (.slice ae2 r.ends.length ce2)) (mirD r) _ _ _
      generalize fill11 wr (w.heap.size + 1) r (.slice ap2 r.pieces.length cp2) (.slice (some ⟨gs, 0, none⟩) A cs) (.slice ae2 r.ends.length ce2) = WF at hfo ⊢
      obtain ⟨_, h4, h5, h6, _⟩ := hinv.out
      have hst : Stays (fun b => b ≠ w.heap.size + 1) wr WF := ⟨fun b _ hb => hfo.1 b hb, by rw [hfo.2]; exact Nat.le_refl _⟩
      refine ⟨⟨h5.mono fun g o y h => (hst.piece (fun b hb => hb.2) h.1.2 h.2).plain, ?_, h6.mono fun g o y h => (hst.endd (fun b hb => hb.2) h).2⟩, HR.out.2⟩
      have h8 := ints_of_own (own_keep h4 (hfo.1 gs (by omega))) (by rw [mirTo_length, ← HAA.out])
      rw [show (mirD r).start = mirTo W H r.start A by rw [mirD, HWE.out, HHE.out, HAA.out]; rfl]
      exact h8
theorem mirror_ok (r : RulesD) (vp vs ve : Value) (w : World) (hr : RulesIn w r vp vs ve) (hz : rulesE r = 0) :
    Calls Tryd.prog 21 #[RulesV r vp vs ve] w (MirOk r w) :=
  (mirror_okB r vp vs ve w hr hz).mono fun _ _ ⟨vp, vs, ve, h1, h2, h3, _⟩ => ⟨vp, vs, ve, h1, h2, h3⟩
end Go.Proofs.YtbiojjhgopnjeaaDoor

set_option maxRecDepth 100000
namespace Go.Proofs.YtbiojjhgopnjeaaDoor
open Go.ChangeShapes Go.WideShapes Go.ChangeAt Go.RowKit

theorem two_facts {W : World} {b : Nat} {x y : Value} {t : TypeId} (h : W.heap[b]? = some (.cells #[x, y] t (0, 0))) : W.cell? ⟨b, 0, none⟩ = some x ∧ W.cell? ⟨b, 1, none⟩ = some y ∧ W.frozen? ⟨b, 0, none⟩ = false ∧ W.frozen? ⟨b, 1, none⟩ = false := by
  have hc : ∀ i, W.cell? ⟨b, i, none⟩ = (#[x, y] : Array Value)[i]? := fun i => cell_of_row W b i _ t (0, 0) h
  have hf : ∀ i, W.frozen? ⟨b, i, none⟩ = false := fun i => frozen_of_row W b i _ t h
  exact ⟨hc 0, hc 1, hf 0, hf 1⟩
theorem hA_of {w6 w7 : World} {o : Obj} (hb : Below (w6.alloc o).heap.size (w6.alloc o) w7) : w7.heap[w6.heap.size]? = some o := (hb.block _ (by simp)).trans (heap_alloc_new w6 o)
theorem hA_on {b : Nat} {W W' : World} {o : Obj} (h : W.heap[b]? = some o) (hb : Below W.heap.size W W') : W'.heap[b]? = some o := (hb.block _ (Array.getElem?_eq_some_iff.1 h).1).trans h
theorem off_of {g b : Nat} (h : b < g) (V : World) (o i : Nat) (z : Value) : (V.setCell ⟨g, o, none⟩ z).cell? ⟨b, i, none⟩ = V.cell? ⟨b, i, none⟩ := World.cell?_setCell_other _ _ _ _ (fun e => by rw [Addr.mk.injEq] at e; omega)
theorem hA_dr {w5 w6 : World} {o : Obj} (hb : Below (w5.alloc o).drew.heap.size (w5.alloc o).drew w6) : w6.heap[w5.heap.size]? = some o := (hb.block _ (show w5.heap.size < (w5.alloc o).heap.size by simp)).trans (heap_alloc_new w5 o)
/-- What is there behind two slices and a block that holds them. -/
structure TwoEnd (w5 W : World) (b : Nat) (s6 s7 : Value) (xs ys : List Int) : Prop where
  bel : Below w5.heap.size w5 W
  arr : W.heap[b]? = some (.cells #[s6, s7] 27 (0, 0))
  x6 : IsSl (Blk (fun k => w5.heap.size ≤ k) IntAt) 1 W s6 xs
  x7 : IsSl (Blk (fun k => w5.heap.size ≤ k) IntAt) 1 W s7 ys
theorem set2_heap (W : World) (b : Nat) (x y : Value) : (∀ k, k ≠ b → ((W.setCell ⟨b, 0, none⟩ x).setCell ⟨b, 1, none⟩ y).heap[k]? = W.heap[k]?) ∧ ((W.setCell ⟨b, 0, none⟩ x).setCell ⟨b, 1, none⟩ y).heap.size = W.heap.size :=
  ⟨fun k hk => by rw [heap_setCell_other _ _ _ _ hk, heap_setCell_other _ _ _ _ hk], by simp⟩
theorem set2_at {W : World} {b : Nat} {x y u v : Value} {t : TypeId} (h : W.heap[b]? = some (.cells #[u, v] t (0, 0))) : ((W.setCell ⟨b, 0, none⟩ x).setCell ⟨b, 1, none⟩ y).heap[b]? = some (.cells #[x, y] t (0, 0)) := by
  have h0 : (W.setCell ⟨b, 0, none⟩ x).heap[b]? = some (.cells #[x, v] t (0, 0)) := heap_setCell_same _ b 0 _ t x h
  exact heap_setCell_same _ b 1 _ t y h0
theorem twoEnd7 {w5 w6 w7 : World} {s6 s7 : Value} {xs ys : List Int} (hb6 : Below w5.drew.heap.size w5.drew w6) (hb7 : Below w6.heap.size w6 w7) (h6 : IsSl (Blk (fun k => w5.drew.heap.size ≤ k) IntAt) 1 w6 s6 xs) (h7 : IsSl (Blk (fun k => w6.heap.size ≤ k) IntAt) 1 w7 s7 ys) :
    TwoEnd w5 (w7.alloc (.cells #[s6, s7] 27)) w7.heap.size s6 s7 xs ys := by
  have hB6 : Below w5.heap.size w5 w6 := (Below.refl w5.heap.size w5).drew.trans hb6
  have hal := (Below.refl w7.heap.size w7).alloc (Nat.le_refl _) (.cells #[s6, s7] 27)
  have h67 := hb7.trans (hal.mono hb7.size)
  refine ⟨hB6.trans (h67.mono hB6.size), heap_alloc_new w7 _, intBlk_on (fun k _ hk => h67.block k hk) h6, blk_weak (fun k hk => Nat.le_trans hB6.size hk) (intBlk_on (fun k _ hk => hal.block k hk) h7)⟩
theorem twoEnd6 {w5 w6 w7 : World} {s6 s7 : Value} {xs ys : List Int} (hb6 : Below w5.drew.heap.size w5.drew w6) (hb7 : Below (w6.alloc (.cells #[.slice none 0 0, .slice none 0 0] 27)).heap.size (w6.alloc (.cells #[.slice none 0 0, .slice none 0 0] 27)) w7)
    (h6 : IsSl (Blk (fun k => w5.drew.heap.size ≤ k) IntAt) 1 w6 s6 xs) (h7 : IsSl (Blk (fun k => (w6.alloc (.cells #[.slice none 0 0, .slice none 0 0] 27)).heap.size ≤ k) IntAt) 1 w7 s7 ys) :
    TwoEnd w5 ((w7.setCell ⟨w6.heap.size, 0, none⟩ s6).setCell ⟨w6.heap.size, 1, none⟩ s7) w6.heap.size s6 s7 xs ys := by
  have hB6 : Below w5.heap.size w5 w6 := (Below.refl w5.heap.size w5).drew.trans hb6
  have hb67 : Below w6.heap.size w6 w7 := ((Below.refl w6.heap.size w6).alloc (Nat.le_refl _) _).trans (hb7.mono (by simp))
  have hs := set2_heap w7 w6.heap.size s6 s7
  have h67 : Below w6.heap.size w6 ((w7.setCell ⟨w6.heap.size, 0, none⟩ s6).setCell ⟨w6.heap.size, 1, none⟩ s7) := (hb67.setCell (p := ⟨w6.heap.size, 0, none⟩) (Nat.le_refl _) s6).setCell (p := ⟨w6.heap.size, 1, none⟩) (Nat.le_refl _) s7
  refine ⟨hB6.trans (h67.mono hB6.size), set2_at (hA_of hb7), intBlk_on (fun k _ hk => h67.block k hk) h6, blk_weak (fun k hk => ?_) (intBlk_on (fun k hk _ => hs.1 k ?_) h7)⟩
  · rw [World.size_alloc] at hk; have := hB6.size; omega
  · rw [World.size_alloc] at hk; omega
theorem twoEnd5 {w5 w6 w7 : World} {s6 s7 : Value} {xs ys : List Int} (hb6 : Below (w5.alloc (.cells #[.slice none 0 0, .slice none 0 0] 27)).drew.heap.size (w5.alloc (.cells #[.slice none 0 0, .slice none 0 0] 27)).drew w6) (hb7 : Below w6.heap.size w6 w7)
    (h6 : IsSl (Blk (fun k => (w5.alloc (.cells #[.slice none 0 0, .slice none 0 0] 27)).drew.heap.size ≤ k) IntAt) 1 w6 s6 xs) (h7 : IsSl (Blk (fun k => w6.heap.size ≤ k) IntAt) 1 w7 s7 ys) :
    TwoEnd w5 ((w7.setCell ⟨w5.heap.size, 0, none⟩ s6).setCell ⟨w5.heap.size, 1, none⟩ s7) w5.heap.size s6 s7 xs ys := by
  have hB6 : Below w5.heap.size w5 w6 := ((Below.refl w5.heap.size w5).alloc (Nat.le_refl _) _).drew.trans (hb6.mono (show w5.heap.size ≤ (w5.alloc (.cells #[.slice none 0 0, .slice none 0 0] 27)).heap.size by simp))
  have hlt : w5.heap.size < w6.heap.size := by have h : (w5.alloc (.cells #[.slice none 0 0, .slice none 0 0] 27)).heap.size ≤ w6.heap.size := hb6.size; simp at h; omega
  have hs := set2_heap w7 w5.heap.size s6 s7
  have hB7 := hB6.trans (hb7.mono hB6.size)
  refine ⟨(hB7.setCell (p := ⟨w5.heap.size, 0, none⟩) (Nat.le_refl _) s6).setCell (p := ⟨w5.heap.size, 1, none⟩) (Nat.le_refl _) s7, set2_at (hA_on (hA_dr hb6) hb7), blk_weak (fun k hk => ?_) (intBlk_on (fun k hk hl => (hs.1 k ?_).trans (hb7.block k hl)) h6), blk_weak (fun k hk => ?_) (intBlk_on (fun k hk _ => hs.1 k ?_) h7)⟩
  · have h : (w5.alloc (.cells #[.slice none 0 0, .slice none 0 0] 27)).heap.size ≤ k := hk; simp at h; omega
  · have h : (w5.alloc (.cells #[.slice none 0 0, .slice none 0 0] 27)).heap.size ≤ k := hk; simp at h; omega
  · have := hB6.size; omega
  · omega
set_option maxHeartbeats 4000000 in
theorem other_bad (r : RulesD) (p : PlaceD) (vp vs ve vc v0 v1 : Value) (w : World) (hr : RulesIn w r vp vs ve) (hp : PlaceIn w p vc v0 v1) (hz : placeE r p ≠ 0) :
    Calls Tryd.prog 9 #[RulesV r vp vs ve, PlaceV p vc v0 v1] w (PBad (placeE r p) w) := by
  obtain ⟨c, hc⟩ : ∃ c : Int, c = placeE r p := ⟨_, rfl⟩
  have HCK : Hid (∀ W, Below w.heap.size w W → Calls Tryd.prog 17 #[RulesV r vp vs ve, PlaceV p vc v0 v1] W (BelPost (.int .i64 c) W)) := Lib.hid (fun W h => by rw [hc]; exact pcheck_any r p vp vs ve vc v0 v1 W (hr.below h (Nat.le_refl _)) (hp.below h (Nat.le_refl _)))
  rw [← hc] at hz ⊢
  have hne : (c != 0) = true := by simpa using hz
  have hB : Below w.heap.size w (((w.alloc (.cells (RulesCells r vp vs ve) 26)).alloc (.cells (PlaceCells p vc v0 v1) 29)).alloc (.cells (PlaceCells zeroP (.slice none 0 0) (.slice none 0 0) (.slice none 0 0)) 29)) := (((Below.refl _ _).alloc (Nat.le_refl _) _).alloc (by simp) _).alloc (by simp <;> omega) _
  have HB : Hid _ := Lib.hid hB
  have hZ := PBox.new ((w.alloc (.cells (RulesCells r vp vs ve) 26)).alloc (.cells (PlaceCells p vc v0 v1) 29)) 29 zeroP (.slice none 0 0) (.slice none 0 0) (.slice none 0 0)
  have e2 : ((w.alloc (.cells (RulesCells r vp vs ve) 26)).alloc (.cells (PlaceCells p vc v0 v1) 29)).heap.size = w.heap.size + 2 := by simp
  rw [e2] at hZ
  have HZ : Hid _ := Lib.hid hZ
  unfold RulesCells PlaceCells zeroP at HB HZ
  unfold RulesV PlaceV PlaceCells at HCK ⊢
  clear hr hp hc hB hZ e2 hz
  go_enter Tryd.func9, Tryd.ntmps9
  go_wp2_with fail
  go_at_call 17; refine (HCK.out _ HB.out).mono ?_; rintro e w1 ⟨rfl, hb⟩
  have HB1 := Lib.hid (HB.out.trans (hb.mono HB.out.size))
  have hz1 : PBox w1 (w.heap.size + 2) 29 zeroP (.slice none 0 0) (.slice none 0 0) (.slice none 0 0) := PBox.below HZ.out hb (by simp)
  have HZ1 := Lib.hid hz1
  obtain ⟨⟨x0, x1, x2, x3, x4⟩, f0, f1, f2, f3, f4⟩ := hz1.facts
  clear hb HB HZ hz1 HCK
  go_wp2_with fail
  have HR2 := pbox_fill (p := zeroP) (vc := .slice none 0 0) (v0 := .slice none 0 0) (v1 := .slice none 0 0) HZ1.out
  refine bodyPost_ret (results_row_tmp rfl _ _ (w.heap.size + 2) 29 _ (0, 0) _ rfl HR2 Tryd.underlying29 rfl (by kernel_rfl)) rfl ?_
  exact ⟨rfl, fillP_below HB1.out (by omega) zeroP _ _ _⟩

def OtherOk (r : RulesD) (p : PlaceD) (w : World) (e : Ending) (w' : World) : Prop := ∃ vc v0 v1, e = .returned (.tuple #[PlaceV (otherD r p) vc v0 v1, .int .i64 0]) ∧ PlaceIn w' (otherD r p) vc v0 v1 ∧ Below w.heap.size w w'
set_option maxHeartbeats 8000000 in
theorem other_ok (r : RulesD) (p : PlaceD) (vp vs ve vc v0 v1 : Value) (w : World) (hr : RulesIn w r vp vs ve) (hp : PlaceIn w p vc v0 v1) (hok : POkay r p) :
    Calls Tryd.prog 9 #[RulesV r vp vs ve, PlaceV p vc v0 v1] w (OtherOk r p w) := by
  have HCK : Hid (∀ W, Below w.heap.size w W → Calls Tryd.prog 17 #[RulesV r vp vs ve, PlaceV p vc v0 v1] W (BelPost (.int .i64 0) W)) := Lib.hid (fun W h => by
    have h1 := pcheck_any r p vp vs ve vc v0 v1 W (hr.below h (Nat.le_refl _)) (hp.below h (Nat.le_refl _))
    rwa [placeE_iff.2 hok] at h1)
  have HMI : Hid (∀ W, Below w.heap.size w W → Calls Tryd.prog 21 #[RulesV (asStart r p) vp vc ve] W (MirOkB (asStart r p) W)) := Lib.hid (fun W h =>
    mirror_okB (asStart r p) vp vc ve W ⟨⟨(hr.below h (Nat.le_refl _)).1.1, (hp.below h (Nat.le_refl _)).c, (hr.below h (Nat.le_refl _)).1.2.2⟩, hr.2⟩ (asStart_E hok))
  have HC0 : Hid (∀ W, Below w.heap.size w W → Calls Tryd.prog 22 #[v0] W (CloneI p.h0 W)) := Lib.hid (fun W h => clone_ints p.h0 v0 W (hp.below h (Nat.le_refl _)).a (by have := hok.l0; have := (rulesE_ok hok.e).2.2.2.1; have := (piecesE_ok this).2; omega))
  have HC1 : Hid (∀ W, Below w.heap.size w W → Calls Tryd.prog 22 #[v1] W (CloneI p.h1 W)) := Lib.hid (fun W h => clone_ints p.h1 v1 W (hp.below h (Nat.le_refl _)).b (by have := hok.l1; have := (rulesE_ok hok.e).2.2.2.1; have := (piecesE_ok this).2; omega))
  obtain ⟨a0, n0, c0, rfl⟩ := hp.a.form
  obtain ⟨a1, n1, c1, rfl⟩ := hp.b.form
  obtain ⟨ac, nc, cc, rfl⟩ := hp.c.form
  have HT : Hid (0 ≤ p.turn ∧ p.turn ≤ 1) := Lib.hid ⟨hok.t0, hok.t1⟩
  obtain ⟨W1, hW1⟩ : ∃ W1, W1 = ((w.alloc (.cells (RulesCells r vp vs ve) 26)).alloc (.cells (PlaceCells p (.slice ac nc cc) (.slice a0 n0 c0) (.slice a1 n1 c1)) 29)).alloc (.cells (PlaceCells zeroP (.slice none 0 0) (.slice none 0 0) (.slice none 0 0)) 29) := ⟨_, rfl⟩
  have e1 : (w.alloc (.cells (RulesCells r vp vs ve) 26)).heap.size = w.heap.size + 1 := by simp
  have e2 : ((w.alloc (.cells (RulesCells r vp vs ve) 26)).alloc (.cells (PlaceCells p (.slice ac nc cc) (.slice a0 n0 c0) (.slice a1 n1 c1)) 29)).heap.size = w.heap.size + 2 := by simp
  have HB : Hid (Below w.heap.size w W1) := Lib.hid (by rw [hW1]; exact (((Below.refl _ _).alloc (Nat.le_refl _) _).alloc (by simp) _).alloc (by simp <;> omega) _)
  have HZ : Hid (PBox W1 (w.heap.size + 2) 29 zeroP (.slice none 0 0) (.slice none 0 0) (.slice none 0 0)) := Lib.hid (by
    have h := PBox.new ((w.alloc (.cells (RulesCells r vp vs ve) 26)).alloc (.cells (PlaceCells p (.slice ac nc cc) (.slice a0 n0 c0) (.slice a1 n1 c1)) 29)) 29 zeroP (.slice none 0 0) (.slice none 0 0) (.slice none 0 0)
    rw [e2] at h; rw [hW1]; exact h)
  have HX : Hid (PBox W1 (w.heap.size + 1) 29 p (.slice ac nc cc) (.slice a0 n0 c0) (.slice a1 n1 c1)) := Lib.hid (by
    have h := (PBox.new (w.alloc (.cells (RulesCells r vp vs ve) 26)) 29 p (.slice ac nc cc) (.slice a0 n0 c0) (.slice a1 n1 c1)).alloc (.cells (PlaceCells zeroP (.slice none 0 0) (.slice none 0 0) (.slice none 0 0)) 29)
    rw [e1] at h; rw [hW1]; exact h)
  have HY : Hid (RBox W1 w.heap.size 26 r vp vs ve) := Lib.hid (by
    have h := ((RBox.new w 26 r vp vs ve).alloc (.cells (PlaceCells p (.slice ac nc cc) (.slice a0 n0 c0) (.slice a1 n1 c1)) 29)).alloc (.cells (PlaceCells zeroP (.slice none 0 0) (.slice none 0 0) (.slice none 0 0)) 29)
    rw [hW1]; exact h)
  have HW1 : Hid (((w.alloc (.cells #[.string r.name, .int .i64 r.width, .int .i64 r.height, vp, vs, .bool r.falls, .bool r.keeps, ve, .int .i64 r.blocked, .int .i64 r.quiet, .int .i64 r.rep] 26)).alloc (.cells #[.slice ac nc cc, .slice a0 n0 c0, .slice a1 n1 c1, .int .i64 p.turn, .int .i64 p.quiet] 29)).alloc (.cells #[.slice none 0 0, .slice none 0 0, .slice none 0 0, .int .i64 0, .int .i64 0] 29) = W1) := Lib.hid hW1.symm
  unfold RulesV at HCK HMI ⊢
  unfold PlaceV PlaceCells at HCK ⊢
  unfold asStart at HMI
  clear hr hp hW1 e1 e2 hok
  go_enter Tryd.func9, Tryd.ntmps9
  go_wp2_with fail
  rw [HW1.out]
  clear HW1
  go_at_call 17; refine (HCK.out _ HB.out).mono ?_; rintro e w2 ⟨rfl, hb⟩
  have HB2 := Lib.hid (HB.out.trans (hb.mono HB.out.size))
  have HX2 := Lib.hid (HX.out.below hb HX.out.lt)
  have HZ2 := Lib.hid (HZ.out.below hb HZ.out.lt)
  have hy2 := HY.out.below hb (Array.getElem?_eq_some_iff.1 HY.out).1
  have HS2 : Hid (RBox (w2.setCell ⟨w.heap.size, 4, none⟩ (.slice ac nc cc)) w.heap.size 26 r vp (.slice ac nc cc) ve) := Lib.hid (hy2.set4 _)
  have HBS := Lib.hid (HB2.out.setCell (p := ⟨w.heap.size, 4, none⟩) (Nat.le_refl _) (.slice ac nc cc))
  have HXS := Lib.hid (HX2.out.other (a := ⟨w.heap.size, 4, none⟩) (by simp) (.slice ac nc cc))
  have HZS := Lib.hid (HZ2.out.other (a := ⟨w.heap.size, 4, none⟩) (by simp) (.slice ac nc cc))
  obtain ⟨⟨x0, x1, x2, x3, x4⟩, _⟩ := HX2.out.facts
  obtain ⟨⟨_, _, _, _, y4, _⟩, _, _, _, _, g4, _⟩ := hy2.facts
  clear hb HB HX HY HZ HCK HB2 HX2 HZ2 hy2 x1 x2 x3 x4
  go_wp2_with fail
  generalize w2.setCell ⟨w.heap.size, 4, none⟩ (.slice ac nc cc) = w3 at HS2 HBS HXS HZS ⊢
  clear x0 y4 g4
  obtain ⟨⟨y0, y1, y2, y3, y4, y5, y6, y7, y8, y9, y10⟩, -⟩ := HS2.out.facts
  go_wp2_with fail
  go_at_call 21; refine (HMI.out _ HBS.out).mono ?_; rintro e w4 ⟨vp4, vs4, ve4, rfl, hin4, hb, gs4, ns4, cs4, rfl, hgs4⟩
  have hst : IsSl IntAt 1 w4 (.slice (some ⟨gs4, 0, none⟩) ns4 cs4) (otherD r p).cells := hin4.1.2.1
  have HGS : Hid (w.heap.size + 2 < gs4) := Lib.hid (by have := HZS.out.lt; omega)
  clear hgs4
  obtain ⟨ap4, np4, cp4, rfl⟩ := hin4.1.1.form
  obtain ⟨ae4, ne4, ce4, rfl⟩ := hin4.1.2.2.form
  have HST := Lib.hid hst
  have HB4 := Lib.hid (HBS.out.trans (hb.mono HBS.out.size))
  have HX4 := Lib.hid (HXS.out.below hb HXS.out.lt)
  have HZ4 := Lib.hid (HZS.out.below hb HZS.out.lt)
  clear hb hin4 hst HBS HXS HZS HS2 y0 y1 y2 y3 y4 y5 y6 y7 y8 y9 y10 HMI
  unfold RulesV mirD
  dsimp only
  go_wp2_with fail
  obtain ⟨⟨_, h0, h1, _, _⟩, _⟩ := HX4.out.facts
  have hba : Below w4.heap.size w4 (w4.alloc (.cells #[.string r.name, .int .i64 r.width, .int .i64 r.height, .slice ap4 np4 cp4, .slice (some ⟨gs4, 0, none⟩) ns4 cs4, .bool r.falls, .bool r.keeps, .slice ae4 ne4 ce4, .int .i64 r.blocked, .int .i64 r.quiet, .int .i64 r.rep] 26)) := (Below.refl _ _).alloc (Nat.le_refl _) _
  have hm5 : (w4.alloc (.cells #[.string r.name, .int .i64 r.width, .int .i64 r.height, .slice ap4 np4 cp4, .slice (some ⟨gs4, 0, none⟩) ns4 cs4, .bool r.falls, .bool r.keeps, .slice ae4 ne4 ce4, .int .i64 r.blocked, .int .i64 r.quiet, .int .i64 r.rep] 26)).cell? ⟨w4.heap.size, 4, none⟩ = some (.slice (some ⟨gs4, 0, none⟩) ns4 cs4) := by simp
  have HM5 := Lib.hid hm5
  have HB5 := Lib.hid (HB4.out.trans (hba.mono HB4.out.size))
  have HX5 := Lib.hid (HX4.out.below hba HX4.out.lt)
  have HZ5 := Lib.hid (HZ4.out.below hba HZ4.out.lt)
  have HST5 := Lib.hid (HST.out.below int_keeps hba (Nat.le_refl _))
  obtain ⟨⟨_, h0, h1, _, _⟩, _⟩ := HX5.out.facts
  clear hm5 hba HB4 HX4 HZ4 HST
  generalize w4.alloc (.cells #[.string r.name, .int .i64 r.width, .int .i64 r.height, .slice ap4 np4 cp4, .slice (some ⟨gs4, 0, none⟩) ns4 cs4, .bool r.falls, .bool r.keeps, .slice ae4 ne4 ce4, .int .i64 r.blocked, .int .i64 r.quiet, .int .i64 r.rep] 26) = w5 at HM5 HB5 HX5 HZ5 HST5 h0 h1 ⊢
  have hlt : w.heap.size + 1 < w5.heap.size := HX5.out.lt
  have m5 := off_of hlt
  go_region_held3 (fun w' => w'.cell? ⟨w.heap.size + 1, 1, none⟩ = some (.slice a0 n0 c0) ∧ w'.cell? ⟨w.heap.size + 1, 2, none⟩ = some (.slice a1 n1 c1)) (go_keep) (first
    | (go_at_call 22; refine (HC1.out _ (by first | exact HB5.out.drew | exact HB5.out.drew.alloc HB5.out.size _)).mono ?_; rintro e w6 ⟨a6, n6, c6, rfl, hs6, hb6⟩; have hB6 : Below w5.heap.size w5 w6 := (by first | exact (Below.refl w5.heap.size w5).drew.trans hb6 | exact ((Below.refl w5.heap.size w5).drew.alloc (Nat.le_refl _) _).trans (hb6.mono (by simp))); have k0 := cell_keeps hB6 (Nat.le_refl _) h0; have k1 := cell_keeps hB6 (Nat.le_refl _) h1; have m6 := off_of (Nat.lt_of_lt_of_le hlt hB6.size); try (have hA6 : w6.heap[w5.heap.size]? = some (.cells #[.slice none 0 0, .slice none 0 0] 27 (0, 0)) := hA_dr hb6))
    | (go_at_call 22; refine (HC0.out _ (by first | exact HB5.out.trans (hB6.mono HB5.out.size) | exact (HB5.out.trans (hB6.mono HB5.out.size)).alloc (Nat.le_trans HB5.out.size hB6.size) _)).mono ?_; rintro e w7 ⟨a7, n7, c7, rfl, hs7, hb7⟩; have hB67 : Below w6.heap.size w6 w7 := (by first | exact hb7 | exact ((Below.refl w6.heap.size w6).alloc (Nat.le_refl _) _).trans (hb7.mono (by simp))); have hB7 := hB6.trans (hB67.mono hB6.size); have k0 := cell_keeps hB7 (Nat.le_refl _) h0; have k1 := cell_keeps hB7 (Nat.le_refl _) h1; first | (have hA7 := two_facts (hA_on hA6 hb7); obtain ⟨q0, q1, q2, q3⟩ := hA7) | (have hA7 := two_facts (hA_of hb7); obtain ⟨q0, q1, q2, q3⟩ := hA7) | skip))
  all_goals
    first
      | (have hT := twoEnd7 (w5 := w5) hb6 hb7 hs6 hs7; generalize w7.alloc (.cells #[.slice a6 n6 c6, .slice a7 n7 c7] 27) = wf at hT ⊢; generalize w7.heap.size = ab at hT ⊢)
      | (have hT := twoEnd6 (w5 := w5) hb6 hb7 hs6 hs7; generalize (w7.setCell ⟨w6.heap.size, 0, none⟩ (.slice a6 n6 c6)).setCell ⟨w6.heap.size, 1, none⟩ (.slice a7 n7 c7) = wf at hT ⊢; generalize w6.heap.size = ab at hT ⊢)
      | (have hT := twoEnd5 (w5 := w5) hb6 hb7 hs6 hs7; generalize (w7.setCell ⟨w5.heap.size, 0, none⟩ (.slice a6 n6 c6)).setCell ⟨w5.heap.size, 1, none⟩ (.slice a7 n7 c7) = wf at hT ⊢; obtain ⟨ab, hab⟩ : ∃ ab, ab = w5.heap.size := ⟨_, rfl⟩; rw [← hab] at hT ⊢; clear hab)
    obtain ⟨q0', q1', -, -⟩ := two_facts hT.arr
    have HBF : Hid (Below w.heap.size w wf) := Lib.hid (HB5.out.trans (hT.bel.mono HB5.out.size))
    have d4 := cell_keeps hT.bel (Nat.le_refl _) HM5.out
    have hzf := HZ5.out.below hT.bel HZ5.out.lt
    have HZF := Lib.hid hzf
    have HSS := Lib.hid (HST5.out.below int_keeps hT.bel (Nat.le_refl _))
    have HT6 := Lib.hid hT
    obtain ⟨⟨z0, z1, z2, z3, z4⟩, g0, g1, g2, g3, g4⟩ := hzf.facts
    obtain ⟨⟨-, -, -, x3, x4⟩, -⟩ := (HX5.out.below hT.bel HX5.out.lt).facts
    obtain ⟨t0, t1⟩ := HT.out
    have hw5 : Hid (w.heap.size + 2 < w5.heap.size) := Lib.hid HZ5.out.lt
    clear hT hzf
    go_wp2_with fail
    have HR2 := pbox_fill (p := otherD r p) (vc := .slice (some ⟨gs4, 0, none⟩) ns4 cs4) (v0 := .slice a6 n6 c6) (v1 := .slice a7 n7 c7) HZF.out
    refine bodyPost_ret (results_row_tmp rfl _ _ (w.heap.size + 2) 29 _ (0, 0) _ rfl HR2 Tryd.underlying29 rfl (by kernel_rfl)) rfl ?_
    have hfo := fillP_other wf (w.heap.size + 2) (otherD r p) (.slice (some ⟨gs4, 0, none⟩) ns4 cs4) (.slice a6 n6 c6) (.slice a7 n7 c7)
    refine ⟨.slice (some ⟨gs4, 0, none⟩) ns4 cs4, .slice a6 n6 c6, .slice a7 n7 c7, rfl, ⟨?_, ?_, ?_⟩, fillP_below HBF.out (by omega) (otherD r p) _ _ _⟩
    · exact ints_off hfo.1 (blk_of HSS.out (by have := HGS.out; omega))
    · exact ints_off hfo.1 (blk_weak (fun k hk => by have := hw5.out; omega) HT6.out.x6)
    · exact ints_off hfo.1 (blk_weak (fun k hk => by have := hw5.out; omega) HT6.out.x7)
end Go.Proofs.YtbiojjhgopnjeaaDoor
