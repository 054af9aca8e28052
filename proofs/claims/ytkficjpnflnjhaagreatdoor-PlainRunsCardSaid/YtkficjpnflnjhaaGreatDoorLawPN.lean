/- The law PlainRuns: Run plays moves as the reference does. (Written by genlawpn.py.) -/
import Derived.Test.YtkficjpnflnjhaaGreatDoorGmeT
import Derived.Test.YtkficjpnflnjhaaGreatDoorRunR
import Derived.Test.YtkficjpnflnjhaaGreatDoorRefE
import Derived.Test.YtkficjpnflnjhaaGreatDoorRefBegin
import Derived.Test.YtkficjpnflnjhaaGreatDoorPutL
import Derived.Test.YtkficjpnflnjhaaGreatDoorOpenM
import Derived.Deep.AppendLies
set_option maxRecDepth 100000
namespace Go.Proofs.YtkficjpnflnjhaaGreatDoor
open Go.ChangeShapes Go.WideShapes Go.ChangeAt Go.RowKit

theorem bool_of_ne {c : Int} (h : c ≠ 0) : (c != 0) = true := by simpa using h
theorem isSl_take {W : World} {a : Option Addr} {n c m : Nat} {xs : List MoveD} (h : IsSl MoveAt 3 W (.slice a n c) xs) (hn : n = xs.length) (hm : m ≤ n) : IsSl MoveAt 3 W (.slice a m c) (xs.take m) := by
  by_cases h0 : m = 0
  · subst h0; exact .inl ⟨rfl, a, c, rfl⟩
  · rcases h with ⟨rfl, _⟩ | ⟨g, off, cap, e, h1, h2, h3, h4⟩
    · simp at hn; omega
    · simp only [Value.slice.injEq] at e
      obtain ⟨rfl, rfl, rfl⟩ := e
      have hl : (xs.take m).length = m := by rw [List.length_take]; omega
      refine .inr ⟨g, off, c, by rw [hl], fun e => by rw [e] at hl; simp at hl; omega, by rw [hl]; omega, h3, fun i x hx => h4 i x ?_⟩
      have hi := (List.getElem?_eq_some_iff.1 hx).1
      rw [hl] at hi
      rwa [List.getElem?_take, if_pos hi] at hx
theorem errG_step {r : RulesD} {q : PlaceD} {es : List PlaceD} {m : MoveD} {ms : List MoveD} {E : Int} (h : E = errG r (q, es) (m :: ms)) : (resG r q es ≠ 0 ∧ E = 14) ∨ (resG r q es = 0 ∧ legalB r q m = false ∧ E = 13) ∨ (resG r q es = 0 ∧ legalB r q m = true ∧ E = errG r (afterD r q m, es ++ [q]) ms) := by
  by_cases h0 : resG r q es = 0
  · cases hl : legalB r q m
    · exact .inr (.inl ⟨h0, rfl, by rw [h, errG, if_neg (by simpa using h0), if_neg (by rw [hl]; simp)]⟩)
    · exact .inr (.inr ⟨h0, rfl, by rw [h, errG, if_neg (by simpa using h0), if_pos hl]⟩)
  · exact .inl ⟨h0, by rw [h, errG, if_pos (by simpa using h0)]⟩
theorem drop_moreM {ms : List MoveD} {k : Nat} {m : MoveD} (hm : ms[k]? = some m) : ms.drop k = m :: ms.drop (k + 1) := errG_drop hm
theorem take_moreM {ms : List MoveD} {k : Nat} {m : MoveD} (h : ms[k]? = some m) : ms.take (k + 1) = ms.take k ++ [m] := by rw [List.take_add_one, h]; rfl
/-- The row with its first position. -/
theorem prow_first {B : Nat} {w12 : World} {q : PlaceD} {d : Nat → Prop} {ba b0 b1 : Option Addr} {bn bc bn0 bc0 bn1 bc1 : Nat} (hB : B ≤ w12.heap.size) (hq : PlaceF d w12 q (.slice ba bn bc) (.slice b0 bn0 bc0) (.slice b1 bn1 bc1)) :
    PRow B (w12.heap.size + 1) ((w12.alloc (.cells #[.slice ba bn bc, .slice b0 bn0 bc0, .slice b1 bn1 bc1, .int .i64 q.turn, .int .i64 q.quiet] 38)).alloc (.cells #[.slice (some ⟨w12.heap.size, 0, none⟩) 1 1] 56)) ([] ++ [q]) := by
  obtain ⟨A, hA⟩ : ∃ A, A = w12.alloc (.cells #[.slice ba bn bc, .slice b0 bn0 bc0, .slice b1 bn1 bc1, .int .i64 q.turn, .int .i64 q.quiet] 38) := ⟨_, rfl⟩
  have hs : A.heap.size = w12.heap.size + 1 := by rw [hA]; simp
  have hb1 : Below w12.heap.size w12 A := by rw [hA]; exact (Below.refl _ _).alloc (Nat.le_refl _) _
  have hr : A.heap[w12.heap.size]? = some (.cells #[.slice ba bn bc, .slice b0 bn0 bc0, .slice b1 bn1 bc1, .int .i64 q.turn, .int .i64 q.quiet] 38 (0, 0)) := by rw [hA]; exact heap_alloc_new w12 _
  rw [← hA, ← hs]
  have hb2 : Below A.heap.size A (A.alloc (.cells #[.slice (some ⟨w12.heap.size, 0, none⟩) 1 1] 56)) := (Below.refl _ _).alloc (Nat.le_refl _) _
  have hr2 := bkeep hr hb2
  refine ⟨some ⟨w12.heap.size, 0, none⟩, 1, 1, [.slice ba bn bc, .slice b0 bn0 bc0, .slice b1 bn1 bc1, .int .i64 q.turn, .int .i64 q.quiet], heap_alloc_new A _, ⟨rfl, .inr ⟨w12.heap.size, 1, _, rfl, hB, hr2, Nat.le_refl _, by decide, rfl, rfl⟩⟩, fun i p hi => ?_, fun a ha => by cases ha; show w12.heap.size ≠ _; omega⟩
  obtain rfl : i = 0 := by have := (List.getElem?_eq_some_iff.1 hi).1; simp at this; omega
  obtain rfl : q = p := by simpa using hi
  refine ⟨ba, bn, bc, b0, bn0, bc0, b1, bn1, bc1, fun j hj => ?_, hq.lt.on (fun k hk hl => (hb2.block k (by omega)).trans (hb1.block k hl)) (fun k hk => ⟨by omega, fun a ha => by cases ha; show k ≠ w12.heap.size; omega⟩)⟩
  match j, hj with
  | 0, _ => rfl
  | 1, _ => rfl
  | 2, _ => rfl
  | 3, _ => rfl
  | 4, _ => rfl
/-- The row with one more position. -/
theorem PRowV.add {B cb : Nat} {W X w7 : World} {pa : Option Addr} {pn pc : Nat} {ps : List PlaceD} {news : List Value} {q : PlaceD} {gg cap : Nat} {da d0 d1 : Option Addr} {dn dc dn0 dc0 dn1 dc1 : Nat} {N : Nat} (h : PRowV B cb W pa pn pc ps news) (hN : ∀ a, pa = some a → a.block < N) (hcN : cb < N) (hNW : N ≤ W.heap.size) (hX : Below W.heap.size W X)
    (hq : PlaceF (fun k => N ≤ k) W q (.slice da dn dc) (.slice d0 dn0 dc0) (.slice d1 dn1 dc1))
    (hown : w7.ownsRow B 38 5 (.slice (some ⟨gg, 0, none⟩) (ps.length + 1) cap) (ps.length + 1) (news ++ [.slice da dn dc, .slice d0 dn0 dc0, .slice d1 dn1 dc1, .int .i64 q.turn, .int .i64 q.quiet])) (hgrow : X.grownBy w7 (Value.ownBlock (.slice pa pn pc))) (hat : Value.ownBlock (.slice pa pn pc) = some gg ∨ gg = W.heap.size + 1) :
    PRow B cb (w7.setCell ⟨cb, 0, none⟩ (.slice (some ⟨gg, 0, none⟩) (ps.length + 1) cap)) (ps ++ [q]) ∧ (∀ k, k < W.heap.size → k ≠ cb → (∀ a, pa = some a → k ≠ a.block) → (w7.setCell ⟨cb, 0, none⟩ (.slice (some ⟨gg, 0, none⟩) (ps.length + 1) cap)).heap[k]? = W.heap[k]?) ∧ w7.heap[cb]? = W.heap[cb]? := by
  have hob : ∀ k, Value.ownBlock (.slice pa pn pc) = some k → ∃ a, pa = some a ∧ a.block = k := fun k hk => by
    cases pa with
    | none => simp [Value.ownBlock] at hk
    | some a => simp [Value.ownBlock] at hk; exact ⟨a, rfl, hk⟩
  have h7 : ∀ k, k < W.heap.size → (∀ a, pa = some a → k ≠ a.block) → w7.heap[k]? = W.heap[k]? := fun k hk hne => (hgrow.block k (by have := hX.size; omega) (fun e => by
    obtain ⟨a, ha, hb⟩ := hob k e.symm
    exact hne a ha hb.symm)).trans (hX.block k hk)
  have hcb : w7.heap[cb]? = W.heap[cb]? := h7 cb (by omega) (fun a ha => (h.ne a ha).symm)
  have hgc : gg ≠ cb := fun e => by
    rcases hat with h1 | h1
    · obtain ⟨a, ha, hb⟩ := hob gg h1
      exact h.ne a ha (by omega)
    · omega
  have hgg : ∀ k, k < W.heap.size → (∀ a, pa = some a → k ≠ a.block) → k ≠ gg := fun k h1 h2 e => by
    rcases hat with h | h
    · obtain ⟨a, ha, hb⟩ := hob gg h
      exact h2 a ha (by omega)
    · omega
  have h8 : ∀ k, k < W.heap.size → k ≠ cb → (∀ a, pa = some a → k ≠ a.block) → (w7.setCell ⟨cb, 0, none⟩ (.slice (some ⟨gg, 0, none⟩) (ps.length + 1) cap)).heap[k]? = W.heap[k]? := fun k h1 h2 h3 => (heap_setCell_other _ _ _ _ h2).trans (h7 k h1 h3)
  have hnl : news.length = ps.length * 5 := h.own.1
  have hold : ∀ p (u0 u1 u2 : Value), PlaceF (fun k => k ≠ cb ∧ ∀ a, pa = some a → k ≠ a.block) W p u0 u1 u2 → PlaceF (fun k => k ≠ cb ∧ ∀ a, (some ⟨gg, 0, none⟩ : Option Addr) = some a → k ≠ a.block) (w7.setCell ⟨cb, 0, none⟩ (.slice (some ⟨gg, 0, none⟩) (ps.length + 1) cap)) p u0 u1 u2 := fun p u0 u1 u2 hp => hp.lt.on (fun k hk hl => h8 k hl hk.1.1 hk.1.2) (fun k hk => ⟨hk.1.1, fun a ha => by cases ha; exact hgg k hk.2 hk.1.2⟩)
  refine ⟨⟨some ⟨gg, 0, none⟩, ps.length + 1, cap, news ++ [.slice da dn dc, .slice d0 dn0 dc0, .slice d1 dn1 dc1, .int .i64 q.turn, .int .i64 q.quiet], ?_⟩, h8, hcb⟩
  exact
    { cell := heap_setCell_same _ cb 0 _ _ _ (hcb.trans h.cell)
      own := by
        have h1 := own_keep hown (heap_setCell_other w7 ⟨cb, 0, none⟩ gg (.slice (some ⟨gg, 0, none⟩) (ps.length + 1) cap) hgc)
        rw [List.length_append]; exact h1
      row := fun i p hi => by
        by_cases hin : i < ps.length
        · rw [List.getElem?_append_left hin] at hi
          obtain ⟨ca', cn', cc', a0', n0', c0', a1', n1', c1', h1, h2⟩ := h.row i p hi
          exact ⟨ca', cn', cc', a0', n0', c0', a1', n1', c1', fun j hj => by rw [List.getElem?_append_left (by omega)]; exact h1 j hj, hold _ _ _ _ h2⟩
        · have hi2 := (List.getElem?_eq_some_iff.1 hi).1
          simp at hi2
          obtain rfl : i = ps.length := by omega
          rw [List.getElem?_append_right (by omega)] at hi
          simp at hi
          subst hi
          refine ⟨da, dn, dc, d0, dn0, dc0, d1, dn1, dc1, fun j hj => ?_, hold _ _ _ _ (hq.on (fun _ _ _ => rfl) (fun k hk => ⟨by omega, fun a ha => by have := hN a ha; omega⟩))⟩
          rw [List.getElem?_append_right (by omega), hnl, Nat.add_sub_cancel_left]
          match j, hj with
          | 0, _ => rfl
          | 1, _ => rfl
          | 2, _ => rfl
          | 3, _ => rfl
          | 4, _ => rfl
      ne := fun a ha => by cases ha; exact hgc }
set_option maxHeartbeats 16000000 in
theorem plainRuns_full (r : RulesD) (vp vs ve : Value) (xs : List MoveD) (xv : Value) (w : World) (hr : RulesIn w r vp vs ve) (hf : LettersFit r.pieces) (hx : IsSl MoveAt 3 w xv xs) (hT : Dir w) :
    Calls Tryz.prog 5 #[RulesV r vp vs ve, xv] w fun e w' => e = .returned (.bool true) ∧ Below w.heap.size w w' := by
  obtain ⟨i0, hi, hz0, hz1, hz2⟩ := info_parts infoPosG
  obtain ⟨V, hV⟩ : ∃ V, V = w.alloc (.cells (RulesCells r vp vs ve) 26) := ⟨_, rfl⟩
  have hB : Below w.heap.size w V := by rw [hV]; exact (Below.refl _ _).alloc (Nat.le_refl _) _
  have hY : BoxR V w.heap.size r vp vs ve := by rw [hV]; exact boxR_new w r vp vs ve 26
  have HB := Lib.hid hB
  have HVB : Hid (V.heap[w.heap.size]? = some (.cells (RulesCells r vp vs ve) 26 (0, 0))) := Lib.hid (by rw [hV]; exact heap_alloc_new w _)
  have HIR : Hid (∀ W, Below V.heap.size V W → RulesIn W r vp vs ve) := Lib.hid (fun W h => (hr.below hB (Nat.le_refl _)).below h (Nat.le_refl _))
  have HT : Hid (∀ W, Below V.heap.size V W → Dir W) := Lib.hid (fun W h => (hT.below hB (Nat.le_refl _)).below h (Nat.le_refl _))
  have HY : Hid (∀ W, Below V.heap.size V W → BoxR W w.heap.size r vp vs ve) := Lib.hid (fun W hb => hY.below hb (Nat.le_refl _))
  have HXI : Hid (∀ W, Below V.heap.size V W → IsSl MoveAt 3 W xv xs) := Lib.hid (fun W h => (hx.below move_keeps hB (Nat.le_refl _)).below move_keeps h (Nat.le_refl _))
  have HRE : Hid (∀ W, Below V.heap.size V W → Calls Tryz.prog 25 #[RulesV r vp vs ve] W (BelPost (.int .i64 (rulesE r)) W)) := Lib.hid (fun W h => rulesError_any r vp vs ve W (HIR.out W h) hf)
  obtain ⟨n, hn⟩ : ∃ n, n = xs.length := ⟨_, rfl⟩
  obtain ⟨xa, xc, rfl, hxc, -⟩ := hx.shape hn
  have hxm : n ≤ maxLen := by rw [hn]; exact hx.fit
  unfold maxLen at hxm
  obtain ⟨m, hm, hm24, hmn⟩ : ∃ m : Nat, m = min n 24 ∧ m ≤ 24 ∧ m ≤ n := ⟨_, rfl, by omega, by omega⟩
  have hm1 : min (n : Int) 24 = (m : Int) := by omega
  have hm2 : max (m : Int) 0 = (m : Int) := by omega
  obtain ⟨ms, hms⟩ : ∃ ms, ms = xs.take m := ⟨_, rfl⟩
  have HML : Hid (m = ms.length) := Lib.hid (by rw [hms, List.length_take]; omega)
  have HMI : Hid (∀ W, Below V.heap.size V W → IsSl MoveAt 3 W (.slice xa m xc) ms) := Lib.hid (fun W h => by rw [hms]; exact isSl_take (HXI.out W h) hn hmn)
  have HMS : Hid (∀ W, Below V.heap.size V W → ∀ k, k < m → ∃ g o m1 m2 m3, xa = some ⟨g, o, none⟩ ∧ ms[k]? = some (m1, m2, m3) ∧ W.cell? ⟨g, o + k * 3, none⟩ = some (.int .i64 m1) ∧ W.cell? ⟨g, o + k * 3 + 1, none⟩ = some (.int .i64 m2) ∧ W.cell? ⟨g, o + k * 3 + 2, none⟩ = some (.int .i64 m3)) := Lib.hid (fun W h k hk => by
    obtain ⟨a', c', e, _, hls⟩ := (HMI.out W h).shape HML.out
    simp only [Value.slice.injEq] at e
    obtain ⟨rfl, -, rfl⟩ := e
    obtain ⟨g, o, ⟨m1, m2, m3⟩, i1, i2, c0, c1, c2⟩ := hls k hk
    exact ⟨g, o, m1, m2, m3, i1, i2, c0, c1, c2⟩)
  have hmc : m ≤ xc := by omega
  obtain ⟨c, hc⟩ : ∃ c, c = rulesE r := ⟨_, rfl⟩
  obtain ⟨sl, hsl⟩ : ∃ l, l = r.start.length := ⟨_, rfl⟩
  obtain ⟨sa, sn, sc, hvs⟩ := hr.1.2.1.form
  have hsn : sn = sl := by
    obtain ⟨_, _, e1, _, _⟩ := hr.1.2.1.shape hsl
    rw [hvs] at e1
    simp only [Value.slice.injEq] at e1
    omega
  subst hsn
  subst hvs
  have hsb : sn ≤ 9223372036854775807 := by rw [hsl]; exact hr.1.2.1.fit
  have HRZ : Hid (c = 0 → rulesE r = 0) := Lib.hid (fun h => by rw [← hc]; exact h)
  have HRB : Hid (c ≠ 0 → ∀ W, Below V.heap.size V W → Calls Tryz.prog 16 #[RulesV r vp (.slice sa sn sc) ve, .slice xa m xc] W (RunBad c W)) := Lib.hid (fun h W hb => by rw [hc]; exact run_bad r vp (.slice sa sn sc) ve _ W (HIR.out W hb) (by rw [← hc]; exact h))
  have HRG : Hid (c = 0 → ∀ W, Below V.heap.size V W → Calls Tryz.prog 16 #[RulesV r vp (.slice sa sn sc) ve, .slice xa m xc] W (RunPost r ms W)) := Lib.hid (fun h W hb => run_any r ms vp (.slice sa sn sc) ve _ W (HIR.out W hb) (HRZ.out h) (HT.out W hb) (HMI.out W hb) (by have := HML.out; omega))
  rw [← hc] at HRE
  have HBR : Hid (∀ W, Below V.heap.size V W → c = 0 → Calls Tryz.prog 26 #[RulesV r vp (.slice sa sn sc) ve] W (BeginRefF r W)) := Lib.hid (fun W hb h => beginRef_fresh r vp (.slice sa sn sc) ve W (HIR.out W hb) (HRZ.out h))
  have hV' := hV
  unfold RulesCells at hV'
  unfold RulesV at HRB HRG HRE HBR
  unfold RulesV
  clear hr hf hx hT hB hY hn hm hms hc hsl hV
  go_enter Tryz.func5, Tryz.ntmps5
  go_wp2_with fail
  rw [← hV']
  clear hV'
  go_at_call 23; refine (three_law _).mono ?_; rintro e w1 ⟨vp1, vs1, ve1, rfl, hin, hb⟩
  have HB1 := Lib.hid hb
  have HI1 := Lib.hid hin
  clear hb hin
  go_wp2_with fail
  go_at_call 24; refine (put_law _ _).mono ?_; rintro e w2 ⟨rfl, hb⟩
  have HB2 := Lib.hid (HB1.out.trans (hb.mono HB1.out.size))
  have HI2 := Lib.hid (HI1.out.below hb (Nat.le_refl _))
  clear hb HB1 HI1
  go_wp2_with fail
  go_at_call 24; refine (put_law _ _).mono ?_; rintro e w3 ⟨rfl, hb⟩
  have HB3 := Lib.hid (HB2.out.trans (hb.mono HB2.out.size))
  have HI3 := Lib.hid (HI2.out.below hb (Nat.le_refl _))
  clear hb HB2 HI2
  go_wp2_with fail
  go_at_call 24; refine (put_law _ _).mono ?_; rintro e w4 ⟨rfl, hb⟩
  have HB4 := Lib.hid (HB3.out.trans (hb.mono HB3.out.size))
  have HI4 := Lib.hid (HI3.out.below hb (Nat.le_refl _))
  clear hb HB3 HI3
  go_wp2_with fail
  go_at_call 24; refine (put_law _ _).mono ?_; rintro e w5 ⟨rfl, hb⟩
  have HB5 := Lib.hid (HB4.out.trans (hb.mono HB4.out.size))
  have HI5 := Lib.hid (HI4.out.below hb (Nat.le_refl _))
  clear hb HB4 HI4
  go_wp2_with fail
  go_at_call 24; refine (put_law _ _).mono ?_; rintro e w6 ⟨rfl, hb⟩
  have HB6 := Lib.hid (HB5.out.trans (hb.mono HB5.out.size))
  have HI6 := Lib.hid (HI5.out.below hb (Nat.le_refl _))
  clear hb HB5 HI5
  go_wp2_with fail
  have hal := (Below.refl w6.heap.size w6).alloc (Nat.le_refl _) (.cells fiveV 43)
  have hnw := heap_alloc_new w6 (.cells fiveV 43)
  have HB7 := Lib.hid (HB6.out.trans (hal.mono HB6.out.size))
  have HRN := Lib.hid (run_five vp1 vs1 ve1 w6.heap.size _ (HI6.out.below hal (Nat.le_refl _)) (HT.out _ HB7.out) hnw)
  unfold fiveV at HB7 HRN
  clear hal hnw HB6 HI6
  go_at_call 16; refine HRN.out.mono ?_; rintro e w8 ⟨q, hq9, ca, cn, cc, a0, n0, c0, a1, n1, c1, rfl, hpf, hb⟩
  have hcn : cn = 9 := by
    have := hpf.plain.c.shape rfl
    obtain ⟨b, cap, e1, _, _⟩ := this
    simp only [Value.slice.injEq] at e1
    omega
  subst hcn
  have hb8 := HB7.out.trans (hb.mono HB7.out.size)
  have hX := boxP_new w8 q (.slice ca 9 cc) (.slice a0 n0 c0) (.slice a1 n1 c1) 38
  have hal := (Below.refl w8.heap.size w8).alloc (Nat.le_refl _) (.cells (PlaceCells q (.slice ca 9 cc) (.slice a0 n0 c0) (.slice a1 n1 c1)) 38)
  have hlt9 : w8.heap.size < (w8.alloc (.cells (PlaceCells q (.slice ca 9 cc) (.slice a0 n0 c0) (.slice a1 n1 c1)) 38)).heap.size := by simp
  have HB9 := Lib.hid (hb8.trans (hal.mono hb8.size))
  have HX9 : Hid (∀ W, Below (w8.alloc (.cells (PlaceCells q (.slice ca 9 cc) (.slice a0 n0 c0) (.slice a1 n1 c1)) 38)).heap.size (w8.alloc (.cells (PlaceCells q (.slice ca 9 cc) (.slice a0 n0 c0) (.slice a1 n1 c1)) 38)) W → W.cell? ⟨w8.heap.size, 0, none⟩ = some (.slice ca 9 cc)) := Lib.hid (fun W h => (hX.below h (Nat.le_refl _)).1)
  unfold PlaceCells at HB9 HX9 hlt9
  clear hb hb8 hX hal hpf hq9 HB7 HRN
  have x0 := HX9.out _ (Below.refl _ _)
  obtain ⟨y0, y1, y2, y3, y4, y5, y6, y7, y8, y9, y10⟩ := HY.out _ HB9.out
  clear HX9 hlt9
  go_wp2_with fail
  generalize w8.alloc (.cells #[.slice ca 9 cc, .slice a0 n0 c0, .slice a1 n1 c1, .int .i64 q.turn, .int .i64 q.quiet] 38) = w9 at HB9 ⊢
  clear x0 y0 y1 y2 y3 y4 y5 y6 y7 y8 y9 y10
  by_cases hz : c = 0
  · have HRZ0 := Lib.hid (HRZ.out hz)
    have HRG1 := Lib.hid (HRG.out hz)
    have HBR1 := Lib.hid (fun W (h : Below V.heap.size V W) => HBR.out W h hz)
    clear HRB HRG HBR HRZ
    subst hz
    go_at_call 16; refine (HRG1.out _ HB9.out).mono ?_
    obtain ⟨E, hE⟩ : ∃ E, E = errG r (beginD r, []) ms := ⟨_, rfl⟩
    rintro e w10 (⟨hE0, qr, er, hch, ua, un, uc, u0, un0, uc0, u1, un1, uc1, rfl, hpf, hb⟩ | ⟨hE0, rfl, hb⟩)
    · obtain ⟨X0, hX0⟩ : ∃ X, X = resG r qr er := ⟨_, rfl⟩
      have HX0 := Lib.hid hX0
      have HCR := Lib.hid hch
      have HE0 : Hid (errG r (beginD r, []) ms = 0) := Lib.hid hE0
      have hb10 := HB9.out.trans (hb.mono HB9.out.size)
      have hal := (Below.refl w10.heap.size w10).alloc (Nat.le_refl _) (.cells (PlaceCells qr (.slice ua un uc) (.slice u0 un0 uc0) (.slice u1 un1 uc1)) 38)
      have HB11 := Lib.hid (hb10.trans (hal.mono hb10.size))
      have HPB := Lib.hid (PBox.new w10 38 qr (.slice ua un uc) (.slice u0 un0 uc0) (.slice u1 un1 uc1))
      have HPI := Lib.hid (hpf.plain.below hal (Nat.le_refl _))
      rw [← hX0]
      unfold PlaceCells at HB11 HPB HPI
      unfold PBox PlaceCells at HPB
      obtain ⟨y0, y1, y2, y3, y4, y5, y6, y7, y8, y9, y10⟩ := HY.out _ HB11.out
      clear hE0 hX0 hch hb hb10 hal hpf hE
      go_wp2_with fail
      generalize w10.alloc (.cells #[.slice ua un uc, .slice u0 un0 uc0, .slice u1 un1 uc1, .int .i64 qr.turn, .int .i64 qr.quiet] 38) = w11 at HB11 HPB HPI y0 y1 y2 y3 y4 y5 y6 y7 y8 y9 y10 ⊢
      generalize w10.heap.size = pq at HPB ⊢
      go_at_call 25; refine (HRE.out _ HB11.out).mono ?_; rintro e w11' ⟨rfl, hb⟩
      have hb11 := HB11.out.trans (hb.mono HB11.out.size)
      have HB11b := Lib.hid hb11
      have HPBb := Lib.hid (bkeep HPB.out hb)
      have HPIb := Lib.hid (HPI.out.below hb (Nat.le_refl _))
      clear y0 y1 y2 y3 y4 y5 y6 y7 y8 y9 y10
      obtain ⟨y0, y1, y2, y3, y4, y5, y6, y7, y8, y9, y10⟩ := HY.out _ hb11
      clear hb hb11 HB11 HPB HPI HRE
      by_cases hsn : 20 < sn
      · have hsd : decide ((sn : Int) > 20) = true := decide_eq_true (by omega)
        have hsd2 : decide (20 < (sn : Int)) = true := decide_eq_true (by omega)
        have HBE := Lib.hid (HB.out.trans (HB11b.out.mono HB.out.size))
        go_wp2_with fail
        go_ret
        exact ⟨rfl, HBE.out⟩
      · have hsd : decide ((sn : Int) > 20) = false := decide_eq_false (by omega)
        have hsd2 : decide (20 < (sn : Int)) = false := decide_eq_false (by omega)
        go_wp2_with fail
        go_at_call 26; refine (HBR1.out _ HB11b.out).mono ?_; rintro e w12 ⟨ba, bn, bc, b0, bn0, bc0, b1, bn1, bc1, rfl, hpf, hb⟩
        have HB12 := Lib.hid (HB11b.out.trans (hb.mono HB11b.out.size))
        have HPQ : Hid (∀ W, Below w12.heap.size w12 W → W.heap[pq]? = some (.cells #[.slice ua un uc, .slice u0 un0 uc0, .slice u1 un1 uc1, .int .i64 qr.turn, .int .i64 qr.quiet] 38 (0, 0))) := Lib.hid (fun W h => bkeep HPBb.out (hb.trans (h.mono hb.size)))
        have HPIW : Hid (∀ W, Below w12.heap.size w12 W → PlaceIn W qr (.slice ua un uc) (.slice u0 un0 uc0) (.slice u1 un1 uc1)) := Lib.hid (fun W h => (HPIb.out.below hb (Nat.le_refl _)).below h (Nat.le_refl _))
        obtain ⟨qb, hqb⟩ : ∃ q, q = beginD r := ⟨_, rfl⟩
        have HQB := Lib.hid hqb
        rw [← hqb] at hpf
        unfold PlaceV PlaceCells
        rw [← hqb]
        have hrow := prow_first (B := w12.heap.size) (w12 := w12) (Nat.le_refl _) hpf
        have hbr : Below w12.heap.size w12 ((w12.alloc (.cells #[.slice ba bn bc, .slice b0 bn0 bc0, .slice b1 bn1 bc1, .int .i64 qb.turn, .int .i64 qb.quiet] 38)).alloc (.cells #[.slice (some ⟨w12.heap.size, 0, none⟩) 1 1] 56)) := ((Below.refl _ _).alloc (Nat.le_refl _) _).alloc (by simp) _
        have HRW := Lib.hid hrow
        have HBR0 := Lib.hid hbr
        clear hrow hbr hpf hb hqb y0 y1 y2 y3 y4 y5 y6 y7 y8 y9 y10 HPBb HPIb
        go_wp2_with fail
        generalize (w12.alloc (.cells #[.slice ba bn bc, .slice b0 bn0 bc0, .slice b1 bn1 bc1, .int .i64 qb.turn, .int .i64 qb.quiet] 38)).alloc (.cells #[.slice (some ⟨w12.heap.size, 0, none⟩) 1 1] 56) = w13 at HRW HBR0 ⊢
        obtain ⟨cb, hcb⟩ : ∃ cb, cb = w12.heap.size + 1 := ⟨_, rfl⟩
        rw [← hcb] at HRW ⊢
        obtain ⟨B0, hB0⟩ : ∃ B0, B0 = w12.heap.size := ⟨_, rfl⟩
        rw [← hB0] at HRW HBR0
        have HCB : Hid (B0 ≤ cb) := Lib.hid (by omega)
        have HBB := Lib.hid hB0
        have HC0 : Hid (Chain r qb [] (ms.take 0)) := Lib.hid (by rw [HQB.out]; exact Chain.zero r)
        have HEB : Hid (0 = errG r (qb, []) (ms.drop 0)) := Lib.hid (by rw [HQB.out]; exact HE0.out.symm)
        clear hB0 hcb
        go_loopw [15, 16, 17, 81] (fun _ _ _ i wr => ∃ (k : Nat) (q : PlaceD) (es : List PlaceD), k ≤ m ∧ i = .int .i64 (k : Int) ∧ Hid (Below B0 w12 wr) ∧ Hid (PRow B0 cb wr (es ++ [q])) ∧ Hid (Chain r q es (ms.take k)) ∧ Hid (0 = errG r (q, es) (ms.drop k))) (fun _ _ _ i _ => m - (intOf i).toNat)
        case atStart => exact ⟨0, qb, [], by omega, rfl, HBR0, HRW, HC0, HEB⟩
        case round =>
          clear HRW HBR0 HC0 HEB
          obtain ⟨k, q, es, hk, rfl, hbel, hrow, hch, hEE⟩ := hrel
          have HBW0 : Hid (Below w12.heap.size w12 wr) := Lib.hid (by rw [← HBB.out]; exact hbel.out)
          have HBV := Lib.hid (HB12.out.trans (HBW0.out.mono HB12.out.size))
          obtain ⟨hqk, hqs⟩ := hch.out.ok HRZ0.out
          have HQK := Lib.hid hqk
          have HQS := Lib.hid hqs
          obtain ⟨en, hen⟩ : ∃ n, n = es.length := ⟨_, rfl⟩
          have hek : en ≤ k := by rw [hen, hch.out.len, List.length_take]; omega
          have HPL : Hid (en + 1 = (es ++ [q]).length) := Lib.hid (by simp [hen])
          have HEN := Lib.hid hen
          clear hen hqk hqs
          by_cases hlt : k < m
          · obtain ⟨g, o, m1, m2, m3, rfl, hm0, d0, d1, d2⟩ := HMS.out wr HBV.out k hlt
            have hE2 := hEE.out
            rw [drop_moreM hm0] at hE2
            obtain ⟨pa, pn, pc, news, hv⟩ := hrow.out
            obtain ⟨z0, hpn, hat⟩ := hv.nth HPL.out
            subst hpn
            obtain ⟨g2, q', qa, qn, qc, ja, jn, jc, ka, kn, kc, rfl, hcap, hq', ⟨e0, e1, e2, e3, e4⟩, hpi⟩ := hat en (by omega)
            obtain rfl : q = q' := by
              rw [List.getElem?_append_right (by rw [HEN.out]; exact Nat.le_refl _), HEN.out] at hq'
              simpa using hq'
            obtain ⟨U1, hU1⟩ : ∃ U, U = wr.alloc (.cells #[.int .i64 m1, .int .i64 m2, .int .i64 m3] 43) := ⟨_, rfl⟩
            obtain ⟨U, hU⟩ : ∃ U', U' = U1.alloc (.cells #[.slice qa qn qc, .slice ja jn jc, .slice ka kn kc, .int .i64 q.turn, .int .i64 q.quiet] 38) := ⟨_, rfl⟩
            have hb1 : Below wr.heap.size wr U1 := by rw [hU1]; exact (Below.refl _ _).alloc (Nat.le_refl _) _
            have hs1 : U1.heap.size = wr.heap.size + 1 := by rw [hU1]; simp
            have hb2 : Below U1.heap.size U1 U := by rw [hU]; exact (Below.refl _ _).alloc (Nat.le_refl _) _
            have hbu : Below wr.heap.size wr U := hb1.trans (hb2.mono (by omega))
            have hm1' : U1.heap[wr.heap.size]? = some (.cells #[.int .i64 m1, .int .i64 m2, .int .i64 m3] 43 (0, 0)) := by rw [hU1]; exact heap_alloc_new wr _
            have hmbx : U.heap[wr.heap.size]? = some (.cells #[.int .i64 m1, .int .i64 m2, .int .i64 m3] 43 (0, 0)) := bkeep hm1' hb2
            have hnbx : U.heap[wr.heap.size + 1]? = some (.cells #[.slice qa qn qc, .slice ja jn jc, .slice ka kn kc, .int .i64 q.turn, .int .i64 q.quiet] 38 (0, 0)) := by rw [hU, ← hs1]; exact heap_alloc_new U1 _
            have z1 : U1.cell? ⟨cb, 0, none⟩ = some (.slice (some ⟨g2, 0, none⟩) (en + 1) pc) := cell_keeps hb1 (Nat.le_refl _) z0
            have s0 := cell_keeps hb1 (Nat.le_refl _) e0
            have s1 := cell_keeps hb1 (Nat.le_refl _) e1
            have s2 := cell_keeps hb1 (Nat.le_refl _) e2
            have s3 := cell_keeps hb1 (Nat.le_refl _) e3
            have s4 := cell_keeps hb1 (Nat.le_refl _) e4
            have HBU := Lib.hid hbu
            have HBXU : Hid (Below B0 w12 U) := Lib.hid (hbel.out.trans (hbu.mono (by have := hbel.out.size; have := HBB.out; omega)))
            have HVU := Lib.hid (hv.keep hbu)
            have HMX := Lib.hid hmbx
            have HNX := Lib.hid hnbx
            have HLC : Hid (cb < wr.heap.size) := Lib.hid (Array.getElem?_eq_some_iff.1 hv.cell).1
            have HLG : Hid (g2 < wr.heap.size ∧ B0 ≤ g2) := Lib.hid (by have h := hv.own.lt g2 rfl; exact ⟨h.2, h.1⟩)
            have HPU := Lib.hid (hpi.below hbu (Nat.le_refl _))
            have HBVU := Lib.hid (HBV.out.trans (hbu.mono HBV.out.size))
            have HE2 := Lib.hid (errG_step hE2)
            have HM0 := Lib.hid hm0
            have HEL : Hid (es.length ≤ 100) := Lib.hid (by rw [← HEN.out]; omega)
            have HRS := Lib.hid (resultR_any r vp (.slice sa sn sc) ve q es B0 cb w.heap.size U (HY.out _ HBVU.out) (HIR.out _ HBVU.out) HRZ0.out HQK.out HQS.out ⟨_, _, _, _, HVU.out⟩ HEL.out)
            obtain ⟨X, hX⟩ : ∃ X, X = resG r q es := ⟨_, rfl⟩
            rw [← hX] at HRS
            have HX := Lib.hid hX
            clear hE2 hb1 hb2 hbu hm1' hmbx hnbx hv hat hq' hpi hrow hX hm0 hEE hbel z0 e0 e1 e2 e3 e4
            have hU1' := hU1
            rw [hU1] at z1 s0 s1 s2 s3 s4
            rw [hU1] at hU
            clear hU1 hs1
            go_wp2_with fail
            rw [← hU]
            clear hU hU1' z1 s0 s1 s2 s3 s4 d0 d1 d2
            have HLB : Hid (B0 ≤ wr.heap.size) := Lib.hid (by have := HLG.out; omega)
            obtain ⟨mb, hmb⟩ : ∃ mb, mb = wr.heap.size := ⟨_, rfl⟩
            rw [← hmb] at HMX HNX HLC HLG HLB ⊢
            clear hmb HBU HBV HBW0
            go_at_call 27; refine HRS.out.mono ?_; rintro e w20 ⟨rfl, hb⟩
            have HBX20 := Lib.hid (HBXU.out.trans (hb.mono (by have := HBXU.out.size; have := HBB.out; omega)))
            have HBV20 := Lib.hid (HBVU.out.trans (hb.mono HBVU.out.size))
            have HV20 := Lib.hid (HVU.out.keep hb)
            have HMX20 := Lib.hid (bkeep HMX.out hb)
            have HNX20 := Lib.hid (bkeep HNX.out hb)
            have HP20 := Lib.hid (HPU.out.below hb (Nat.le_refl _))
            clear hb HRS HBXU HBVU HVU HMX HNX HPU
            rcases HE2.out with ⟨hx0, hE14⟩ | ⟨hx0, hl0, hE13⟩ | ⟨hx0, hl0, hEn⟩
            · cases hE14
            · cases hE13
            · obtain rfl : X = 0 := by rw [HX.out]; exact hx0
              have HSV : Hid (∀ W : World, (∀ k, k = w.heap.size ∨ k = mb ∨ k = mb + 1 → W.heap[k]? = w20.heap[k]?) → W.cell? ⟨w.heap.size, 0, none⟩ = some (.string r.name) ∧ W.cell? ⟨w.heap.size, 1, none⟩ = some (.int .i64 r.width) ∧ W.cell? ⟨w.heap.size, 2, none⟩ = some (.int .i64 r.height) ∧ W.cell? ⟨w.heap.size, 3, none⟩ = some vp ∧ W.cell? ⟨w.heap.size, 4, none⟩ = some (.slice sa sn sc) ∧ W.cell? ⟨w.heap.size, 5, none⟩ = some (.bool r.falls) ∧ W.cell? ⟨w.heap.size, 6, none⟩ = some (.bool r.keeps) ∧ W.cell? ⟨w.heap.size, 7, none⟩ = some ve ∧ W.cell? ⟨w.heap.size, 8, none⟩ = some (.int .i64 r.blocked) ∧ W.cell? ⟨w.heap.size, 9, none⟩ = some (.int .i64 r.quiet) ∧ W.cell? ⟨w.heap.size, 10, none⟩ = some (.int .i64 r.rep) ∧ W.cell? ⟨mb + 1, 0, none⟩ = some (.slice qa qn qc) ∧ W.cell? ⟨mb + 1, 1, none⟩ = some (.slice ja jn jc) ∧ W.cell? ⟨mb + 1, 2, none⟩ = some (.slice ka kn kc) ∧ W.cell? ⟨mb + 1, 3, none⟩ = some (.int .i64 q.turn) ∧ W.cell? ⟨mb + 1, 4, none⟩ = some (.int .i64 q.quiet) ∧ W.cell? ⟨mb, 0, none⟩ = some (.int .i64 m1) ∧ W.cell? ⟨mb, 1, none⟩ = some (.int .i64 m2) ∧ W.cell? ⟨mb, 2, none⟩ = some (.int .i64 m3)) := Lib.hid (fun W h => by
                have hr11 : ∀ i, W.cell? ⟨w.heap.size, i, none⟩ = w20.cell? ⟨w.heap.size, i, none⟩ := fun i => World.cell?_of_block (h _ (.inl rfl))
                obtain ⟨y0, y1, y2, y3, y4, y5, y6, y7, y8, y9, y10⟩ := HY.out _ HBV20.out
                have hm : ∀ i, W.cell? ⟨mb, i, none⟩ = (#[.int .i64 m1, .int .i64 m2, .int .i64 m3] : Array Value)[i]? := fun i => cell_of_row W _ i _ _ (0, 0) ((h _ (.inr (.inl rfl))).trans HMX20.out)
                have hn : ∀ i, W.cell? ⟨mb + 1, i, none⟩ = (#[.slice qa qn qc, .slice ja jn jc, .slice ka kn kc, .int .i64 q.turn, .int .i64 q.quiet] : Array Value)[i]? := fun i => cell_of_row W _ i _ _ (0, 0) ((h _ (.inr (.inr rfl))).trans HNX20.out)
                exact ⟨(hr11 0).trans y0, (hr11 1).trans y1, (hr11 2).trans y2, (hr11 3).trans y3, (hr11 4).trans y4, (hr11 5).trans y5, (hr11 6).trans y6, (hr11 7).trans y7, (hr11 8).trans y8, (hr11 9).trans y9, (hr11 10).trans y10, hn 0, hn 1, hn 2, hn 3, hn 4, hm 0, hm 1, hm 2⟩)
              have HAL := Lib.hid (allowed_any r q vp (.slice sa sn sc) ve (.slice qa qn qc) (.slice ja jn jc) (.slice ka kn kc) (m1, m2, m3) w20 (HIR.out _ HBV20.out).1 HP20.out HQK.out)
              rw [hl0] at HAL
              obtain ⟨q2, hq2⟩ : ∃ q2, q2 = afterD r q (m1, m2, m3) := ⟨_, rfl⟩
              have HAFT20 : Hid (∀ W, Below w20.heap.size w20 W → Calls Tryz.prog 31 #[RulesV r vp (.slice sa sn sc) ve, PlaceV q (.slice qa qn qc) (.slice ja jn jc) (.slice ka kn kc), moveV (m1, m2, m3)] W (RefAftF q2 W)) := Lib.hid (fun W h => by rw [hq2]; exact refAfterF_any r q vp (.slice sa sn sc) ve _ _ _ (m1, m2, m3) W (HP20.out.below h (Nat.le_refl _)) HQK.out hl0)
              have HC2 : Hid (Chain r q2 (es ++ [q]) (ms.take (k + 1))) := Lib.hid (by rw [take_moreM HM0.out, hq2]; exact hch.out.snoc hx0 hl0)
              have HE2 : Hid (0 = errG r (q2, es ++ [q]) (ms.drop (k + 1))) := Lib.hid (by rw [hq2]; exact hEn)
              unfold RulesV PlaceV PlaceCells moveV at HAL HAFT20
              dsimp only at HAL HAFT20
              obtain ⟨y0, y1, y2, y3, y4, y5, y6, y7, y8, y9, y10, n0', n1', n2', n3', n4', k0', k1', k2'⟩ := HSV.out w20 (fun _ _ => rfl)
              clear hx0 hl0 hEn hq2
              go_wp2_with fail
              go_at_call 30; refine HAL.out.mono ?_; rintro e w21 ⟨rfl, hb⟩
              have HB21 := Lib.hid hb
              obtain ⟨HKS, hKS⟩ : ∃ P : Nat → Prop, P = fun k => k = w.heap.size ∨ k = mb ∨ k = mb + 1 := ⟨_, rfl⟩
              have HKSE := Lib.hid hKS
              have HWL : Hid (w.heap.size < B0) := Lib.hid (by have h1 := HB12.out.size; have h2 := HBB.out; have h3 := (Array.getElem?_eq_some_iff.1 (show V.heap[w.heap.size]? = some _ from HVB.out)).1; omega)
              have HLK : Hid (∀ k, HKS k → k < w21.heap.size) := Lib.hid (fun k h => by
                rw [HKSE.out] at h
                have h1 := HB21.out.size
                have h2 := (Array.getElem?_eq_some_iff.1 HNX20.out).1
                have h3 := HWL.out
                have h4 := HLB.out
                omega)
              have HKN : Hid (∀ k, HKS k → k ≠ cb ∧ k ≠ g2) := Lib.hid (fun k h => by
                rw [HKSE.out] at h
                have h3 := HWL.out
                have h4 := HLC.out
                have h5 := HLG.out
                have h6 := HCB.out
                omega)
              have HSW : Hid (∀ W : World, (∀ k, HKS k → W.heap[k]? = w21.heap[k]?) → W.cell? ⟨w.heap.size, 0, none⟩ = some (.string r.name) ∧ W.cell? ⟨w.heap.size, 1, none⟩ = some (.int .i64 r.width) ∧ W.cell? ⟨w.heap.size, 2, none⟩ = some (.int .i64 r.height) ∧ W.cell? ⟨w.heap.size, 3, none⟩ = some vp ∧ W.cell? ⟨w.heap.size, 4, none⟩ = some (.slice sa sn sc) ∧ W.cell? ⟨w.heap.size, 5, none⟩ = some (.bool r.falls) ∧ W.cell? ⟨w.heap.size, 6, none⟩ = some (.bool r.keeps) ∧ W.cell? ⟨w.heap.size, 7, none⟩ = some ve ∧ W.cell? ⟨w.heap.size, 8, none⟩ = some (.int .i64 r.blocked) ∧ W.cell? ⟨w.heap.size, 9, none⟩ = some (.int .i64 r.quiet) ∧ W.cell? ⟨w.heap.size, 10, none⟩ = some (.int .i64 r.rep) ∧ W.cell? ⟨mb + 1, 0, none⟩ = some (.slice qa qn qc) ∧ W.cell? ⟨mb + 1, 1, none⟩ = some (.slice ja jn jc) ∧ W.cell? ⟨mb + 1, 2, none⟩ = some (.slice ka kn kc) ∧ W.cell? ⟨mb + 1, 3, none⟩ = some (.int .i64 q.turn) ∧ W.cell? ⟨mb + 1, 4, none⟩ = some (.int .i64 q.quiet) ∧ W.cell? ⟨mb, 0, none⟩ = some (.int .i64 m1) ∧ W.cell? ⟨mb, 1, none⟩ = some (.int .i64 m2) ∧ W.cell? ⟨mb, 2, none⟩ = some (.int .i64 m3)) := Lib.hid (fun W h => HSV.out W (fun k hk => (h k (by rw [HKSE.out]; exact hk)).trans (HB21.out.block k (by
                have h2 := (Array.getElem?_eq_some_iff.1 HNX20.out).1
                have h3 := HWL.out
                have h4 := HLB.out
                omega))))
              have HAFT := Lib.hid (fun W (h : Below w21.heap.size w21 W) => HAFT20.out W (HB21.out.trans (h.mono HB21.out.size)))
              have HV21 := Lib.hid (HV20.out.keep hb)
              have HBX := Lib.hid (HBX20.out.trans (hb.mono (by have := HBX20.out.size; have := HBB.out; omega)))
              have HB0 : Hid (B0 ≤ w21.heap.size) := Lib.hid (by have := HBX.out.size; have := HBB.out; omega)
              have HRL : Hid (∀ a, (some ⟨g2, 0, none⟩ : Option Addr) = some a → a.block < w21.heap.size) := Lib.hid (fun a ha => by cases ha; have h1 := HLG.out; have h2 := (Array.getElem?_eq_some_iff.1 HNX20.out).1; have h3 := HB21.out.size; show g2 < _; omega)
              have HCL : Hid (cb < w21.heap.size) := Lib.hid (by have h1 := HLC.out; have h2 := (Array.getElem?_eq_some_iff.1 HNX20.out).1; have h3 := HB21.out.size; omega)
              clear hb HAL HAFT20 HSV hKS y0 y1 y2 y3 y4 y5 y6 y7 y8 y9 y10 n0' n1' n2' n3' n4' k0' k1' k2'
              obtain ⟨y0, y1, y2, y3, y4, y5, y6, y7, y8, y9, y10, n0', n1', n2', n3', n4', k0', k1', k2'⟩ := HSW.out w21 (fun _ _ => rfl)
              have z0 : w21.cell? ⟨cb, 0, none⟩ = some (.slice (some ⟨g2, 0, none⟩) (en + 1) pc) := (HV21.out.nth HPL.out).1
              have z0d : w21.drew.cell? ⟨cb, 0, none⟩ = some (.slice (some ⟨g2, 0, none⟩) (en + 1) pc) := z0
              go_wp2_with fail
              refine wp_region_held_drew (S := fun (w' : World) => w'.cell? ⟨w.heap.size, 0, none⟩ = some (.string r.name) ∧ w'.cell? ⟨w.heap.size, 1, none⟩ = some (.int .i64 r.width) ∧ w'.cell? ⟨w.heap.size, 2, none⟩ = some (.int .i64 r.height) ∧ w'.cell? ⟨w.heap.size, 3, none⟩ = some vp ∧ w'.cell? ⟨w.heap.size, 4, none⟩ = some (.slice sa sn sc) ∧ w'.cell? ⟨w.heap.size, 5, none⟩ = some (.bool r.falls) ∧ w'.cell? ⟨w.heap.size, 6, none⟩ = some (.bool r.keeps) ∧ w'.cell? ⟨w.heap.size, 7, none⟩ = some ve ∧ w'.cell? ⟨w.heap.size, 8, none⟩ = some (.int .i64 r.blocked) ∧ w'.cell? ⟨w.heap.size, 9, none⟩ = some (.int .i64 r.quiet) ∧ w'.cell? ⟨w.heap.size, 10, none⟩ = some (.int .i64 r.rep) ∧ w'.cell? ⟨mb + 1, 0, none⟩ = some (.slice qa qn qc) ∧ w'.cell? ⟨mb + 1, 1, none⟩ = some (.slice ja jn jc) ∧ w'.cell? ⟨mb + 1, 2, none⟩ = some (.slice ka kn kc) ∧ w'.cell? ⟨mb + 1, 3, none⟩ = some (.int .i64 q.turn) ∧ w'.cell? ⟨mb + 1, 4, none⟩ = some (.int .i64 q.quiet) ∧ w'.cell? ⟨mb, 0, none⟩ = some (.int .i64 m1) ∧ w'.cell? ⟨mb, 1, none⟩ = some (.int .i64 m2) ∧ w'.cell? ⟨mb, 2, none⟩ = some (.int .i64 m3)) (by kernel_rfl) ?_ (fun hHeld => ?_)
              · exact HSW.out _ (fun _ _ => rfl)
              refine wpAnyH_take (i := 1) (v := ?_) rfl (by kernel_rfl) (by kernel_rfl) (by kernel_rfl) (fun _ _ _ h => h) (Or.inl ⟨by rfl, ?_⟩) (by assumption) ?_
              rotate_left
              · intro w hSw
                (try dsimp only at hSw)
                go_simp
                all_goals with_reducible rfl
              simp only [Act.put, List.setIfInBounds_toArray, List.set_cons_zero, List.set_cons_succ, List.getElem_toArray, List.getElem_cons_zero, List.getElem_cons_succ]
              refine wpAnyH_take (i := 2) (v := ?_) rfl (by kernel_rfl) (by kernel_rfl) (by kernel_rfl) (fun _ _ _ h => h) (Or.inl ⟨by rfl, ?_⟩) (by assumption) ?_
              rotate_left
              · intro w hSw
                (try dsimp only at hSw)
                go_simp
                all_goals with_reducible rfl
              simp only [Act.put, List.setIfInBounds_toArray, List.set_cons_zero, List.set_cons_succ, List.getElem_toArray, List.getElem_cons_zero, List.getElem_cons_succ]
              refine wpAnyH_take (i := 3) (v := ?_) rfl (by kernel_rfl) (by kernel_rfl) (by kernel_rfl) (fun _ _ _ h => h) (Or.inl ⟨by rfl, ?_⟩) (by assumption) ?_
              rotate_left
              · intro w hSw
                (try dsimp only at hSw)
                go_simp
                all_goals with_reducible rfl
              simp only [Act.put, List.setIfInBounds_toArray, List.set_cons_zero, List.set_cons_succ, List.getElem_toArray, List.getElem_cons_zero, List.getElem_cons_succ]
              refine wpAnyH_ready (rs := [0, 4]) (by kernel_rfl) (by simp) (AllReadyH.cons rfl (fun K hK => ?_) (AllReadyH.cons rfl (fun K hK => ?_) AllReadyH.nil))
              · go_simp
                refine hK.out _ _ ?_ (fun hHeld => ?_)
                · exact HSW.out _ (fun _ _ => rfl)
                clear hK K
                try simp only [Act.put, List.setIfInBounds_toArray, List.set_cons_zero, List.set_cons_succ, List.getElem_toArray, List.getElem_cons_zero]
                refine wpAnyH_ready (rs := [4]) (by kernel_rfl) (by simp) (AllReadyH.cons rfl (fun K hK => ?_) AllReadyH.nil)
                go_simp
                go_at_call 31; refine (HAFT.out _ (Below.refl _ _).drew).mono ?_; rintro e w22 ⟨da, dn, dc, d0, dn0, dc0, d1, dn1, dc1, rfl, hpf, hb⟩
                have hb22 : Below w21.heap.size w21 w22 := (Below.refl w21.heap.size w21).drew.trans hb
                have hv22 := HV21.out.keep hb22
                have z22 : w22.cell? ⟨cb, 0, none⟩ = some (.slice (some ⟨g2, 0, none⟩) (en + 1) pc) := (hv22.nth HPL.out).1
                have z22a : (w22.alloc (.cells #[.slice da dn dc, .slice d0 dn0 dc0, .slice d1 dn1 dc1, .int .i64 q2.turn, .int .i64 q2.quiet] 38)).cell? ⟨cb, 0, none⟩ = some (.slice (some ⟨g2, 0, none⟩) (en + 1) pc) := Lib.cell?_alloc_some _ z22
                refine hK.out _ _ ?_ (fun hHeld => ?_)
                · exact HSW.out _ (fun k hk => hb22.block k (HLK.out k hk))
                clear hK K
                try simp only [Act.put, List.setIfInBounds_toArray, List.set_cons_zero, List.set_cons_succ, List.getElem_toArray, List.getElem_cons_zero, List.getElem_cons_succ]
                refine wpAnyH_ready (rs := [5]) (by kernel_rfl) (by simp) (AllReadyH.cons rfl (fun K hK => ?_) AllReadyH.nil)
                go_simp
                refine hK.out _ _ ?_ (fun hHeld => ?_)
                · exact HSW.out _ (fun k hk => (Below.heap_alloc w22 _ k (Nat.lt_of_lt_of_le (HLK.out k hk) hb22.size)).trans (hb22.block k (HLK.out k hk)))
                clear hK K
                try simp only [Act.put, List.setIfInBounds_toArray, List.set_cons_zero, List.set_cons_succ, List.getElem_toArray, List.getElem_cons_zero, List.getElem_cons_succ]
                refine wpAnyH_ready (rs := [6]) (by kernel_rfl) (by simp) (AllReadyH.cons rfl (fun K hK => ?_) AllReadyH.nil)
                refine step_append_lies _ (by rfl) _ _ _ (by rfl) B0 38 i0 _ 5 88 Tryz.underlying56 hi hz0 hz1 hz2 rfl (by omega) (.slice (some ⟨g2, 0, none⟩) (en + 1) pc) (en + 1) news (by rfl) (by have h := hv22.own; rw [← HPL.out] at h; exact (own_below h (Below.refl _ _)).alloc _) ⟨w22.heap.size, 0, none⟩ 1 1 [.slice da dn dc, .slice d0 dn0 dc0, .slice d1 dn1 dc1, .int .i64 q2.turn, .int .i64 q2.quiet] (by rfl) (by rfl) (World.news_of_block (cs := #[.slice da dn dc, .slice d0 dn0 dc0, .slice d1 dn1 dc1, .int .i64 q2.turn, .int .i64 q2.quiet]) (t := 38) (fr := (0, 0)) (heap_alloc_new w22 _)) (by simp [Value.oneCell']) (by omega) (by unfold maxLen; omega) (by omega) (by have := hb22.size; have := HB0.out; simp; omega) (w22.heap.size + 1) (by simp) ?_
                intro gg cap w7 hown7 hgrow7 hat7 hlt7
                have hadd := PRowV.add (q := q2) hv22 (N := w21.heap.size) HRL.out HCL.out hb22.size ((Below.refl w22.heap.size w22).alloc (Nat.le_refl _) (.cells #[.slice da dn dc, .slice d0 dn0 dc0, .slice d1 dn1 dc1, .int .i64 q2.turn, .int .i64 q2.quiet] 38)) (hpf.on (fun _ _ _ => rfl) (fun k hk => hk)) (by have h := hown7; rw [HPL.out] at h; exact h) hgrow7 hat7
                rw [← HPL.out] at hadd
                have z7 : w7.cell? ⟨cb, 0, none⟩ = some (.slice (some ⟨g2, 0, none⟩) (en + 1) pc) := cell_of_row w7 cb 0 _ _ (0, 0) (hadd.2.2.trans hv22.cell)
                have f7 : w7.frozen? ⟨cb, 0, none⟩ = false := frozen_of_row w7 cb 0 _ _ (hadd.2.2.trans hv22.cell)
                have hk7 : ∀ k, HKS k → w7.heap[k]? = w21.heap[k]? := fun k hk => (hgrow7.block k (by have := HLK.out k hk; have := hb22.size; simp; omega) (fun e => (HKN.out k hk).2 (by simpa [Value.ownBlock] using e))).trans ((Below.heap_alloc w22 _ k (Nat.lt_of_lt_of_le (HLK.out k hk) hb22.size)).trans (hb22.block k (HLK.out k hk)))
                refine hK.out _ _ ?_ (fun hHeld => ?_)
                · exact HSW.out _ hk7
                clear hK K
                try simp only [Act.put, List.setIfInBounds_toArray, List.set_cons_zero, List.set_cons_succ, List.getElem_toArray, List.getElem_cons_zero, List.getElem_cons_succ]
                refine wpAnyH_ready (rs := [7]) (by kernel_rfl) (by simp) (AllReadyH.cons rfl (fun K hK => ?_) AllReadyH.nil)
                go_simp
                refine hK.out _ _ ?_ (fun hHeld => ?_)
                · exact HSW.out _ (fun k hk => (heap_setCell_other _ _ _ _ (HKN.out k hk).1).trans (hk7 k hk))
                clear hK K
                try simp only [Act.put, List.setIfInBounds_toArray, List.set_cons_zero, List.set_cons_succ, List.getElem_toArray, List.getElem_cons_zero, List.getElem_cons_succ]
                refine wpAnyH_done (by kernel_rfl) ?_ _
                have HR2 := Lib.hid hadd.1
                have HB2 : Hid (Below B0 w12 (w7.setCell ⟨cb, 0, none⟩ (.slice (some ⟨gg, 0, none⟩) (en + 1 + 1) cap))) := Lib.hid ((((HBX.out.trans (hb22.mono HB0.out)).alloc (by have := HBX.out.size; have := hb22.size; have := HB0.out; omega) (.cells #[.slice da dn dc, .slice d0 dn0 dc0, .slice d1 dn1 dc1, .int .i64 q2.turn, .int .i64 q2.quiet] 38)).grown hgrow7 (by have := HBX.out.size; have := hb22.size; have := HB0.out; simp; omega) (fun k e => (hv22.own.lt k e).1)).setCell HCB.out _)
                clear hadd z7 f7 hk7 hown7 hgrow7 hat7 hlt7 z22 z22a hv22 hb22 hpf hb
                go_wp2_with fail
                generalize w7.setCell ⟨cb, 0, none⟩ (.slice (some ⟨gg, 0, none⟩) (en + 1 + 1) cap) = w8' at HR2 HB2 ⊢
                go_roundw
                case rel => exact ⟨k + 1, q2, es ++ [q], by omega, by go_num, HB2, HR2, HC2, HE2⟩
                case measure => simp [intOf]; omega
              · go_simp
                go_at_call 31; refine (HAFT.out _ (Below.refl _ _).drew).mono ?_; rintro e w22 ⟨da, dn, dc, d0, dn0, dc0, d1, dn1, dc1, rfl, hpf, hb⟩
                have hb22 : Below w21.heap.size w21 w22 := (Below.refl w21.heap.size w21).drew.trans hb
                have hv22 := HV21.out.keep hb22
                have z22 : w22.cell? ⟨cb, 0, none⟩ = some (.slice (some ⟨g2, 0, none⟩) (en + 1) pc) := (hv22.nth HPL.out).1
                have z22a : (w22.alloc (.cells #[.slice da dn dc, .slice d0 dn0 dc0, .slice d1 dn1 dc1, .int .i64 q2.turn, .int .i64 q2.quiet] 38)).cell? ⟨cb, 0, none⟩ = some (.slice (some ⟨g2, 0, none⟩) (en + 1) pc) := Lib.cell?_alloc_some _ z22
                refine hK.out _ _ ?_ (fun hHeld => ?_)
                · exact HSW.out _ (fun k hk => hb22.block k (HLK.out k hk))
                clear hK K
                try simp only [Act.put, List.setIfInBounds_toArray, List.set_cons_zero, List.set_cons_succ, List.getElem_toArray, List.getElem_cons_zero, List.getElem_cons_succ]
                refine wpAnyH_ready (rs := [0, 5]) (by kernel_rfl) (by simp) (AllReadyH.cons rfl (fun K hK => ?_) (AllReadyH.cons rfl (fun K hK => ?_) AllReadyH.nil))
                · go_simp
                  refine hK.out _ _ ?_ (fun hHeld => ?_)
                  · exact HSW.out _ (fun k hk => hb22.block k (HLK.out k hk))
                  clear hK K
                  try simp only [Act.put, List.setIfInBounds_toArray, List.set_cons_zero, List.set_cons_succ, List.getElem_toArray, List.getElem_cons_zero]
                  refine wpAnyH_ready (rs := [5]) (by kernel_rfl) (by simp) (AllReadyH.cons rfl (fun K hK => ?_) AllReadyH.nil)
                  go_simp
                  refine hK.out _ _ ?_ (fun hHeld => ?_)
                  · exact HSW.out _ (fun k hk => (Below.heap_alloc w22 _ k (Nat.lt_of_lt_of_le (HLK.out k hk) hb22.size)).trans (hb22.block k (HLK.out k hk)))
                  clear hK K
                  try simp only [Act.put, List.setIfInBounds_toArray, List.set_cons_zero, List.set_cons_succ, List.getElem_toArray, List.getElem_cons_zero, List.getElem_cons_succ]
                  refine wpAnyH_ready (rs := [6]) (by kernel_rfl) (by simp) (AllReadyH.cons rfl (fun K hK => ?_) AllReadyH.nil)
                  refine step_append_lies _ (by rfl) _ _ _ (by rfl) B0 38 i0 _ 5 88 Tryz.underlying56 hi hz0 hz1 hz2 rfl (by omega) (.slice (some ⟨g2, 0, none⟩) (en + 1) pc) (en + 1) news (by rfl) (by have h := hv22.own; rw [← HPL.out] at h; exact (own_below h (Below.refl _ _)).alloc _) ⟨w22.heap.size, 0, none⟩ 1 1 [.slice da dn dc, .slice d0 dn0 dc0, .slice d1 dn1 dc1, .int .i64 q2.turn, .int .i64 q2.quiet] (by rfl) (by rfl) (World.news_of_block (cs := #[.slice da dn dc, .slice d0 dn0 dc0, .slice d1 dn1 dc1, .int .i64 q2.turn, .int .i64 q2.quiet]) (t := 38) (fr := (0, 0)) (heap_alloc_new w22 _)) (by simp [Value.oneCell']) (by omega) (by unfold maxLen; omega) (by omega) (by have := hb22.size; have := HB0.out; simp; omega) (w22.heap.size + 1) (by simp) ?_
                  intro gg cap w7 hown7 hgrow7 hat7 hlt7
                  have hadd := PRowV.add (q := q2) hv22 (N := w21.heap.size) HRL.out HCL.out hb22.size ((Below.refl w22.heap.size w22).alloc (Nat.le_refl _) (.cells #[.slice da dn dc, .slice d0 dn0 dc0, .slice d1 dn1 dc1, .int .i64 q2.turn, .int .i64 q2.quiet] 38)) (hpf.on (fun _ _ _ => rfl) (fun k hk => hk)) (by have h := hown7; rw [HPL.out] at h; exact h) hgrow7 hat7
                  rw [← HPL.out] at hadd
                  have z7 : w7.cell? ⟨cb, 0, none⟩ = some (.slice (some ⟨g2, 0, none⟩) (en + 1) pc) := cell_of_row w7 cb 0 _ _ (0, 0) (hadd.2.2.trans hv22.cell)
                  have f7 : w7.frozen? ⟨cb, 0, none⟩ = false := frozen_of_row w7 cb 0 _ _ (hadd.2.2.trans hv22.cell)
                  have hk7 : ∀ k, HKS k → w7.heap[k]? = w21.heap[k]? := fun k hk => (hgrow7.block k (by have := HLK.out k hk; have := hb22.size; simp; omega) (fun e => (HKN.out k hk).2 (by simpa [Value.ownBlock] using e))).trans ((Below.heap_alloc w22 _ k (Nat.lt_of_lt_of_le (HLK.out k hk) hb22.size)).trans (hb22.block k (HLK.out k hk)))
                  refine hK.out _ _ ?_ (fun hHeld => ?_)
                  · exact HSW.out _ hk7
                  clear hK K
                  try simp only [Act.put, List.setIfInBounds_toArray, List.set_cons_zero, List.set_cons_succ, List.getElem_toArray, List.getElem_cons_zero, List.getElem_cons_succ]
                  refine wpAnyH_ready (rs := [7]) (by kernel_rfl) (by simp) (AllReadyH.cons rfl (fun K hK => ?_) AllReadyH.nil)
                  go_simp
                  refine hK.out _ _ ?_ (fun hHeld => ?_)
                  · exact HSW.out _ (fun k hk => (heap_setCell_other _ _ _ _ (HKN.out k hk).1).trans (hk7 k hk))
                  clear hK K
                  try simp only [Act.put, List.setIfInBounds_toArray, List.set_cons_zero, List.set_cons_succ, List.getElem_toArray, List.getElem_cons_zero, List.getElem_cons_succ]
                  refine wpAnyH_done (by kernel_rfl) ?_ _
                  have HR2 := Lib.hid hadd.1
                  have HB2 : Hid (Below B0 w12 (w7.setCell ⟨cb, 0, none⟩ (.slice (some ⟨gg, 0, none⟩) (en + 1 + 1) cap))) := Lib.hid ((((HBX.out.trans (hb22.mono HB0.out)).alloc (by have := HBX.out.size; have := hb22.size; have := HB0.out; omega) (.cells #[.slice da dn dc, .slice d0 dn0 dc0, .slice d1 dn1 dc1, .int .i64 q2.turn, .int .i64 q2.quiet] 38)).grown hgrow7 (by have := HBX.out.size; have := hb22.size; have := HB0.out; simp; omega) (fun k e => (hv22.own.lt k e).1)).setCell HCB.out _)
                  clear hadd z7 f7 hk7 hown7 hgrow7 hat7 hlt7 z22 z22a hv22 hb22 hpf hb
                  go_wp2_with fail
                  generalize w7.setCell ⟨cb, 0, none⟩ (.slice (some ⟨gg, 0, none⟩) (en + 1 + 1) cap) = w8' at HR2 HB2 ⊢
                  go_roundw
                  case rel => exact ⟨k + 1, q2, es ++ [q], by omega, by go_num, HB2, HR2, HC2, HE2⟩
                  case measure => simp [intOf]; omega
                · go_simp
                  refine hK.out _ _ ?_ (fun hHeld => ?_)
                  · exact HSW.out _ (fun k hk => (Below.heap_alloc w22 _ k (Nat.lt_of_lt_of_le (HLK.out k hk) hb22.size)).trans (hb22.block k (HLK.out k hk)))
                  clear hK K
                  try simp only [Act.put, List.setIfInBounds_toArray, List.set_cons_zero, List.set_cons_succ, List.getElem_toArray, List.getElem_cons_zero, List.getElem_cons_succ]
                  refine wpAnyH_ready (rs := [0]) (by kernel_rfl) (by simp) (AllReadyH.cons rfl (fun K hK => ?_) AllReadyH.nil)
                  go_simp
                  refine hK.out _ _ ?_ (fun hHeld => ?_)
                  · exact HSW.out _ (fun k hk => (Below.heap_alloc w22 _ k (Nat.lt_of_lt_of_le (HLK.out k hk) hb22.size)).trans (hb22.block k (HLK.out k hk)))
                  clear hK K
                  try simp only [Act.put, List.setIfInBounds_toArray, List.set_cons_zero, List.set_cons_succ, List.getElem_toArray, List.getElem_cons_zero]
                  refine wpAnyH_ready (rs := [6]) (by kernel_rfl) (by simp) (AllReadyH.cons rfl (fun K hK => ?_) AllReadyH.nil)
                  refine step_append_lies _ (by rfl) _ _ _ (by rfl) B0 38 i0 _ 5 88 Tryz.underlying56 hi hz0 hz1 hz2 rfl (by omega) (.slice (some ⟨g2, 0, none⟩) (en + 1) pc) (en + 1) news (by rfl) (by have h := hv22.own; rw [← HPL.out] at h; exact (own_below h (Below.refl _ _)).alloc _) ⟨w22.heap.size, 0, none⟩ 1 1 [.slice da dn dc, .slice d0 dn0 dc0, .slice d1 dn1 dc1, .int .i64 q2.turn, .int .i64 q2.quiet] (by rfl) (by rfl) (World.news_of_block (cs := #[.slice da dn dc, .slice d0 dn0 dc0, .slice d1 dn1 dc1, .int .i64 q2.turn, .int .i64 q2.quiet]) (t := 38) (fr := (0, 0)) (heap_alloc_new w22 _)) (by simp [Value.oneCell']) (by omega) (by unfold maxLen; omega) (by omega) (by have := hb22.size; have := HB0.out; simp; omega) (w22.heap.size + 1) (by simp) ?_
                  intro gg cap w7 hown7 hgrow7 hat7 hlt7
                  have hadd := PRowV.add (q := q2) hv22 (N := w21.heap.size) HRL.out HCL.out hb22.size ((Below.refl w22.heap.size w22).alloc (Nat.le_refl _) (.cells #[.slice da dn dc, .slice d0 dn0 dc0, .slice d1 dn1 dc1, .int .i64 q2.turn, .int .i64 q2.quiet] 38)) (hpf.on (fun _ _ _ => rfl) (fun k hk => hk)) (by have h := hown7; rw [HPL.out] at h; exact h) hgrow7 hat7
                  rw [← HPL.out] at hadd
                  have z7 : w7.cell? ⟨cb, 0, none⟩ = some (.slice (some ⟨g2, 0, none⟩) (en + 1) pc) := cell_of_row w7 cb 0 _ _ (0, 0) (hadd.2.2.trans hv22.cell)
                  have f7 : w7.frozen? ⟨cb, 0, none⟩ = false := frozen_of_row w7 cb 0 _ _ (hadd.2.2.trans hv22.cell)
                  have hk7 : ∀ k, HKS k → w7.heap[k]? = w21.heap[k]? := fun k hk => (hgrow7.block k (by have := HLK.out k hk; have := hb22.size; simp; omega) (fun e => (HKN.out k hk).2 (by simpa [Value.ownBlock] using e))).trans ((Below.heap_alloc w22 _ k (Nat.lt_of_lt_of_le (HLK.out k hk) hb22.size)).trans (hb22.block k (HLK.out k hk)))
                  refine hK.out _ _ ?_ (fun hHeld => ?_)
                  · exact HSW.out _ hk7
                  clear hK K
                  try simp only [Act.put, List.setIfInBounds_toArray, List.set_cons_zero, List.set_cons_succ, List.getElem_toArray, List.getElem_cons_zero, List.getElem_cons_succ]
                  refine wpAnyH_ready (rs := [7]) (by kernel_rfl) (by simp) (AllReadyH.cons rfl (fun K hK => ?_) AllReadyH.nil)
                  go_simp
                  refine hK.out _ _ ?_ (fun hHeld => ?_)
                  · exact HSW.out _ (fun k hk => (heap_setCell_other _ _ _ _ (HKN.out k hk).1).trans (hk7 k hk))
                  clear hK K
                  try simp only [Act.put, List.setIfInBounds_toArray, List.set_cons_zero, List.set_cons_succ, List.getElem_toArray, List.getElem_cons_zero, List.getElem_cons_succ]
                  refine wpAnyH_done (by kernel_rfl) ?_ _
                  have HR2 := Lib.hid hadd.1
                  have HB2 : Hid (Below B0 w12 (w7.setCell ⟨cb, 0, none⟩ (.slice (some ⟨gg, 0, none⟩) (en + 1 + 1) cap))) := Lib.hid ((((HBX.out.trans (hb22.mono HB0.out)).alloc (by have := HBX.out.size; have := hb22.size; have := HB0.out; omega) (.cells #[.slice da dn dc, .slice d0 dn0 dc0, .slice d1 dn1 dc1, .int .i64 q2.turn, .int .i64 q2.quiet] 38)).grown hgrow7 (by have := HBX.out.size; have := hb22.size; have := HB0.out; simp; omega) (fun k e => (hv22.own.lt k e).1)).setCell HCB.out _)
                  clear hadd z7 f7 hk7 hown7 hgrow7 hat7 hlt7 z22 z22a hv22 hb22 hpf hb
                  go_wp2_with fail
                  generalize w7.setCell ⟨cb, 0, none⟩ (.slice (some ⟨gg, 0, none⟩) (en + 1 + 1) cap) = w8' at HR2 HB2 ⊢
                  go_roundw
                  case rel => exact ⟨k + 1, q2, es ++ [q], by omega, by go_num, HB2, HR2, HC2, HE2⟩
                  case measure => simp [intOf]; omega
          · obtain rfl : k = m := by omega
            have htk : ms.take k = ms := List.take_of_length_le (by rw [← HML.out]; exact Nat.le_refl _)
            have hch2 := hch.out
            rw [htk] at hch2
            obtain ⟨h9, h8⟩ := hch2.fn HCR.out
            subst h9 h8
            obtain ⟨pa, pn, pc, news, hv⟩ := hrow.out
            obtain ⟨z0, hpn, hat⟩ := hv.nth HPL.out
            subst hpn
            obtain ⟨g2, q', qa, qn, qc, ja, jn, jc, ka, kn, kc, rfl, hcap, hq', ⟨e0, e1, e2, e3, e4⟩, hpi⟩ := hat en (by omega)
            obtain rfl : q = q' := by
              rw [List.getElem?_append_right (by rw [HEN.out]; exact Nat.le_refl _), HEN.out] at hq'
              simpa using hq'
            have hen24 : en ≤ 24 := by omega
            have HBK := Lib.hid (fun W (h : Below wr.heap.size wr W) => HBV.out.trans (h.mono HBV.out.size))
            have HEL : Hid (es.length ≤ 100) := Lib.hid (by rw [← HEN.out]; omega)
            have HVK := Lib.hid (fun W (h : Below wr.heap.size wr W) => hv.keep h)
            have HRS : Hid (∀ W, Below wr.heap.size wr W → Calls Tryz.prog 27 #[.pointer (some ⟨cb, 0, none⟩), .pointer (some ⟨w.heap.size, 0, none⟩)] W (BelPost (.int .i64 X0) W)) := Lib.hid (fun W h => by rw [HX0.out]; exact resultR_any r vp (.slice sa sn sc) ve q es B0 cb w.heap.size W (HY.out _ (HBK.out W h)) (HIR.out _ (HBK.out W h)) HRZ0.out HQK.out HQS.out ⟨_, _, _, _, HVK.out W h⟩ HEL.out)
            have HP1 := Lib.hid (HPIW.out wr HBW0.out)
            have HP2 := Lib.hid hpi
            have HSP : Hid (∀ W, Below wr.heap.size wr W → Calls Tryz.prog 29 #[PlaceV q (.slice ua un uc) (.slice u0 un0 uc0) (.slice u1 un1 uc1), PlaceV q (.slice qa qn qc) (.slice ja jn jc) (.slice ka kn kc)] W (BelPost (.bool true) W)) := Lib.hid (fun W h => by
              have h1 := samePlaceR_any q q _ _ _ _ _ _ W (HP1.out.below h (Nat.le_refl _)) (HP2.out.below h (Nat.le_refl _)) HQK.out.short HQK.out.short rfl
              rwa [sameB_selfR] at h1)
            unfold PlaceV PlaceCells at HSP
            have HSK : Hid (∀ W : World, Below wr.heap.size wr W → W.cell? ⟨pq, 0, none⟩ = some (.slice ua un uc) ∧ W.cell? ⟨pq, 1, none⟩ = some (.slice u0 un0 uc0) ∧ W.cell? ⟨pq, 2, none⟩ = some (.slice u1 un1 uc1) ∧ W.cell? ⟨pq, 3, none⟩ = some (.int .i64 q.turn) ∧ W.cell? ⟨pq, 4, none⟩ = some (.int .i64 q.quiet) ∧ W.cell? ⟨cb, 0, none⟩ = some (.slice (some ⟨g2, 0, none⟩) (en + 1) pc) ∧ W.cell? ⟨g2, en * 5, none⟩ = some (.slice qa qn qc) ∧ W.cell? ⟨g2, en * 5 + 1, none⟩ = some (.slice ja jn jc) ∧ W.cell? ⟨g2, en * 5 + 2, none⟩ = some (.slice ka kn kc) ∧ W.cell? ⟨g2, en * 5 + 3, none⟩ = some (.int .i64 q.turn) ∧ W.cell? ⟨g2, en * 5 + 4, none⟩ = some (.int .i64 q.quiet)) := Lib.hid (fun W h => by
              have hp : ∀ i, W.cell? ⟨pq, i, none⟩ = (#[.slice ua un uc, .slice u0 un0 uc0, .slice u1 un1 uc1, .int .i64 q.turn, .int .i64 q.quiet] : Array Value)[i]? := fun i => cell_of_row W _ i _ _ (0, 0) (HPQ.out W (HBW0.out.trans (h.mono HBW0.out.size)))
              obtain ⟨z0, _, hat⟩ := (HVK.out W h).nth HPL.out
              exact ⟨hp 0, hp 1, hp 2, hp 3, hp 4, z0, cell_keeps h (Nat.le_refl _) e0, cell_keeps h (Nat.le_refl _) e1, cell_keeps h (Nat.le_refl _) e2, cell_keeps h (Nat.le_refl _) e3, cell_keeps h (Nat.le_refl _) e4⟩)
            have hXX : (X0 == X0) = true := by simp
            have hw1 : IntKind.i64.wrap ((en : Int) + 1 - 1) = (en : Int) := by rw [IntWalk.i64_in _ (by omega)]; omega
            have hw2 : IntKind.i64.wrap (en : Int) = (en : Int) := IntWalk.i64_in _ (by omega)
            have hi1 : (0 : Int) ≤ (en : Int) := by omega
            have hi2 : (en : Int) < (en : Int) + 1 := by omega
            have hi3 : (en : Int) ≤ (en : Int) + 1 := by omega
            have hi4 : en < en + 1 := by omega
            have HBE0 := Lib.hid (HB.out.trans (HBV.out.mono HB.out.size))
            obtain ⟨t0, t1, t2, t3, t4, z9, s0, s1, s2, s3, s4⟩ := HSK.out wr (Below.refl _ _)
            clear htk hch2 hat hq' hpi hv hrow z0 e0 e1 e2 e3 e4
            go_wp2_with fail
            have hBc : Below wr.heap.size wr wr.drew := (Below.refl _ _).drew
            go_region_held3 (fun w' => w'.cell? ⟨pq, 0, none⟩ = some (.slice ua un uc) ∧ w'.cell? ⟨pq, 1, none⟩ = some (.slice u0 un0 uc0) ∧ w'.cell? ⟨pq, 2, none⟩ = some (.slice u1 un1 uc1) ∧ w'.cell? ⟨pq, 3, none⟩ = some (.int .i64 q.turn) ∧ w'.cell? ⟨pq, 4, none⟩ = some (.int .i64 q.quiet) ∧ w'.cell? ⟨cb, 0, none⟩ = some (.slice (some ⟨g2, 0, none⟩) (en + 1) pc) ∧ w'.cell? ⟨g2, en * 5, none⟩ = some (.slice qa qn qc) ∧ w'.cell? ⟨g2, en * 5 + 1, none⟩ = some (.slice ja jn jc) ∧ w'.cell? ⟨g2, en * 5 + 2, none⟩ = some (.slice ka kn kc) ∧ w'.cell? ⟨g2, en * 5 + 3, none⟩ = some (.int .i64 q.turn) ∧ w'.cell? ⟨g2, en * 5 + 4, none⟩ = some (.int .i64 q.quiet)) (with_reducible exact HSK.out _ hBc) (first
              | (go_at_call 27; refine (HRS.out _ hBc).mono ?_; rintro e w30 ⟨rfl, hb⟩; have hB5 : Below wr.heap.size wr w30 := hBc.trans (hb.mono hBc.size); have hBc := hB5; clear hb)
              | (go_at_call 29; refine (HSP.out _ hBc).mono ?_; rintro e w31 ⟨rfl, hb⟩; have hB5 : Below wr.heap.size wr w31 := hBc.trans (hb.mono hBc.size); have hBc := hB5; clear hb))
            have HBE := Lib.hid (HBE0.out.trans (hB5.mono HBE0.out.size))
            clear hB5 hBc t0 t1 t2 t3 t4 z9 s0 s1 s2 s3 s4
            go_wp2_with fail
            go_ret
            exact ⟨rfl, HBE.out⟩
    · have hb10 := HB9.out.trans (hb.mono HB9.out.size)
      have hal := (Below.refl w10.heap.size w10).alloc (Nat.le_refl _) (.cells #[.slice none 0 0, .slice none 0 0, .slice none 0 0, .int .i64 0, .int .i64 0] 38)
      have HB11 := Lib.hid (hb10.trans (hal.mono hb10.size))
      have HPB := Lib.hid (heap_alloc_new w10 (.cells #[.slice none 0 0, .slice none 0 0, .slice none 0 0, .int .i64 0, .int .i64 0] 38))
      rw [← hE] at hE0 ⊢
      have HE0 := Lib.hid hE0
      have HEE := Lib.hid hE
      obtain ⟨y0, y1, y2, y3, y4, y5, y6, y7, y8, y9, y10⟩ := HY.out _ HB11.out
      clear hE0 hb hb10 hal hE
      go_wp2_with fail
      generalize w10.alloc (.cells #[.slice none 0 0, .slice none 0 0, .slice none 0 0, .int .i64 0, .int .i64 0] 38) = w11 at HB11 HPB y0 y1 y2 y3 y4 y5 y6 y7 y8 y9 y10 ⊢
      generalize w10.heap.size = pq at HPB ⊢
      go_at_call 25; refine (HRE.out _ HB11.out).mono ?_; rintro e w11' ⟨rfl, hb⟩
      have hb11 := HB11.out.trans (hb.mono HB11.out.size)
      have HB11b := Lib.hid hb11
      have HPBb := Lib.hid (bkeep HPB.out hb)
      clear y0 y1 y2 y3 y4 y5 y6 y7 y8 y9 y10
      obtain ⟨y0, y1, y2, y3, y4, y5, y6, y7, y8, y9, y10⟩ := HY.out _ hb11
      clear hb hb11 HB11 HPB HRE
      by_cases hsn : 20 < sn
      · have hsd : decide ((sn : Int) > 20) = true := decide_eq_true (by omega)
        have hsd2 : decide (20 < (sn : Int)) = true := decide_eq_true (by omega)
        have HBE := Lib.hid (HB.out.trans (HB11b.out.mono HB.out.size))
        go_wp2_with fail
        go_ret
        exact ⟨rfl, HBE.out⟩
      · have hsd : decide ((sn : Int) > 20) = false := decide_eq_false (by omega)
        have hsd2 : decide (20 < (sn : Int)) = false := decide_eq_false (by omega)
        go_wp2_with fail
        go_at_call 26; refine (HBR1.out _ HB11b.out).mono ?_; rintro e w12 ⟨ba, bn, bc, b0, bn0, bc0, b1, bn1, bc1, rfl, hpf, hb⟩
        have HB12 := Lib.hid (HB11b.out.trans (hb.mono HB11b.out.size))
        have HPQ : Hid (∀ W, Below w12.heap.size w12 W → W.heap[pq]? = some (.cells #[.slice none 0 0, .slice none 0 0, .slice none 0 0, .int .i64 0, .int .i64 0] 38 (0, 0))) := Lib.hid (fun W h => bkeep HPBb.out (hb.trans (h.mono hb.size)))
        obtain ⟨qb, hqb⟩ : ∃ q, q = beginD r := ⟨_, rfl⟩
        have HQB := Lib.hid hqb
        rw [← hqb] at hpf
        unfold PlaceV PlaceCells
        rw [← hqb]
        have hrow := prow_first (B := w12.heap.size) (w12 := w12) (Nat.le_refl _) hpf
        have hbr : Below w12.heap.size w12 ((w12.alloc (.cells #[.slice ba bn bc, .slice b0 bn0 bc0, .slice b1 bn1 bc1, .int .i64 qb.turn, .int .i64 qb.quiet] 38)).alloc (.cells #[.slice (some ⟨w12.heap.size, 0, none⟩) 1 1] 56)) := ((Below.refl _ _).alloc (Nat.le_refl _) _).alloc (by simp) _
        have HRW := Lib.hid hrow
        have HBR0 := Lib.hid hbr
        clear hrow hbr hpf hb hqb y0 y1 y2 y3 y4 y5 y6 y7 y8 y9 y10 HPBb
        go_wp2_with fail
        generalize (w12.alloc (.cells #[.slice ba bn bc, .slice b0 bn0 bc0, .slice b1 bn1 bc1, .int .i64 qb.turn, .int .i64 qb.quiet] 38)).alloc (.cells #[.slice (some ⟨w12.heap.size, 0, none⟩) 1 1] 56) = w13 at HRW HBR0 ⊢
        obtain ⟨cb, hcb⟩ : ∃ cb, cb = w12.heap.size + 1 := ⟨_, rfl⟩
        rw [← hcb] at HRW ⊢
        obtain ⟨B0, hB0⟩ : ∃ B0, B0 = w12.heap.size := ⟨_, rfl⟩
        rw [← hB0] at HRW HBR0
        have HCB : Hid (B0 ≤ cb) := Lib.hid (by omega)
        have HBB := Lib.hid hB0
        have HC0 : Hid (Chain r qb [] (ms.take 0)) := Lib.hid (by rw [HQB.out]; exact Chain.zero r)
        have HEB : Hid (E = errG r (qb, []) (ms.drop 0)) := Lib.hid (by rw [HQB.out]; exact HEE.out)
        clear hB0 hcb
        go_loopw [15, 16, 17, 81] (fun _ _ _ i wr => ∃ (k : Nat) (q : PlaceD) (es : List PlaceD), k ≤ m ∧ i = .int .i64 (k : Int) ∧ Hid (Below B0 w12 wr) ∧ Hid (PRow B0 cb wr (es ++ [q])) ∧ Hid (Chain r q es (ms.take k)) ∧ Hid (E = errG r (q, es) (ms.drop k))) (fun _ _ _ i _ => m - (intOf i).toNat)
        case atStart => exact ⟨0, qb, [], by omega, rfl, HBR0, HRW, HC0, HEB⟩
        case round =>
          clear HRW HBR0 HC0 HEB
          obtain ⟨k, q, es, hk, rfl, hbel, hrow, hch, hEE⟩ := hrel
          have HBW0 : Hid (Below w12.heap.size w12 wr) := Lib.hid (by rw [← HBB.out]; exact hbel.out)
          have HBV := Lib.hid (HB12.out.trans (HBW0.out.mono HB12.out.size))
          obtain ⟨hqk, hqs⟩ := hch.out.ok HRZ0.out
          have HQK := Lib.hid hqk
          have HQS := Lib.hid hqs
          obtain ⟨en, hen⟩ : ∃ n, n = es.length := ⟨_, rfl⟩
          have hek : en ≤ k := by rw [hen, hch.out.len, List.length_take]; omega
          have HPL : Hid (en + 1 = (es ++ [q]).length) := Lib.hid (by simp [hen])
          have HEN := Lib.hid hen
          clear hen hqk hqs
          by_cases hlt : k < m
          · obtain ⟨g, o, m1, m2, m3, rfl, hm0, d0, d1, d2⟩ := HMS.out wr HBV.out k hlt
            have hE2 := hEE.out
            rw [drop_moreM hm0] at hE2
            obtain ⟨pa, pn, pc, news, hv⟩ := hrow.out
            obtain ⟨z0, hpn, hat⟩ := hv.nth HPL.out
            subst hpn
            obtain ⟨g2, q', qa, qn, qc, ja, jn, jc, ka, kn, kc, rfl, hcap, hq', ⟨e0, e1, e2, e3, e4⟩, hpi⟩ := hat en (by omega)
            obtain rfl : q = q' := by
              rw [List.getElem?_append_right (by rw [HEN.out]; exact Nat.le_refl _), HEN.out] at hq'
              simpa using hq'
            obtain ⟨U1, hU1⟩ : ∃ U, U = wr.alloc (.cells #[.int .i64 m1, .int .i64 m2, .int .i64 m3] 43) := ⟨_, rfl⟩
            obtain ⟨U, hU⟩ : ∃ U', U' = U1.alloc (.cells #[.slice qa qn qc, .slice ja jn jc, .slice ka kn kc, .int .i64 q.turn, .int .i64 q.quiet] 38) := ⟨_, rfl⟩
            have hb1 : Below wr.heap.size wr U1 := by rw [hU1]; exact (Below.refl _ _).alloc (Nat.le_refl _) _
            have hs1 : U1.heap.size = wr.heap.size + 1 := by rw [hU1]; simp
            have hb2 : Below U1.heap.size U1 U := by rw [hU]; exact (Below.refl _ _).alloc (Nat.le_refl _) _
            have hbu : Below wr.heap.size wr U := hb1.trans (hb2.mono (by omega))
            have hm1' : U1.heap[wr.heap.size]? = some (.cells #[.int .i64 m1, .int .i64 m2, .int .i64 m3] 43 (0, 0)) := by rw [hU1]; exact heap_alloc_new wr _
            have hmbx : U.heap[wr.heap.size]? = some (.cells #[.int .i64 m1, .int .i64 m2, .int .i64 m3] 43 (0, 0)) := bkeep hm1' hb2
            have hnbx : U.heap[wr.heap.size + 1]? = some (.cells #[.slice qa qn qc, .slice ja jn jc, .slice ka kn kc, .int .i64 q.turn, .int .i64 q.quiet] 38 (0, 0)) := by rw [hU, ← hs1]; exact heap_alloc_new U1 _
            have z1 : U1.cell? ⟨cb, 0, none⟩ = some (.slice (some ⟨g2, 0, none⟩) (en + 1) pc) := cell_keeps hb1 (Nat.le_refl _) z0
            have s0 := cell_keeps hb1 (Nat.le_refl _) e0
            have s1 := cell_keeps hb1 (Nat.le_refl _) e1
            have s2 := cell_keeps hb1 (Nat.le_refl _) e2
            have s3 := cell_keeps hb1 (Nat.le_refl _) e3
            have s4 := cell_keeps hb1 (Nat.le_refl _) e4
            have HBU := Lib.hid hbu
            have HBXU : Hid (Below B0 w12 U) := Lib.hid (hbel.out.trans (hbu.mono (by have := hbel.out.size; have := HBB.out; omega)))
            have HVU := Lib.hid (hv.keep hbu)
            have HMX := Lib.hid hmbx
            have HNX := Lib.hid hnbx
            have HLC : Hid (cb < wr.heap.size) := Lib.hid (Array.getElem?_eq_some_iff.1 hv.cell).1
            have HLG : Hid (g2 < wr.heap.size ∧ B0 ≤ g2) := Lib.hid (by have h := hv.own.lt g2 rfl; exact ⟨h.2, h.1⟩)
            have HPU := Lib.hid (hpi.below hbu (Nat.le_refl _))
            have HBVU := Lib.hid (HBV.out.trans (hbu.mono HBV.out.size))
            have HE2 := Lib.hid (errG_step hE2)
            have HM0 := Lib.hid hm0
            have HEL : Hid (es.length ≤ 100) := Lib.hid (by rw [← HEN.out]; omega)
            have HRS := Lib.hid (resultR_any r vp (.slice sa sn sc) ve q es B0 cb w.heap.size U (HY.out _ HBVU.out) (HIR.out _ HBVU.out) HRZ0.out HQK.out HQS.out ⟨_, _, _, _, HVU.out⟩ HEL.out)
            obtain ⟨X, hX⟩ : ∃ X, X = resG r q es := ⟨_, rfl⟩
            rw [← hX] at HRS
            have HX := Lib.hid hX
            clear hE2 hb1 hb2 hbu hm1' hmbx hnbx hv hat hq' hpi hrow hX hm0 hEE hbel z0 e0 e1 e2 e3 e4
            have hU1' := hU1
            rw [hU1] at z1 s0 s1 s2 s3 s4
            rw [hU1] at hU
            clear hU1 hs1
            go_wp2_with fail
            rw [← hU]
            clear hU hU1' z1 s0 s1 s2 s3 s4 d0 d1 d2
            have HLB : Hid (B0 ≤ wr.heap.size) := Lib.hid (by have := HLG.out; omega)
            obtain ⟨mb, hmb⟩ : ∃ mb, mb = wr.heap.size := ⟨_, rfl⟩
            rw [← hmb] at HMX HNX HLC HLG HLB ⊢
            clear hmb HBU HBV HBW0
            go_at_call 27; refine HRS.out.mono ?_; rintro e w20 ⟨rfl, hb⟩
            have HBX20 := Lib.hid (HBXU.out.trans (hb.mono (by have := HBXU.out.size; have := HBB.out; omega)))
            have HBV20 := Lib.hid (HBVU.out.trans (hb.mono HBVU.out.size))
            have HV20 := Lib.hid (HVU.out.keep hb)
            have HMX20 := Lib.hid (bkeep HMX.out hb)
            have HNX20 := Lib.hid (bkeep HNX.out hb)
            have HP20 := Lib.hid (HPU.out.below hb (Nat.le_refl _))
            clear hb HRS HBXU HBVU HVU HMX HNX HPU
            rcases HE2.out with ⟨hx0, hE14⟩ | ⟨hx0, hl0, hE13⟩ | ⟨hx0, hl0, hEn⟩
            · have hxb : (X != 0) = true := by rw [HX.out]; simpa using hx0
              subst hE14
              have HBW : Hid (Below w12.heap.size w12 w20) := Lib.hid (by rw [← HBB.out]; exact HBX20.out)
              have x0 : w20.cell? ⟨pq, 0, none⟩ = some (.slice none 0 0) := cell_of_row w20 pq 0 _ _ (0, 0) (HPQ.out _ HBW.out)
              have HBE := Lib.hid (HB.out.trans ((HB12.out.trans (HBW.out.mono HB12.out.size)).mono HB.out.size))
              go_wp2_with fail
              go_ret
              exact ⟨rfl, HBE.out⟩
            · obtain rfl : X = 0 := by rw [HX.out]; exact hx0
              subst hE13
              have HAL := Lib.hid (allowed_any r q vp (.slice sa sn sc) ve (.slice qa qn qc) (.slice ja jn jc) (.slice ka kn kc) (m1, m2, m3) w20 (HIR.out _ HBV20.out).1 HP20.out HQK.out)
              rw [hl0] at HAL
              unfold RulesV PlaceV PlaceCells moveV at HAL
              dsimp only at HAL
              obtain ⟨y0, y1, y2, y3, y4, y5, y6, y7, y8, y9, y10⟩ := HY.out _ HBV20.out
              have hm : ∀ i, w20.cell? ⟨mb, i, none⟩ = (#[.int .i64 m1, .int .i64 m2, .int .i64 m3] : Array Value)[i]? := fun i => cell_of_row w20 _ i _ _ (0, 0) HMX20.out
              have hn : ∀ i, w20.cell? ⟨mb + 1, i, none⟩ = (#[.slice qa qn qc, .slice ja jn jc, .slice ka kn kc, .int .i64 q.turn, .int .i64 q.quiet] : Array Value)[i]? := fun i => cell_of_row w20 _ i _ _ (0, 0) HNX20.out
              have t0 := hm 0
              have t1 := hm 1
              have t2 := hm 2
              have t3 := hn 0
              have t4 := hn 1
              have t5 := hn 2
              have t6 := hn 3
              have t7 := hn 4
              clear hm hn
              go_wp2_with fail
              go_at_call 30; refine HAL.out.mono ?_; rintro e w21 ⟨rfl, hb⟩
              have HBW : Hid (Below w12.heap.size w12 w21) := Lib.hid (by have h := HBX20.out; rw [HBB.out] at h; exact h.trans (hb.mono h.size))
              clear hb t0 t1 t2 t3 t4 t5 t6 t7 y0 y1 y2 y3 y4 y5 y6 y7 y8 y9 y10
              have x0 : w21.cell? ⟨pq, 0, none⟩ = some (.slice none 0 0) := cell_of_row w21 pq 0 _ _ (0, 0) (HPQ.out _ HBW.out)
              have HBE := Lib.hid (HB.out.trans ((HB12.out.trans (HBW.out.mono HB12.out.size)).mono HB.out.size))
              go_wp2_with fail
              go_ret
              exact ⟨rfl, HBE.out⟩
            · obtain rfl : X = 0 := by rw [HX.out]; exact hx0
              have HSV : Hid (∀ W : World, (∀ k, k = w.heap.size ∨ k = mb ∨ k = mb + 1 → W.heap[k]? = w20.heap[k]?) → W.cell? ⟨w.heap.size, 0, none⟩ = some (.string r.name) ∧ W.cell? ⟨w.heap.size, 1, none⟩ = some (.int .i64 r.width) ∧ W.cell? ⟨w.heap.size, 2, none⟩ = some (.int .i64 r.height) ∧ W.cell? ⟨w.heap.size, 3, none⟩ = some vp ∧ W.cell? ⟨w.heap.size, 4, none⟩ = some (.slice sa sn sc) ∧ W.cell? ⟨w.heap.size, 5, none⟩ = some (.bool r.falls) ∧ W.cell? ⟨w.heap.size, 6, none⟩ = some (.bool r.keeps) ∧ W.cell? ⟨w.heap.size, 7, none⟩ = some ve ∧ W.cell? ⟨w.heap.size, 8, none⟩ = some (.int .i64 r.blocked) ∧ W.cell? ⟨w.heap.size, 9, none⟩ = some (.int .i64 r.quiet) ∧ W.cell? ⟨w.heap.size, 10, none⟩ = some (.int .i64 r.rep) ∧ W.cell? ⟨mb + 1, 0, none⟩ = some (.slice qa qn qc) ∧ W.cell? ⟨mb + 1, 1, none⟩ = some (.slice ja jn jc) ∧ W.cell? ⟨mb + 1, 2, none⟩ = some (.slice ka kn kc) ∧ W.cell? ⟨mb + 1, 3, none⟩ = some (.int .i64 q.turn) ∧ W.cell? ⟨mb + 1, 4, none⟩ = some (.int .i64 q.quiet) ∧ W.cell? ⟨mb, 0, none⟩ = some (.int .i64 m1) ∧ W.cell? ⟨mb, 1, none⟩ = some (.int .i64 m2) ∧ W.cell? ⟨mb, 2, none⟩ = some (.int .i64 m3)) := Lib.hid (fun W h => by
                have hr11 : ∀ i, W.cell? ⟨w.heap.size, i, none⟩ = w20.cell? ⟨w.heap.size, i, none⟩ := fun i => World.cell?_of_block (h _ (.inl rfl))
                obtain ⟨y0, y1, y2, y3, y4, y5, y6, y7, y8, y9, y10⟩ := HY.out _ HBV20.out
                have hm : ∀ i, W.cell? ⟨mb, i, none⟩ = (#[.int .i64 m1, .int .i64 m2, .int .i64 m3] : Array Value)[i]? := fun i => cell_of_row W _ i _ _ (0, 0) ((h _ (.inr (.inl rfl))).trans HMX20.out)
                have hn : ∀ i, W.cell? ⟨mb + 1, i, none⟩ = (#[.slice qa qn qc, .slice ja jn jc, .slice ka kn kc, .int .i64 q.turn, .int .i64 q.quiet] : Array Value)[i]? := fun i => cell_of_row W _ i _ _ (0, 0) ((h _ (.inr (.inr rfl))).trans HNX20.out)
                exact ⟨(hr11 0).trans y0, (hr11 1).trans y1, (hr11 2).trans y2, (hr11 3).trans y3, (hr11 4).trans y4, (hr11 5).trans y5, (hr11 6).trans y6, (hr11 7).trans y7, (hr11 8).trans y8, (hr11 9).trans y9, (hr11 10).trans y10, hn 0, hn 1, hn 2, hn 3, hn 4, hm 0, hm 1, hm 2⟩)
              have HAL := Lib.hid (allowed_any r q vp (.slice sa sn sc) ve (.slice qa qn qc) (.slice ja jn jc) (.slice ka kn kc) (m1, m2, m3) w20 (HIR.out _ HBV20.out).1 HP20.out HQK.out)
              rw [hl0] at HAL
              obtain ⟨q2, hq2⟩ : ∃ q2, q2 = afterD r q (m1, m2, m3) := ⟨_, rfl⟩
              have HAFT20 : Hid (∀ W, Below w20.heap.size w20 W → Calls Tryz.prog 31 #[RulesV r vp (.slice sa sn sc) ve, PlaceV q (.slice qa qn qc) (.slice ja jn jc) (.slice ka kn kc), moveV (m1, m2, m3)] W (RefAftF q2 W)) := Lib.hid (fun W h => by rw [hq2]; exact refAfterF_any r q vp (.slice sa sn sc) ve _ _ _ (m1, m2, m3) W (HP20.out.below h (Nat.le_refl _)) HQK.out hl0)
              have HC2 : Hid (Chain r q2 (es ++ [q]) (ms.take (k + 1))) := Lib.hid (by rw [take_moreM HM0.out, hq2]; exact hch.out.snoc hx0 hl0)
              have HE2 : Hid (E = errG r (q2, es ++ [q]) (ms.drop (k + 1))) := Lib.hid (by rw [hq2]; exact hEn)
              unfold RulesV PlaceV PlaceCells moveV at HAL HAFT20
              dsimp only at HAL HAFT20
              obtain ⟨y0, y1, y2, y3, y4, y5, y6, y7, y8, y9, y10, n0', n1', n2', n3', n4', k0', k1', k2'⟩ := HSV.out w20 (fun _ _ => rfl)
              clear hx0 hl0 hEn hq2
              go_wp2_with fail
              go_at_call 30; refine HAL.out.mono ?_; rintro e w21 ⟨rfl, hb⟩
              have HB21 := Lib.hid hb
              obtain ⟨HKS, hKS⟩ : ∃ P : Nat → Prop, P = fun k => k = w.heap.size ∨ k = mb ∨ k = mb + 1 := ⟨_, rfl⟩
              have HKSE := Lib.hid hKS
              have HWL : Hid (w.heap.size < B0) := Lib.hid (by have h1 := HB12.out.size; have h2 := HBB.out; have h3 := (Array.getElem?_eq_some_iff.1 (show V.heap[w.heap.size]? = some _ from HVB.out)).1; omega)
              have HLK : Hid (∀ k, HKS k → k < w21.heap.size) := Lib.hid (fun k h => by
                rw [HKSE.out] at h
                have h1 := HB21.out.size
                have h2 := (Array.getElem?_eq_some_iff.1 HNX20.out).1
                have h3 := HWL.out
                have h4 := HLB.out
                omega)
              have HKN : Hid (∀ k, HKS k → k ≠ cb ∧ k ≠ g2) := Lib.hid (fun k h => by
                rw [HKSE.out] at h
                have h3 := HWL.out
                have h4 := HLC.out
                have h5 := HLG.out
                have h6 := HCB.out
                omega)
              have HSW : Hid (∀ W : World, (∀ k, HKS k → W.heap[k]? = w21.heap[k]?) → W.cell? ⟨w.heap.size, 0, none⟩ = some (.string r.name) ∧ W.cell? ⟨w.heap.size, 1, none⟩ = some (.int .i64 r.width) ∧ W.cell? ⟨w.heap.size, 2, none⟩ = some (.int .i64 r.height) ∧ W.cell? ⟨w.heap.size, 3, none⟩ = some vp ∧ W.cell? ⟨w.heap.size, 4, none⟩ = some (.slice sa sn sc) ∧ W.cell? ⟨w.heap.size, 5, none⟩ = some (.bool r.falls) ∧ W.cell? ⟨w.heap.size, 6, none⟩ = some (.bool r.keeps) ∧ W.cell? ⟨w.heap.size, 7, none⟩ = some ve ∧ W.cell? ⟨w.heap.size, 8, none⟩ = some (.int .i64 r.blocked) ∧ W.cell? ⟨w.heap.size, 9, none⟩ = some (.int .i64 r.quiet) ∧ W.cell? ⟨w.heap.size, 10, none⟩ = some (.int .i64 r.rep) ∧ W.cell? ⟨mb + 1, 0, none⟩ = some (.slice qa qn qc) ∧ W.cell? ⟨mb + 1, 1, none⟩ = some (.slice ja jn jc) ∧ W.cell? ⟨mb + 1, 2, none⟩ = some (.slice ka kn kc) ∧ W.cell? ⟨mb + 1, 3, none⟩ = some (.int .i64 q.turn) ∧ W.cell? ⟨mb + 1, 4, none⟩ = some (.int .i64 q.quiet) ∧ W.cell? ⟨mb, 0, none⟩ = some (.int .i64 m1) ∧ W.cell? ⟨mb, 1, none⟩ = some (.int .i64 m2) ∧ W.cell? ⟨mb, 2, none⟩ = some (.int .i64 m3)) := Lib.hid (fun W h => HSV.out W (fun k hk => (h k (by rw [HKSE.out]; exact hk)).trans (HB21.out.block k (by
                have h2 := (Array.getElem?_eq_some_iff.1 HNX20.out).1
                have h3 := HWL.out
                have h4 := HLB.out
                omega))))
              have HAFT := Lib.hid (fun W (h : Below w21.heap.size w21 W) => HAFT20.out W (HB21.out.trans (h.mono HB21.out.size)))
              have HV21 := Lib.hid (HV20.out.keep hb)
              have HBX := Lib.hid (HBX20.out.trans (hb.mono (by have := HBX20.out.size; have := HBB.out; omega)))
              have HB0 : Hid (B0 ≤ w21.heap.size) := Lib.hid (by have := HBX.out.size; have := HBB.out; omega)
              have HRL : Hid (∀ a, (some ⟨g2, 0, none⟩ : Option Addr) = some a → a.block < w21.heap.size) := Lib.hid (fun a ha => by cases ha; have h1 := HLG.out; have h2 := (Array.getElem?_eq_some_iff.1 HNX20.out).1; have h3 := HB21.out.size; show g2 < _; omega)
              have HCL : Hid (cb < w21.heap.size) := Lib.hid (by have h1 := HLC.out; have h2 := (Array.getElem?_eq_some_iff.1 HNX20.out).1; have h3 := HB21.out.size; omega)
              clear hb HAL HAFT20 HSV hKS y0 y1 y2 y3 y4 y5 y6 y7 y8 y9 y10 n0' n1' n2' n3' n4' k0' k1' k2'
              obtain ⟨y0, y1, y2, y3, y4, y5, y6, y7, y8, y9, y10, n0', n1', n2', n3', n4', k0', k1', k2'⟩ := HSW.out w21 (fun _ _ => rfl)
              have z0 : w21.cell? ⟨cb, 0, none⟩ = some (.slice (some ⟨g2, 0, none⟩) (en + 1) pc) := (HV21.out.nth HPL.out).1
              have z0d : w21.drew.cell? ⟨cb, 0, none⟩ = some (.slice (some ⟨g2, 0, none⟩) (en + 1) pc) := z0
              go_wp2_with fail
              refine wp_region_held_drew (S := fun (w' : World) => w'.cell? ⟨w.heap.size, 0, none⟩ = some (.string r.name) ∧ w'.cell? ⟨w.heap.size, 1, none⟩ = some (.int .i64 r.width) ∧ w'.cell? ⟨w.heap.size, 2, none⟩ = some (.int .i64 r.height) ∧ w'.cell? ⟨w.heap.size, 3, none⟩ = some vp ∧ w'.cell? ⟨w.heap.size, 4, none⟩ = some (.slice sa sn sc) ∧ w'.cell? ⟨w.heap.size, 5, none⟩ = some (.bool r.falls) ∧ w'.cell? ⟨w.heap.size, 6, none⟩ = some (.bool r.keeps) ∧ w'.cell? ⟨w.heap.size, 7, none⟩ = some ve ∧ w'.cell? ⟨w.heap.size, 8, none⟩ = some (.int .i64 r.blocked) ∧ w'.cell? ⟨w.heap.size, 9, none⟩ = some (.int .i64 r.quiet) ∧ w'.cell? ⟨w.heap.size, 10, none⟩ = some (.int .i64 r.rep) ∧ w'.cell? ⟨mb + 1, 0, none⟩ = some (.slice qa qn qc) ∧ w'.cell? ⟨mb + 1, 1, none⟩ = some (.slice ja jn jc) ∧ w'.cell? ⟨mb + 1, 2, none⟩ = some (.slice ka kn kc) ∧ w'.cell? ⟨mb + 1, 3, none⟩ = some (.int .i64 q.turn) ∧ w'.cell? ⟨mb + 1, 4, none⟩ = some (.int .i64 q.quiet) ∧ w'.cell? ⟨mb, 0, none⟩ = some (.int .i64 m1) ∧ w'.cell? ⟨mb, 1, none⟩ = some (.int .i64 m2) ∧ w'.cell? ⟨mb, 2, none⟩ = some (.int .i64 m3)) (by kernel_rfl) ?_ (fun hHeld => ?_)
              · exact HSW.out _ (fun _ _ => rfl)
              refine wpAnyH_take (i := 1) (v := ?_) rfl (by kernel_rfl) (by kernel_rfl) (by kernel_rfl) (fun _ _ _ h => h) (Or.inl ⟨by rfl, ?_⟩) (by assumption) ?_
              rotate_left
              · intro w hSw
                (try dsimp only at hSw)
                go_simp
                all_goals with_reducible rfl
              simp only [Act.put, List.setIfInBounds_toArray, List.set_cons_zero, List.set_cons_succ, List.getElem_toArray, List.getElem_cons_zero, List.getElem_cons_succ]
              refine wpAnyH_take (i := 2) (v := ?_) rfl (by kernel_rfl) (by kernel_rfl) (by kernel_rfl) (fun _ _ _ h => h) (Or.inl ⟨by rfl, ?_⟩) (by assumption) ?_
              rotate_left
              · intro w hSw
                (try dsimp only at hSw)
                go_simp
                all_goals with_reducible rfl
              simp only [Act.put, List.setIfInBounds_toArray, List.set_cons_zero, List.set_cons_succ, List.getElem_toArray, List.getElem_cons_zero, List.getElem_cons_succ]
              refine wpAnyH_take (i := 3) (v := ?_) rfl (by kernel_rfl) (by kernel_rfl) (by kernel_rfl) (fun _ _ _ h => h) (Or.inl ⟨by rfl, ?_⟩) (by assumption) ?_
              rotate_left
              · intro w hSw
                (try dsimp only at hSw)
                go_simp
                all_goals with_reducible rfl
              simp only [Act.put, List.setIfInBounds_toArray, List.set_cons_zero, List.set_cons_succ, List.getElem_toArray, List.getElem_cons_zero, List.getElem_cons_succ]
              refine wpAnyH_ready (rs := [0, 4]) (by kernel_rfl) (by simp) (AllReadyH.cons rfl (fun K hK => ?_) (AllReadyH.cons rfl (fun K hK => ?_) AllReadyH.nil))
              · go_simp
                refine hK.out _ _ ?_ (fun hHeld => ?_)
                · exact HSW.out _ (fun _ _ => rfl)
                clear hK K
                try simp only [Act.put, List.setIfInBounds_toArray, List.set_cons_zero, List.set_cons_succ, List.getElem_toArray, List.getElem_cons_zero]
                refine wpAnyH_ready (rs := [4]) (by kernel_rfl) (by simp) (AllReadyH.cons rfl (fun K hK => ?_) AllReadyH.nil)
                go_simp
                go_at_call 31; refine (HAFT.out _ (Below.refl _ _).drew).mono ?_; rintro e w22 ⟨da, dn, dc, d0, dn0, dc0, d1, dn1, dc1, rfl, hpf, hb⟩
                have hb22 : Below w21.heap.size w21 w22 := (Below.refl w21.heap.size w21).drew.trans hb
                have hv22 := HV21.out.keep hb22
                have z22 : w22.cell? ⟨cb, 0, none⟩ = some (.slice (some ⟨g2, 0, none⟩) (en + 1) pc) := (hv22.nth HPL.out).1
                have z22a : (w22.alloc (.cells #[.slice da dn dc, .slice d0 dn0 dc0, .slice d1 dn1 dc1, .int .i64 q2.turn, .int .i64 q2.quiet] 38)).cell? ⟨cb, 0, none⟩ = some (.slice (some ⟨g2, 0, none⟩) (en + 1) pc) := Lib.cell?_alloc_some _ z22
                refine hK.out _ _ ?_ (fun hHeld => ?_)
                · exact HSW.out _ (fun k hk => hb22.block k (HLK.out k hk))
                clear hK K
                try simp only [Act.put, List.setIfInBounds_toArray, List.set_cons_zero, List.set_cons_succ, List.getElem_toArray, List.getElem_cons_zero, List.getElem_cons_succ]
                refine wpAnyH_ready (rs := [5]) (by kernel_rfl) (by simp) (AllReadyH.cons rfl (fun K hK => ?_) AllReadyH.nil)
                go_simp
                refine hK.out _ _ ?_ (fun hHeld => ?_)
                · exact HSW.out _ (fun k hk => (Below.heap_alloc w22 _ k (Nat.lt_of_lt_of_le (HLK.out k hk) hb22.size)).trans (hb22.block k (HLK.out k hk)))
                clear hK K
                try simp only [Act.put, List.setIfInBounds_toArray, List.set_cons_zero, List.set_cons_succ, List.getElem_toArray, List.getElem_cons_zero, List.getElem_cons_succ]
                refine wpAnyH_ready (rs := [6]) (by kernel_rfl) (by simp) (AllReadyH.cons rfl (fun K hK => ?_) AllReadyH.nil)
                refine step_append_lies _ (by rfl) _ _ _ (by rfl) B0 38 i0 _ 5 88 Tryz.underlying56 hi hz0 hz1 hz2 rfl (by omega) (.slice (some ⟨g2, 0, none⟩) (en + 1) pc) (en + 1) news (by rfl) (by have h := hv22.own; rw [← HPL.out] at h; exact (own_below h (Below.refl _ _)).alloc _) ⟨w22.heap.size, 0, none⟩ 1 1 [.slice da dn dc, .slice d0 dn0 dc0, .slice d1 dn1 dc1, .int .i64 q2.turn, .int .i64 q2.quiet] (by rfl) (by rfl) (World.news_of_block (cs := #[.slice da dn dc, .slice d0 dn0 dc0, .slice d1 dn1 dc1, .int .i64 q2.turn, .int .i64 q2.quiet]) (t := 38) (fr := (0, 0)) (heap_alloc_new w22 _)) (by simp [Value.oneCell']) (by omega) (by unfold maxLen; omega) (by omega) (by have := hb22.size; have := HB0.out; simp; omega) (w22.heap.size + 1) (by simp) ?_
                intro gg cap w7 hown7 hgrow7 hat7 hlt7
                have hadd := PRowV.add (q := q2) hv22 (N := w21.heap.size) HRL.out HCL.out hb22.size ((Below.refl w22.heap.size w22).alloc (Nat.le_refl _) (.cells #[.slice da dn dc, .slice d0 dn0 dc0, .slice d1 dn1 dc1, .int .i64 q2.turn, .int .i64 q2.quiet] 38)) (hpf.on (fun _ _ _ => rfl) (fun k hk => hk)) (by have h := hown7; rw [HPL.out] at h; exact h) hgrow7 hat7
                rw [← HPL.out] at hadd
                have z7 : w7.cell? ⟨cb, 0, none⟩ = some (.slice (some ⟨g2, 0, none⟩) (en + 1) pc) := cell_of_row w7 cb 0 _ _ (0, 0) (hadd.2.2.trans hv22.cell)
                have f7 : w7.frozen? ⟨cb, 0, none⟩ = false := frozen_of_row w7 cb 0 _ _ (hadd.2.2.trans hv22.cell)
                have hk7 : ∀ k, HKS k → w7.heap[k]? = w21.heap[k]? := fun k hk => (hgrow7.block k (by have := HLK.out k hk; have := hb22.size; simp; omega) (fun e => (HKN.out k hk).2 (by simpa [Value.ownBlock] using e))).trans ((Below.heap_alloc w22 _ k (Nat.lt_of_lt_of_le (HLK.out k hk) hb22.size)).trans (hb22.block k (HLK.out k hk)))
                refine hK.out _ _ ?_ (fun hHeld => ?_)
                · exact HSW.out _ hk7
                clear hK K
                try simp only [Act.put, List.setIfInBounds_toArray, List.set_cons_zero, List.set_cons_succ, List.getElem_toArray, List.getElem_cons_zero, List.getElem_cons_succ]
                refine wpAnyH_ready (rs := [7]) (by kernel_rfl) (by simp) (AllReadyH.cons rfl (fun K hK => ?_) AllReadyH.nil)
                go_simp
                refine hK.out _ _ ?_ (fun hHeld => ?_)
                · exact HSW.out _ (fun k hk => (heap_setCell_other _ _ _ _ (HKN.out k hk).1).trans (hk7 k hk))
                clear hK K
                try simp only [Act.put, List.setIfInBounds_toArray, List.set_cons_zero, List.set_cons_succ, List.getElem_toArray, List.getElem_cons_zero, List.getElem_cons_succ]
                refine wpAnyH_done (by kernel_rfl) ?_ _
                have HR2 := Lib.hid hadd.1
                have HB2 : Hid (Below B0 w12 (w7.setCell ⟨cb, 0, none⟩ (.slice (some ⟨gg, 0, none⟩) (en + 1 + 1) cap))) := Lib.hid ((((HBX.out.trans (hb22.mono HB0.out)).alloc (by have := HBX.out.size; have := hb22.size; have := HB0.out; omega) (.cells #[.slice da dn dc, .slice d0 dn0 dc0, .slice d1 dn1 dc1, .int .i64 q2.turn, .int .i64 q2.quiet] 38)).grown hgrow7 (by have := HBX.out.size; have := hb22.size; have := HB0.out; simp; omega) (fun k e => (hv22.own.lt k e).1)).setCell HCB.out _)
                clear hadd z7 f7 hk7 hown7 hgrow7 hat7 hlt7 z22 z22a hv22 hb22 hpf hb
                go_wp2_with fail
                generalize w7.setCell ⟨cb, 0, none⟩ (.slice (some ⟨gg, 0, none⟩) (en + 1 + 1) cap) = w8' at HR2 HB2 ⊢
                go_roundw
                case rel => exact ⟨k + 1, q2, es ++ [q], by omega, by go_num, HB2, HR2, HC2, HE2⟩
                case measure => simp [intOf]; omega
              · go_simp
                go_at_call 31; refine (HAFT.out _ (Below.refl _ _).drew).mono ?_; rintro e w22 ⟨da, dn, dc, d0, dn0, dc0, d1, dn1, dc1, rfl, hpf, hb⟩
                have hb22 : Below w21.heap.size w21 w22 := (Below.refl w21.heap.size w21).drew.trans hb
                have hv22 := HV21.out.keep hb22
                have z22 : w22.cell? ⟨cb, 0, none⟩ = some (.slice (some ⟨g2, 0, none⟩) (en + 1) pc) := (hv22.nth HPL.out).1
                have z22a : (w22.alloc (.cells #[.slice da dn dc, .slice d0 dn0 dc0, .slice d1 dn1 dc1, .int .i64 q2.turn, .int .i64 q2.quiet] 38)).cell? ⟨cb, 0, none⟩ = some (.slice (some ⟨g2, 0, none⟩) (en + 1) pc) := Lib.cell?_alloc_some _ z22
                refine hK.out _ _ ?_ (fun hHeld => ?_)
                · exact HSW.out _ (fun k hk => hb22.block k (HLK.out k hk))
                clear hK K
                try simp only [Act.put, List.setIfInBounds_toArray, List.set_cons_zero, List.set_cons_succ, List.getElem_toArray, List.getElem_cons_zero, List.getElem_cons_succ]
                refine wpAnyH_ready (rs := [0, 5]) (by kernel_rfl) (by simp) (AllReadyH.cons rfl (fun K hK => ?_) (AllReadyH.cons rfl (fun K hK => ?_) AllReadyH.nil))
                · go_simp
                  refine hK.out _ _ ?_ (fun hHeld => ?_)
                  · exact HSW.out _ (fun k hk => hb22.block k (HLK.out k hk))
                  clear hK K
                  try simp only [Act.put, List.setIfInBounds_toArray, List.set_cons_zero, List.set_cons_succ, List.getElem_toArray, List.getElem_cons_zero]
                  refine wpAnyH_ready (rs := [5]) (by kernel_rfl) (by simp) (AllReadyH.cons rfl (fun K hK => ?_) AllReadyH.nil)
                  go_simp
                  refine hK.out _ _ ?_ (fun hHeld => ?_)
                  · exact HSW.out _ (fun k hk => (Below.heap_alloc w22 _ k (Nat.lt_of_lt_of_le (HLK.out k hk) hb22.size)).trans (hb22.block k (HLK.out k hk)))
                  clear hK K
                  try simp only [Act.put, List.setIfInBounds_toArray, List.set_cons_zero, List.set_cons_succ, List.getElem_toArray, List.getElem_cons_zero, List.getElem_cons_succ]
                  refine wpAnyH_ready (rs := [6]) (by kernel_rfl) (by simp) (AllReadyH.cons rfl (fun K hK => ?_) AllReadyH.nil)
                  refine step_append_lies _ (by rfl) _ _ _ (by rfl) B0 38 i0 _ 5 88 Tryz.underlying56 hi hz0 hz1 hz2 rfl (by omega) (.slice (some ⟨g2, 0, none⟩) (en + 1) pc) (en + 1) news (by rfl) (by have h := hv22.own; rw [← HPL.out] at h; exact (own_below h (Below.refl _ _)).alloc _) ⟨w22.heap.size, 0, none⟩ 1 1 [.slice da dn dc, .slice d0 dn0 dc0, .slice d1 dn1 dc1, .int .i64 q2.turn, .int .i64 q2.quiet] (by rfl) (by rfl) (World.news_of_block (cs := #[.slice da dn dc, .slice d0 dn0 dc0, .slice d1 dn1 dc1, .int .i64 q2.turn, .int .i64 q2.quiet]) (t := 38) (fr := (0, 0)) (heap_alloc_new w22 _)) (by simp [Value.oneCell']) (by omega) (by unfold maxLen; omega) (by omega) (by have := hb22.size; have := HB0.out; simp; omega) (w22.heap.size + 1) (by simp) ?_
                  intro gg cap w7 hown7 hgrow7 hat7 hlt7
                  have hadd := PRowV.add (q := q2) hv22 (N := w21.heap.size) HRL.out HCL.out hb22.size ((Below.refl w22.heap.size w22).alloc (Nat.le_refl _) (.cells #[.slice da dn dc, .slice d0 dn0 dc0, .slice d1 dn1 dc1, .int .i64 q2.turn, .int .i64 q2.quiet] 38)) (hpf.on (fun _ _ _ => rfl) (fun k hk => hk)) (by have h := hown7; rw [HPL.out] at h; exact h) hgrow7 hat7
                  rw [← HPL.out] at hadd
                  have z7 : w7.cell? ⟨cb, 0, none⟩ = some (.slice (some ⟨g2, 0, none⟩) (en + 1) pc) := cell_of_row w7 cb 0 _ _ (0, 0) (hadd.2.2.trans hv22.cell)
                  have f7 : w7.frozen? ⟨cb, 0, none⟩ = false := frozen_of_row w7 cb 0 _ _ (hadd.2.2.trans hv22.cell)
                  have hk7 : ∀ k, HKS k → w7.heap[k]? = w21.heap[k]? := fun k hk => (hgrow7.block k (by have := HLK.out k hk; have := hb22.size; simp; omega) (fun e => (HKN.out k hk).2 (by simpa [Value.ownBlock] using e))).trans ((Below.heap_alloc w22 _ k (Nat.lt_of_lt_of_le (HLK.out k hk) hb22.size)).trans (hb22.block k (HLK.out k hk)))
                  refine hK.out _ _ ?_ (fun hHeld => ?_)
                  · exact HSW.out _ hk7
                  clear hK K
                  try simp only [Act.put, List.setIfInBounds_toArray, List.set_cons_zero, List.set_cons_succ, List.getElem_toArray, List.getElem_cons_zero, List.getElem_cons_succ]
                  refine wpAnyH_ready (rs := [7]) (by kernel_rfl) (by simp) (AllReadyH.cons rfl (fun K hK => ?_) AllReadyH.nil)
                  go_simp
                  refine hK.out _ _ ?_ (fun hHeld => ?_)
                  · exact HSW.out _ (fun k hk => (heap_setCell_other _ _ _ _ (HKN.out k hk).1).trans (hk7 k hk))
                  clear hK K
                  try simp only [Act.put, List.setIfInBounds_toArray, List.set_cons_zero, List.set_cons_succ, List.getElem_toArray, List.getElem_cons_zero, List.getElem_cons_succ]
                  refine wpAnyH_done (by kernel_rfl) ?_ _
                  have HR2 := Lib.hid hadd.1
                  have HB2 : Hid (Below B0 w12 (w7.setCell ⟨cb, 0, none⟩ (.slice (some ⟨gg, 0, none⟩) (en + 1 + 1) cap))) := Lib.hid ((((HBX.out.trans (hb22.mono HB0.out)).alloc (by have := HBX.out.size; have := hb22.size; have := HB0.out; omega) (.cells #[.slice da dn dc, .slice d0 dn0 dc0, .slice d1 dn1 dc1, .int .i64 q2.turn, .int .i64 q2.quiet] 38)).grown hgrow7 (by have := HBX.out.size; have := hb22.size; have := HB0.out; simp; omega) (fun k e => (hv22.own.lt k e).1)).setCell HCB.out _)
                  clear hadd z7 f7 hk7 hown7 hgrow7 hat7 hlt7 z22 z22a hv22 hb22 hpf hb
                  go_wp2_with fail
                  generalize w7.setCell ⟨cb, 0, none⟩ (.slice (some ⟨gg, 0, none⟩) (en + 1 + 1) cap) = w8' at HR2 HB2 ⊢
                  go_roundw
                  case rel => exact ⟨k + 1, q2, es ++ [q], by omega, by go_num, HB2, HR2, HC2, HE2⟩
                  case measure => simp [intOf]; omega
                · go_simp
                  refine hK.out _ _ ?_ (fun hHeld => ?_)
                  · exact HSW.out _ (fun k hk => (Below.heap_alloc w22 _ k (Nat.lt_of_lt_of_le (HLK.out k hk) hb22.size)).trans (hb22.block k (HLK.out k hk)))
                  clear hK K
                  try simp only [Act.put, List.setIfInBounds_toArray, List.set_cons_zero, List.set_cons_succ, List.getElem_toArray, List.getElem_cons_zero, List.getElem_cons_succ]
                  refine wpAnyH_ready (rs := [0]) (by kernel_rfl) (by simp) (AllReadyH.cons rfl (fun K hK => ?_) AllReadyH.nil)
                  go_simp
                  refine hK.out _ _ ?_ (fun hHeld => ?_)
                  · exact HSW.out _ (fun k hk => (Below.heap_alloc w22 _ k (Nat.lt_of_lt_of_le (HLK.out k hk) hb22.size)).trans (hb22.block k (HLK.out k hk)))
                  clear hK K
                  try simp only [Act.put, List.setIfInBounds_toArray, List.set_cons_zero, List.set_cons_succ, List.getElem_toArray, List.getElem_cons_zero]
                  refine wpAnyH_ready (rs := [6]) (by kernel_rfl) (by simp) (AllReadyH.cons rfl (fun K hK => ?_) AllReadyH.nil)
                  refine step_append_lies _ (by rfl) _ _ _ (by rfl) B0 38 i0 _ 5 88 Tryz.underlying56 hi hz0 hz1 hz2 rfl (by omega) (.slice (some ⟨g2, 0, none⟩) (en + 1) pc) (en + 1) news (by rfl) (by have h := hv22.own; rw [← HPL.out] at h; exact (own_below h (Below.refl _ _)).alloc _) ⟨w22.heap.size, 0, none⟩ 1 1 [.slice da dn dc, .slice d0 dn0 dc0, .slice d1 dn1 dc1, .int .i64 q2.turn, .int .i64 q2.quiet] (by rfl) (by rfl) (World.news_of_block (cs := #[.slice da dn dc, .slice d0 dn0 dc0, .slice d1 dn1 dc1, .int .i64 q2.turn, .int .i64 q2.quiet]) (t := 38) (fr := (0, 0)) (heap_alloc_new w22 _)) (by simp [Value.oneCell']) (by omega) (by unfold maxLen; omega) (by omega) (by have := hb22.size; have := HB0.out; simp; omega) (w22.heap.size + 1) (by simp) ?_
                  intro gg cap w7 hown7 hgrow7 hat7 hlt7
                  have hadd := PRowV.add (q := q2) hv22 (N := w21.heap.size) HRL.out HCL.out hb22.size ((Below.refl w22.heap.size w22).alloc (Nat.le_refl _) (.cells #[.slice da dn dc, .slice d0 dn0 dc0, .slice d1 dn1 dc1, .int .i64 q2.turn, .int .i64 q2.quiet] 38)) (hpf.on (fun _ _ _ => rfl) (fun k hk => hk)) (by have h := hown7; rw [HPL.out] at h; exact h) hgrow7 hat7
                  rw [← HPL.out] at hadd
                  have z7 : w7.cell? ⟨cb, 0, none⟩ = some (.slice (some ⟨g2, 0, none⟩) (en + 1) pc) := cell_of_row w7 cb 0 _ _ (0, 0) (hadd.2.2.trans hv22.cell)
                  have f7 : w7.frozen? ⟨cb, 0, none⟩ = false := frozen_of_row w7 cb 0 _ _ (hadd.2.2.trans hv22.cell)
                  have hk7 : ∀ k, HKS k → w7.heap[k]? = w21.heap[k]? := fun k hk => (hgrow7.block k (by have := HLK.out k hk; have := hb22.size; simp; omega) (fun e => (HKN.out k hk).2 (by simpa [Value.ownBlock] using e))).trans ((Below.heap_alloc w22 _ k (Nat.lt_of_lt_of_le (HLK.out k hk) hb22.size)).trans (hb22.block k (HLK.out k hk)))
                  refine hK.out _ _ ?_ (fun hHeld => ?_)
                  · exact HSW.out _ hk7
                  clear hK K
                  try simp only [Act.put, List.setIfInBounds_toArray, List.set_cons_zero, List.set_cons_succ, List.getElem_toArray, List.getElem_cons_zero, List.getElem_cons_succ]
                  refine wpAnyH_ready (rs := [7]) (by kernel_rfl) (by simp) (AllReadyH.cons rfl (fun K hK => ?_) AllReadyH.nil)
                  go_simp
                  refine hK.out _ _ ?_ (fun hHeld => ?_)
                  · exact HSW.out _ (fun k hk => (heap_setCell_other _ _ _ _ (HKN.out k hk).1).trans (hk7 k hk))
                  clear hK K
                  try simp only [Act.put, List.setIfInBounds_toArray, List.set_cons_zero, List.set_cons_succ, List.getElem_toArray, List.getElem_cons_zero, List.getElem_cons_succ]
                  refine wpAnyH_done (by kernel_rfl) ?_ _
                  have HR2 := Lib.hid hadd.1
                  have HB2 : Hid (Below B0 w12 (w7.setCell ⟨cb, 0, none⟩ (.slice (some ⟨gg, 0, none⟩) (en + 1 + 1) cap))) := Lib.hid ((((HBX.out.trans (hb22.mono HB0.out)).alloc (by have := HBX.out.size; have := hb22.size; have := HB0.out; omega) (.cells #[.slice da dn dc, .slice d0 dn0 dc0, .slice d1 dn1 dc1, .int .i64 q2.turn, .int .i64 q2.quiet] 38)).grown hgrow7 (by have := HBX.out.size; have := hb22.size; have := HB0.out; simp; omega) (fun k e => (hv22.own.lt k e).1)).setCell HCB.out _)
                  clear hadd z7 f7 hk7 hown7 hgrow7 hat7 hlt7 z22 z22a hv22 hb22 hpf hb
                  go_wp2_with fail
                  generalize w7.setCell ⟨cb, 0, none⟩ (.slice (some ⟨gg, 0, none⟩) (en + 1 + 1) cap) = w8' at HR2 HB2 ⊢
                  go_roundw
                  case rel => exact ⟨k + 1, q2, es ++ [q], by omega, by go_num, HB2, HR2, HC2, HE2⟩
                  case measure => simp [intOf]; omega
          · exact absurd (hEE.out.trans (by rw [List.drop_eq_nil_of_le (by rw [← HML.out]; omega)]; rfl)) HE0.out
  · have HRB1 := Lib.hid (HRB.out hz)
    have hne := bool_of_ne hz
    have hcc : (c == c) = true := by simp
    clear HRB HRG HBR HRZ hz
    go_at_call 16; refine (HRB1.out _ HB9.out).mono ?_; rintro e w10 ⟨rfl, hb⟩
    have hb10 := HB9.out.trans (hb.mono HB9.out.size)
    have hal := (Below.refl w10.heap.size w10).alloc (Nat.le_refl _) (.cells #[.slice none 0 0, .slice none 0 0, .slice none 0 0, .int .i64 0, .int .i64 0] 38)
    have HB11 := Lib.hid (hb10.trans (hal.mono hb10.size))
    have HPB := Lib.hid (heap_alloc_new w10 (.cells #[.slice none 0 0, .slice none 0 0, .slice none 0 0, .int .i64 0, .int .i64 0] 38))
    obtain ⟨y0, y1, y2, y3, y4, y5, y6, y7, y8, y9, y10⟩ := HY.out _ HB11.out
    clear hb hb10 hal HRB1
    go_wp2_with fail
    generalize w10.alloc (.cells #[.slice none 0 0, .slice none 0 0, .slice none 0 0, .int .i64 0, .int .i64 0] 38) = w11 at HB11 HPB y0 y1 y2 y3 y4 y5 y6 y7 y8 y9 y10 ⊢
    generalize w10.heap.size = pq at HPB ⊢
    go_at_call 25; refine (HRE.out _ HB11.out).mono ?_; rintro e w12 ⟨rfl, hb⟩
    have HBE := Lib.hid (HB.out.trans ((HB11.out.trans (hb.mono HB11.out.size)).mono HB.out.size))
    have x0 : w12.cell? ⟨pq, 0, none⟩ = some (.slice none 0 0) := cell_of_row w12 pq 0 _ _ (0, 0) (bkeep HPB.out hb)
    clear hb y0 y1 y2 y3 y4 y5 y6 y7 y8 y9 y10 HB11 HB9
    go_wp2_with fail
    go_ret
    exact ⟨rfl, HBE.out⟩
end Go.Proofs.YtkficjpnflnjhaaGreatDoor
