/- BitsSubsets: the walk of the law. -/
import Derived.Test.YtffnnpjgfjkmjaaIter
import Derived.Deep.RegionWith
import Derived.StillTailTactics
namespace Go.Proofs.Ytffnnpjgfjkmjaa
open Go.RowKit Go.Shelf
attribute [local go_sem] Oper.semAt_some

/-- What came last; 0 if nothing came. -/
def lastOf (pre : List (BitVec 64)) : BitVec 64 := pre.getLast?.getD 0#64
theorem lastOf_snoc (pre : List (BitVec 64)) (x : BitVec 64) : lastOf (pre ++ [x]) = x := by simp [lastOf]
/-- The law's question of one subset x, when pre has come before. -/
def okSub (c : BitVec 64) (pre : List (BitVec 64)) (x : BitVec 64) : Prop := x &&& ~~~c = 0#64 ∧ (pre = [] ∨ (lastOf pre).toNat < x.toNat) ∧ pre.length ≤ 300
/-- All that came answered it well. -/
def Good (c : BitVec 64) (l : List (BitVec 64)) : Prop := ∀ k, k < l.length → okSub c (l.take k) (l[k]?.getD 0#64)
theorem Good.nil {c : BitVec 64} : Good c [] := fun k hk => absurd hk (by simp)
theorem Good.snoc {c : BitVec 64} (pre : List (BitVec 64)) (x : BitVec 64) (h : Good c pre) (hx : okSub c pre x) : Good c (pre ++ [x]) := by
  intro k hk
  by_cases e : k < pre.length
  · have h1 := h k e
    rw [List.take_append_of_le_length (by omega), List.getElem?_append_left e]; exact h1
  · have e2 : k = pre.length := by rw [List.length_append] at hk; simp at hk; omega
    subst e2
    rw [List.take_left' rfl]
    simpa using hx
theorem good_last {c : BitVec 64} {l : List (BitVec 64)} (h : Good c l) : ∀ pre x, l = pre ++ [x] → okSub c pre x := by
  rintro pre x rfl
  have := h pre.length (by simp)
  rw [List.take_left' rfl] at this
  simpa using this
theorem good_upto (c : BitVec 64) (M : Nat) (hM : M = many c) (h : M ≤ 256) (k : Nat) (hk : k ≤ M) : Good c (upto (subW c) k) := by
  induction k with
  | zero => exact Good.nil
  | succ k ih =>
    rw [upto_succ]
    refine Good.snoc _ _ (ih (by omega)) ⟨subW_sub c k, ?_, by rw [upto_length]; omega⟩
    cases k with
    | zero => exact .inl rfl
    | succ k => right; rw [upto_succ, lastOf_snoc]; exact subW_lt c k (k + 1) (by omega) (by omega)

theorem shl_small8 : ∀ n : Fin 9, ((2 : Int) ^ n.val == IntKind.i64.wrap (2 ^ n.val)) = true := by decide +kernel
theorem shl_small (n : Nat) (h : n ≤ 8) : ((2 : Int) ^ n == IntKind.i64.wrap (2 ^ n)) = true := shl_small8 ⟨n, by omega⟩
/-- What the body's two stores leave. -/
theorem two_stores (R : Nat) (w W : World) (a r v2 v3 u2 u3 : Value) (hc : W.cell? ⟨R, 0, none⟩ = some a) (hr : W.cell? ⟨R + 1, 0, none⟩ = some r) (fr : W.frozen? ⟨R + 1, 0, none⟩ = false)
    (hn : W.cell? ⟨R + 1 + 1, 0, none⟩ = some u2) (fn : W.frozen? ⟨R + 1 + 1, 0, none⟩ = false) (hl : W.cell? ⟨R + 1 + 1 + 1, 0, none⟩ = some u3) (fl : W.frozen? ⟨R + 1 + 1 + 1, 0, none⟩ = false) (hB : Below R w W) :
    KeepsOthers W ((W.setCell ⟨R + 1 + 1, 0, none⟩ v2).setCell ⟨R + 1 + 1 + 1, 0, none⟩ v3) ∧ KeepsBox (R + 1 + 1 + 1 + 1) W ((W.setCell ⟨R + 1 + 1, 0, none⟩ v2).setCell ⟨R + 1 + 1 + 1, 0, none⟩ v3) ∧
    ((W.setCell ⟨R + 1 + 1, 0, none⟩ v2).setCell ⟨R + 1 + 1 + 1, 0, none⟩ v3).cell? ⟨R, 0, none⟩ = some a ∧ ((W.setCell ⟨R + 1 + 1, 0, none⟩ v2).setCell ⟨R + 1 + 1 + 1, 0, none⟩ v3).cell? ⟨R + 1, 0, none⟩ = some r ∧
    ((W.setCell ⟨R + 1 + 1, 0, none⟩ v2).setCell ⟨R + 1 + 1 + 1, 0, none⟩ v3).frozen? ⟨R + 1, 0, none⟩ = false ∧
    ((W.setCell ⟨R + 1 + 1, 0, none⟩ v2).setCell ⟨R + 1 + 1 + 1, 0, none⟩ v3).cell? ⟨R + 1 + 1, 0, none⟩ = some v2 ∧ ((W.setCell ⟨R + 1 + 1, 0, none⟩ v2).setCell ⟨R + 1 + 1 + 1, 0, none⟩ v3).frozen? ⟨R + 1 + 1, 0, none⟩ = false ∧
    ((W.setCell ⟨R + 1 + 1, 0, none⟩ v2).setCell ⟨R + 1 + 1 + 1, 0, none⟩ v3).cell? ⟨R + 1 + 1 + 1, 0, none⟩ = some v3 ∧ ((W.setCell ⟨R + 1 + 1, 0, none⟩ v2).setCell ⟨R + 1 + 1 + 1, 0, none⟩ v3).frozen? ⟨R + 1 + 1 + 1, 0, none⟩ = false ∧
    Below R w ((W.setCell ⟨R + 1 + 1, 0, none⟩ v2).setCell ⟨R + 1 + 1 + 1, 0, none⟩ v3) := by
  have far : ∀ (V : World) (p q : Nat) (v : Value), p ≠ q → (V.setCell ⟨p, 0, none⟩ v).cell? ⟨q, 0, none⟩ = V.cell? ⟨q, 0, none⟩ := fun V p q v h => World.cell?_setCell_other _ _ _ _ (fun e => h (congrArg Addr.block e))
  refine ⟨(KeepsOthers.setCell _ _ _).trans (KeepsOthers.setCell _ _ _), ?_, ?_, ?_, ?_, ?_, ?_, ?_, ?_, ?_⟩
  · intro v e; rw [far _ _ _ _ (by omega), far _ _ _ _ (by omega)]; exact e
  · rw [far _ _ _ _ (by omega), far _ _ _ _ (by omega)]; exact hc
  · rw [far _ _ _ _ (by omega), far _ _ _ _ (by omega)]; exact hr
  · rw [World.frozen?_setCell, World.frozen?_setCell]; exact fr
  · rw [far _ _ _ _ (by omega)]; exact World.cell?_setCell_same _ _ _ hn
  · rw [World.frozen?_setCell, World.frozen?_setCell]; exact fn
  · exact World.cell?_setCell_same _ _ _ (by rw [far _ _ _ _ (by omega)]; exact hl)
  · rw [World.frozen?_setCell, World.frozen?_setCell]; exact fl
  · exact (hB.setCell (p := ⟨R + 1 + 1, 0, none⟩) (by simp; omega) _).setCell (p := ⟨R + 1 + 1 + 1, 0, none⟩) (by simp; omega) _

set_option maxRecDepth 100000 in
set_option maxHeartbeats 2000000 in
theorem subsets_walk (b : BitVec 64) (w : World) :
    CallsIn Fence.wide 6 Try.prog 5 #[.int .u64 (b.toNat : Int)] w fun e w' => e = .returned (.bool true) ∧ Below w.heap.size w w' := by
  refine callsIn_of_wp_marks Try.func5 rfl trivial ?_ rfl
  simp only [Try.ntmps5, List.size_toArray, List.length_cons, List.length_nil, Nat.reduceAdd, Nat.reduceSub, Array.replicate_succ, Array.replicate_zero, List.push_toArray, List.append_toArray, List.nil_append, List.cons_append]
  gi_wp2_with (refine ⟨trivial, ?_⟩; gi_at_call 8; refine (callsIn_wide.2 (count_513 _)).mono ?_; rintro e w' ⟨rfl, rfl⟩)
  gi_loopw [] (fun wr => ∃ c : BitVec 64, wr = (w.alloc (.cells #[.int .u64 (c.toNat : Int)] 22)).alloc (.cells #[.bool false] 4)) (fun wr => match wr.cell? ⟨w.heap.size, 0, none⟩ with | some v => (intOf v).toNat | none => 0)
  case atStart => exact ⟨b, rfl⟩
  case round =>
    obtain ⟨c, rfl⟩ := hrel
    by_cases h8 : cnt c ≤ 8
    · obtain ⟨n8, hn8⟩ : ∃ n : Nat, n = cnt c := ⟨_, rfl⟩
      have KC : Hid (∀ w, Calls Try.prog 8 #[.int .u64 (c.toNat : Int)] w fun e w' => e = .returned (.int .i64 (n8 : Int)) ∧ w' = w) := Lib.hid (fun w => by rw [hn8]; exact count_any c w)
      have h8' : n8 ≤ 8 := by omega
      have hM : Hid (2 ^ n8 = many c) := Lib.hid (by rw [many, hn8])
      clear hn8 h8
      gi_wp2_with (first
        | (refine ⟨trivial, ?_⟩; gi_at_call 8; refine (callsIn_wide.2 (KC.out _)).mono ?_; rintro e w' ⟨rfl, rfl⟩)
        | (refine ⟨trivial, ?_⟩; gi_at_call 11; refine (subsets_in _ c _).mono ?_; rintro e w' ⟨rfl, rfl⟩))
      have hB0 : Below w.heap.size w ((((((w.alloc (.cells #[.int .u64 (c.toNat : Int)] 22)).alloc (.cells #[.bool false] 4)).alloc (.cells #[.int .i64 0] 3)).alloc (.cells #[.int .u64 0] 22)).alloc (.cells #[.int .u64 (c.toNat : Int)] 22))) :=
        (((((Below.refl _ w).alloc (Nat.le_refl _) _).alloc (by simp) _).alloc (by simp; omega) _).alloc (by simp; omega) _).alloc (by simp; omega) _
      have c0 := c_new w (.int .u64 (c.toNat : Int)) 22
      have c1 := c_new (w.alloc (.cells #[.int .u64 (c.toNat : Int)] 22)) (.bool false) 4
      have g1 := f_new (w.alloc (.cells #[.int .u64 (c.toNat : Int)] 22)) (.bool false) 4
      have c2 := c_new ((w.alloc (.cells #[.int .u64 (c.toNat : Int)] 22)).alloc (.cells #[.bool false] 4)) (.int .i64 0) 3
      have g2 := f_new ((w.alloc (.cells #[.int .u64 (c.toNat : Int)] 22)).alloc (.cells #[.bool false] 4)) (.int .i64 0) 3
      have c3 := c_new (((w.alloc (.cells #[.int .u64 (c.toNat : Int)] 22)).alloc (.cells #[.bool false] 4)).alloc (.cells #[.int .i64 0] 3)) (.int .u64 0) 22
      have g3 := f_new (((w.alloc (.cells #[.int .u64 (c.toNat : Int)] 22)).alloc (.cells #[.bool false] 4)).alloc (.cells #[.int .i64 0] 3)) (.int .u64 0) 22
      have c4 := c_new ((((w.alloc (.cells #[.int .u64 (c.toNat : Int)] 22)).alloc (.cells #[.bool false] 4)).alloc (.cells #[.int .i64 0] 3)).alloc (.cells #[.int .u64 0] 22)) (.int .u64 (c.toNat : Int)) 22
      simp only [World.size_alloc] at c1 g1 c2 g2 c3 g3 c4
      refine wpIn_rangeFunc_ownF rfl (by omega) (gf := 19) (lb := #[.pointer (some ⟨w.heap.size + 1 + 1 + 1 + 1, 0, none⟩)]) rfl trivial (enters_of Try.func19 (by kernel_rfl) rfl)
        (subsets_stops _ (by omega) (w.heap.size + 1 + 1 + 1 + 1) (2 ^ n8) c hM _ (by simp) c4) keepsBox_t (fun W l o o' _ h hc _ => keepsBox_b W l o o' h hc) (Below.refl _ _) (fun _ => rfl)
        (fun pre W => (Good c pre ∧ W.cell? ⟨w.heap.size, 0, none⟩ = some (.int .u64 (c.toNat : Int)) ∧ W.cell? ⟨w.heap.size + 1, 0, none⟩ = some (.bool false) ∧ W.frozen? ⟨w.heap.size + 1, 0, none⟩ = false ∧
          W.cell? ⟨w.heap.size + 1 + 1, 0, none⟩ = some (.int .i64 (pre.length : Int)) ∧ W.frozen? ⟨w.heap.size + 1 + 1, 0, none⟩ = false ∧
          W.cell? ⟨w.heap.size + 1 + 1 + 1, 0, none⟩ = some (.int .u64 ((lastOf pre).toNat : Int)) ∧ W.frozen? ⟨w.heap.size + 1 + 1 + 1, 0, none⟩ = false) ∧ Below w.heap.size w W)
        (fun e pre W => (e = .ret ∧ ¬ Good c pre) ∧ Below w.heap.size w W)
        (OwnFrom.and (Own.from (fun s A B row hs hg hr => ⟨hs.1, cell_kept hs.2.1 hg hr, cell_kept hs.2.2.1 hg hr, (frozen_kept hs.2.2.1 hg hr).trans hs.2.2.2.1, cell_kept hs.2.2.2.2.1 hg hr, (frozen_kept hs.2.2.2.2.1 hg hr).trans hs.2.2.2.2.2.1, cell_kept hs.2.2.2.2.2.2.1 hg hr, (frozen_kept hs.2.2.2.2.2.2.1 hg hr).trans hs.2.2.2.2.2.2.2⟩) _) (ownFrom_below (Nat.le_refl _) (by simp; omega)))
        (fun e => OwnFrom.and (ownFrom_pure _ (fun pre => e = .ret ∧ ¬ Good c pre)) (ownFrom_below (Nat.le_refl _) (by simp; omega)))
        ⟨⟨Good.nil, c_more _ (c_more _ (c_more _ (c_more _ c0))), c_more _ (c_more _ (c_more _ c1)), f_more _ (c_more _ (c_more _ c1)) (f_more _ (c_more _ c1) (f_more _ c1 g1)), c_more _ (c_more _ c2), f_more _ (c_more _ c2) (f_more _ c2 g2), c_more _ c3, f_more _ c3 g3⟩, hB0⟩
        (fun x => { tmps := #[.int .u64 (b.toNat : Int), .pointer (some ⟨w.heap.size, 0, none⟩), .pointer (some ⟨w.heap.size + 1, 0, none⟩), .pointer (some ⟨w.heap.size + 1 + 1, 0, none⟩), .pointer (some ⟨w.heap.size + 1 + 1 + 1, 0, none⟩), .int .u64 (x.toNat : Int), .int .i64 2, .bool false, .int .u64 (c.toNat : Int), .int .i64 n8, .bool (decide ((8 : Int) < (n8 : Int))), u11, u12, u13, u14, .int .u64 (c.toNat : Int), .func (.func 19) #[] #[.pointer (some ⟨w.heap.size + 1 + 1 + 1 + 1, 0, none⟩)], .int .u64 (x.toNat : Int), undef, undef, undef, undef, undef, undef, undef, undef, undef, undef, undef, undef, undef, undef, undef, undef, undef, undef, undef, undef, undef, undef, undef, undef, undef], defers := [] }) ?assign ?body ?done ?stop
      case assign =>
        intro l x W K hK
        gi_wp2
        exact hK
      case body =>
        rintro l pre x W ⟨⟨hg, hc, hr, fr, hn, fn, hl, fl⟩, hB⟩ _
        by_cases hsub : x &&& ~~~c = 0#64
        · have hs : (bits BinOp.andNot IntKind.u64 (x.toNat : Int) (c.toNat : Int) != 0) = false := by rw [b_andNot]; exact (int_zero hsub).2
          by_cases hne : pre = []
          · subst hne
            have hgo : Hid (Good c [x]) := Lib.hid (Good.snoc [] x Good.nil ⟨hsub, .inl rfl, by simp⟩)
            clear hg hsub
            simp only [List.length_nil] at hn
            have HT := two_stores w.heap.size w W _ _ (.int .i64 1) (.int .u64 (x.toNat : Int)) _ _ hc hr fr hn fn hl fl hB
            have HT' : Hid _ := Lib.hid HT
            clear HT
            gi_wp2
            obtain ⟨t1, t2, t3, t4, t5, t6, t7, t8, t9, t10⟩ := HT'.out
            exact ⟨t1, t2, ⟨hgo.out, t3, t4, t5, t6, t7, by rw [List.nil_append]; exact t8, t9⟩, t10⟩
          · obtain ⟨m, hm⟩ : ∃ m : Nat, m = pre.length := ⟨_, rfl⟩
            have hpos : 0 < m := by rw [hm]; exact List.length_pos_iff.2 hne
            rw [← hm] at hn
            by_cases hlt : (lastOf pre).toNat < x.toNat
            · by_cases h300 : m ≤ 300
              · have hgo : Hid (Good c (pre ++ [x])) := Lib.hid (Good.snoc pre x hg ⟨hsub, .inr hlt, by omega⟩)
                have HM : Hid _ := Lib.hid hm
                clear hg hsub hm hne
                have HT := two_stores w.heap.size w W _ _ (.int .i64 ((m : Int) + 1)) (.int .u64 (x.toNat : Int)) _ _ hc hr fr hn fn hl fl hB
                have HT' : Hid _ := Lib.hid HT
                clear HT
                gi_wp2
                obtain ⟨t1, t2, t3, t4, t5, t6, t7, t8, t9, t10⟩ := HT'.out
                exact ⟨t1, t2, ⟨hgo.out, t3, t4, t5, by rw [t6, HM.out, List.length_append]; rfl, t7, by rw [lastOf_snoc]; exact t8, t9⟩, t10⟩
              · have hbad : Hid (¬ Good c (pre ++ [x])) := Lib.hid (fun h => by have := (good_last h pre x rfl).2.2; omega)
                clear hg hsub hm hne
                gi_wp2
                exact ⟨KeepsOthers.setCell _ _ _, ⟨rfl, hbad.out⟩, hB.setCell (p := ⟨w.heap.size + 1, 0, none⟩) (by simp) _⟩
            · have hbad : Hid (¬ Good c (pre ++ [x])) := Lib.hid (fun h => (good_last h pre x rfl).2.1.elim hne hlt)
              have hle : x.toNat ≤ (lastOf pre).toNat := by omega
              clear hg hsub hm hne hlt
              gi_wp2
              exact ⟨KeepsOthers.setCell _ _ _, ⟨rfl, hbad.out⟩, hB.setCell (p := ⟨w.heap.size + 1, 0, none⟩) (by simp) _⟩
        · have hs : (bits BinOp.andNot IntKind.u64 (x.toNat : Int) (c.toNat : Int) != 0) = true := by rw [b_andNot]; exact (int_ne_zero hsub).2
          have hbad : Hid (¬ Good c (pre ++ [x])) := Lib.hid (fun h => hsub (good_last h pre x rfl).1)
          clear hg hsub
          gi_wp2
          exact ⟨KeepsOthers.setCell _ _ _, ⟨rfl, hbad.out⟩, hB.setCell (p := ⟨w.heap.size + 1, 0, none⟩) (by simp) _⟩
      case done =>
        rintro D ys W hD rfl ⟨⟨hg, hc, hr, fr, hn, fn, hl, fl⟩, hB⟩ hK
        rw [upto_length] at hn
        have hsh : ((2 : Int) ^ n8 == IntKind.i64.wrap (2 ^ n8)) = true := shl_small n8 h8'
        gi_wp2
        refine wpIn_wide.2 ?_
        refine wp_region_still_tail 5 (by kernel_rfl) (by kernel_rfl) ?_
        simp only [List.take_succ_cons, List.take_zero, List.drop_succ_cons, List.drop_zero]
        still_step
        still_step
        still_call (KC.out _)
        still_step
        still_step
        refine wpStill_nil ?_
        change wpList _ _ _ _ _ W.drew
        go_wp2
        have hK' : ((W.setCell ⟨w.heap.size + 1, 0, none⟩ (.bool true)).drew).heap[D]? = some (.deferred (some [])) := (KeepsOthers.setCell W ⟨w.heap.size + 1, 0, none⟩ (.bool true)).same D _ hK rfl
        have hcr : ((W.setCell ⟨w.heap.size + 1, 0, none⟩ (.bool true)).drew).cell? ⟨w.heap.size + 1, 0, none⟩ = some (.bool true) := World.cell?_setCell_same _ _ _ hr
        have hBB : Below w.heap.size w ((W.setCell ⟨w.heap.size + 1, 0, none⟩ (.bool true)).drew) := (hB.setCell (p := ⟨w.heap.size + 1, 0, none⟩) (by simp) _).drew
        generalize (W.setCell ⟨w.heap.size + 1, 0, none⟩ (.bool true)).drew = V at *
        gi_wp2
        refine ⟨by simp, .inl ⟨_, _, rfl, run_takeDeferred hK', ?_⟩⟩
        have hc5 := cell_kept hcr (grownBy_putObj' _ D (.deferred none)) (fun r e => by cases e; exact ⟨_, hK', rfl⟩)
        refine ⟨.bool true, ?_, rfl, hBB.trans (belowK_b (w := w) (Nat.le_refl _) _ D _ _ (by simp at hD; omega) hK' rfl rfl)⟩
        simp [results, Try.f5, go_sem, hc5]
      case stop =>
        rintro D e pre W hD ⟨k, hk, rfl⟩ ⟨⟨rfl, hng⟩, _⟩ _
        exact absurd (good_upto c (2 ^ n8) hM.out (Nat.le_trans (Nat.pow_le_pow_right (by omega) h8') (by omega : 2 ^ 8 ≤ 256)) k hk) hng
    · obtain ⟨n8, hn8⟩ : ∃ n : Nat, n = cnt c := ⟨_, rfl⟩
      have hc0 : c ≠ 0#64 := by rintro rfl; rw [cnt_zero] at h8; omega
      have h8' : 8 < n8 := by omega
      obtain ⟨d, hd⟩ : ∃ d : BitVec 64, d = c &&& (c - 1#64) := ⟨_, rfl⟩
      have hst : bits BinOp.and IntKind.u64 (c.toNat : Int) (IntKind.u64.wrap ((c.toNat : Int) - 1)) = (d.toNat : Int) := by
        rw [hd, ← b_and, ← b_sub]; rfl
      have hdec : Hid (d.toNat < c.toNat) := Lib.hid (by
        have h0 : c.toNat ≠ 0 := fun e => hc0 (BitVec.eq_of_toNat_eq (by simpa using e))
        have := c.isLt
        rw [hd, BitVec.toNat_and]
        have h1 := @Nat.and_le_right c.toNat (c - 1#64).toNat
        rw [BitVec.toNat_sub, show (1#64).toNat = 1 from rfl] at *
        omega)
      have KC : Hid (∀ w, Calls Try.prog 8 #[.int .u64 (c.toNat : Int)] w fun e w' => e = .returned (.int .i64 (n8 : Int)) ∧ w' = w) := Lib.hid (fun w => by rw [hn8]; exact count_any c w)
      clear hd hc0 hn8 h8
      gi_wp2_with (refine ⟨trivial, ?_⟩; gi_at_call 8; refine (callsIn_wide.2 (KC.out _)).mono ?_; rintro e w' ⟨rfl, rfl⟩)
      have hcell : ∀ x : BitVec 64, ((w.alloc (.cells #[.int .u64 (x.toNat : Int)] 22)).alloc (.cells #[.bool false] 4)).cell? ⟨w.heap.size, 0, none⟩ = some (.int .u64 (x.toNat : Int)) := fun x => c_more _ (c_new w _ _)
      refine ⟨⟨d, rfl⟩, ?_⟩
      rw [hcell, hcell]
      have := hdec.out
      simp only [intOf, Int.toNat_natCast]; exact this
theorem subsets_full (a0 : Int) (w0 : (Lit.int .u64 a0).wf = true) (w : World) :
    Calls Try.prog 5 #[.int .u64 a0] w fun e w' => e = .returned (.bool true) ∧ Below w.heap.size w w' := by
  obtain ⟨b, rfl⟩ := word_of w0
  exact callsIn_wide.1 (subsets_walk b w)
end Go.Proofs.Ytffnnpjgfjkmjaa
