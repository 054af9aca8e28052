/- bits.List: what it returns: a new slice that holds the squares in increasing order. -/
import Derived.Test.YtffnnpjgfjkmjaaDoorAll
import Derived.RangeFuncBox
import Derived.Maps.AppendAt
namespace Go.Proofs.YtffnnpjgfjkmjaaDoor
open Go.RowKit Go.Shelf
attribute [local go_sem] Oper.semAt_some

theorem Tryd.infoInt : (Tryd.prog.info? 3).map (fun i => (i.zero, i.size, i.bytes)) = some (some (.int .i64 0), 1, 8) := by kernel_rfl
/-- The squares as int values. -/
def ints (l : List Nat) : List Value := l.map fun x : Nat => Value.int .i64 (x : Int)
theorem ints_length (l : List Nat) : (ints l).length = l.length := by simp [ints]
theorem ints_snoc (l : List Nat) (x : Nat) : ints (l ++ [x]) = ints l ++ [.int .i64 (x : Int)] := by simp [ints]
theorem ints_at (l : List Nat) (i : Nat) (h : i < l.length) : (ints l)[i]? = some (.int .i64 ((l[i]?.getD 0 : Nat) : Int)) := by
  simp [ints, h]
/-- The same contract, with the world's equation turned: so the caller's name for the world stays. -/
theorem turned {P : Program} {f : FuncId} {args : Array Value} {w : World} {v : Ending} (h : Calls P f args w fun e w' => e = v ∧ w' = w) : Calls P f args w fun e w' => e = v ∧ w = w' :=
  h.mono fun _ _ h => ⟨h.1, h.2.symm⟩
/-- A slice value that leads to these cells. -/
def Row (W : World) (v : Value) (cs : List Value) : Prop :=
  (cs = [] ∧ ∃ a cap, v = .slice a 0 cap) ∨ ∃ g off cap, v = .slice (some ⟨g, off, none⟩) cs.length cap ∧ cs ≠ [] ∧ cs.length ≤ cap ∧ cap ≤ maxLen ∧ ∀ i u, cs[i]? = some u → W.cell? ⟨g, off + i, none⟩ = some u
theorem Row.of_owns {W : World} {base : Nat} {e : TypeId} {v : Value} {k : Nat} {xs : List Value} (h : W.ownsRow base e 1 v k xs) : Row W v xs := by
  have hl : xs.length = k := by simpa using h.1
  rcases h.2 with ⟨rfl, rfl⟩ | ⟨g, cap, cur, rfl, _, _, hkc, hcm, _, _⟩
  · exact .inl ⟨by simpa using hl, none, 0, rfl⟩
  · by_cases e : xs = []
    · subst e
      obtain rfl : k = 0 := by simpa using hl.symm
      exact .inl ⟨rfl, _, _, rfl⟩
    · refine .inr ⟨g, 0, cap, by rw [hl], e, by omega, hcm, fun i u hu => ?_⟩
      have := h.cells (g := g) rfl i u hu
      rw [Nat.zero_add]
      have e2 : (⟨g, 0, none⟩ : Addr).add i = ⟨g, i, none⟩ := by
        cases i <;> simp [Addr.add]
      rwa [e2] at this
theorem Row.below {W W' : World} {v : Value} {cs : List Value} (h : Row W v cs) {n : Nat} (hb : Below n W W') (hn : W.heap.size ≤ n) : Row W' v cs := by
  rcases h with h | ⟨g, off, cap, e1, e2, e3, e4, hc⟩
  · exact .inl h
  · refine .inr ⟨g, off, cap, e1, e2, e3, e4, fun i u hu => ?_⟩
    have h1 := hc i u hu
    have h2 := World.block_lt_of_cell? _ _ h1
    exact (hb.cell (p := ⟨g, off + i, none⟩) (by simp at h2 ⊢; omega)).trans h1

def ListPost (b : BitVec 64) (w : World) (e : Ending) (w' : World) : Prop := ∃ v, e = .returned v ∧ Row w' v (ints (squares b)) ∧ Below w.heap.size w w'

set_option maxRecDepth 100000 in
set_option maxHeartbeats 2000000 in
theorem list_in (b : BitVec 64) (w : World) (hT : Tab w) : CallsIn Fence.wide 6 Tryd.prog 8 #[.int .u64 (b.toNat : Int)] w (ListPost b w) := by
  obtain ⟨i0, hi, hz0, hz1, hz2⟩ := info_parts Tryd.infoInt
  obtain ⟨c, hc⟩ : ∃ c : Nat, c = cnt b := ⟨_, rfl⟩
  have h64 : c ≤ 64 := by rw [hc]; exact cnt_le b
  have KC : Hid (∀ w, Calls Tryd.prog 6 #[.int .u64 (b.toNat : Int)] w fun e w' => e = .returned (.int .i64 (c : Int)) ∧ w' = w) := Lib.hid (fun w => by rw [hc]; exact count_any b w)
  have hN : Hid (c = (squares b).length) := Lib.hid (by rw [squares_length, hc])
  have HT : Hid (Tab w) := Lib.hid hT
  clear hc hT
  refine callsIn_of_wp_marks Tryd.func8 rfl trivial ?_ rfl
  simp only [Tryd.ntmps8, List.size_toArray, List.length_cons, List.length_nil, Nat.reduceAdd, Nat.reduceSub, Array.replicate_succ, Array.replicate_zero, List.push_toArray, List.append_toArray, List.nil_append, List.cons_append]
  gi_wp2_with (first
    | (refine ⟨trivial, ?_⟩; gi_at_call 6; refine (callsIn_wide.2 (turned (KC.out _))).mono ?_; rintro e w' ⟨rfl, rfl⟩)
    | (refine ⟨trivial, ?_⟩; gi_at_call 10; refine (all_in _ b _).mono ?_; rintro e w' ⟨rfl, rfl⟩)
    | (gi_at_make; refine wpListIn_make_own _ rfl _ _ 25 rfl w.heap.size 3 i0 (.int .i64 0) 1 Tryd.underlying25 hi hz0 hz1 .i64 .i64 _ c rfl rfl rfl (by rw [hz2]; omega) (by unfold maxLen; omega) (Nat.le_refl _) ?_; intro w1 hown1 hgrow1))
  have hB1 : Below w.heap.size w w1 := (Below.refl _ w).grown hgrow1 (Nat.le_refl _) (fun k e => by cases e)
  have hsz : w.heap.size ≤ w1.heap.size := hB1.size
  have bO := Boxed.new w1 25 (.slice (some ⟨w.heap.size, 0, none⟩) 0 c)
  have bN := Boxed.new (w1.alloc (.cells #[.slice (some ⟨w.heap.size, 0, none⟩) 0 c] 25)) 22 (.int .u64 (b.toNat : Int))
  rw [World.size_alloc] at bN
  have hB0 : Below w.heap.size w ((w1.alloc (.cells #[.slice (some ⟨w.heap.size, 0, none⟩) 0 c] 25)).alloc (.cells #[.int .u64 (b.toNat : Int)] 22)) := (hB1.alloc hsz _).alloc (by simp; omega) _
  have h0lt : 0 < w.heap.size := HT.out.size
  refine wpIn_rangeFunc_ownG rfl (by omega) (gf := 22) (lb := #[.pointer (some ⟨w1.heap.size + 1, 0, none⟩)]) rfl trivial (enters_of Tryd.func22 (by kernel_rfl) rfl)
    (all_stops _ (by omega) (w1.heap.size + 1) c b hN _ (HT.out.below hB0 h0lt) (by simp) bN.cell) keepsTab_t (fun W l o o' _ h hc _ => keepsTab_b W l o o' h hc) (Below.refl _ _) (fun _ => rfl)
    (fun pre W => (∃ v, Boxed W w1.heap.size 25 v ∧ W.ownsRow w.heap.size 3 1 v pre.length (ints pre) ∧ True) ∧ Below w.heap.size w W)
    (fun _ _ _ => False)
    (OwnFrom.and (Own.from (holdsRow_own w.heap.size w1.heap.size 25 3 1 (fun pre => pre.length) (fun pre => ints pre) (fun _ _ => True)) _) (ownFrom_below (Nat.le_refl _) (by simp; omega)))
    (fun _ _ _ _ _ hs _ _ => hs)
    ⟨⟨_, bO.alloc _, (hown1.alloc _).alloc _, trivial⟩, hB0⟩
    (fun x => { tmps := #[.int .u64 (b.toNat : Int), undef, .slice none 0 0, .pointer (some ⟨w1.heap.size, 0, none⟩), .int .i64 (x : Int), .int .u64 (b.toNat : Int), .int .i64 (c : Int), .slice (some ⟨w.heap.size, 0, none⟩) 0 c, .int .u64 (b.toNat : Int), .func (.func 22) #[] #[.pointer (some ⟨w1.heap.size + 1, 0, none⟩)], .int .i64 (x : Int), undef, undef, undef, undef, undef], defers := [] }) ?assign ?body ?done ?stop
  case assign =>
    intro l x W K hK
    gi_wp2
    exact hK
  case body =>
    rintro l pre x W ⟨⟨v, hv, hrow, _⟩, hB⟩ hlt
    have hc := hv.cell
    have hp64 : pre.length < 64 := by omega
    gi_wp2_with (gi_at_builtin; refine wpListIn_append_own _ rfl _ _ 25 rfl w.heap.size 3 i0 (.int .i64 0) 1 8 Tryd.underlying25 hi hz0 hz1 hz2 rfl (by decide) _ _ _ rfl (hrow.alloc _) ⟨W.heap.size, 0, none⟩ 1 1 [.int .i64 (x : Int)] rfl rfl (cell_one_new _ _ _) (by simp [Value.oneCell']) (by unfold maxLen; omega) (by omega) (by have := hB.size; simp; omega) ?_; intro v' w1 hown' hgrow _; obtain ⟨g', cap', rfl⟩ := ownsRow_succ hown'; obtain ⟨hv1, hv2, hr2, hk2, hb2⟩ := hv.appended (by decide) hrow hB.size hsz hown' hgrow; have hc1 := hv1.cell; have hf1 := hv1.frozen)
    exact ⟨hk2.from _, keepsTab_below hb2 h0lt, ⟨_, hv2, by rw [ints_snoc]; simpa using hr2, trivial⟩, hB.trans hb2⟩
  case done =>
    rintro D ys W hD rfl ⟨⟨v, hv, hrow, _⟩, hB⟩ hK
    have hc := hv.cell
    gi_wp2
    refine ⟨by simp, .inl ⟨_, _, rfl, run_takeDeferred hK, ?_⟩⟩
    exact ⟨_, results_tmp rfl _ _ _, v, rfl, Row.of_owns (ownsRow_putObj hrow _ hK rfl), hB.trans (belowK_b (w := w) (Nat.le_refl _) W D _ _ (by simp at hD; omega) hK rfl rfl)⟩
  case stop =>
    rintro D c pre W _ _ h _
    exact h.elim
theorem list_any (b : BitVec 64) (w : World) (hT : Tab w) : Calls Tryd.prog 8 #[.int .u64 (b.toNat : Int)] w (ListPost b w) := callsIn_wide.1 (list_in b w hT)
end Go.Proofs.YtffnnpjgfjkmjaaDoor
