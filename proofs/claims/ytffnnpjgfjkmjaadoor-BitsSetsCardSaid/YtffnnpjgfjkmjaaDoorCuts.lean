/- bits.Parts: what it returns: the parts that are cut off one after the other. -/
import Derived.Test.YtffnnpjgfjkmjaaDoorFill
import Derived.Deep.LoopGhost
namespace Go.Proofs.YtffnnpjgfjkmjaaDoor
open Go.RowKit Go.Shelf

def wvals (l : List (BitVec 64)) : List Value := l.map fun p => Value.int .u64 (p.toNat : Int)
theorem wvals_length (l : List (BitVec 64)) : (wvals l).length = l.length := by simp [wvals]
theorem wvals_snoc (l : List (BitVec 64)) (p : BitVec 64) : wvals (l ++ [p]) = wvals l ++ [.int .u64 (p.toNat : Int)] := by simp [wvals]
theorem wvals_at (l : List (BitVec 64)) (i : Nat) (h : i < l.length) : (wvals l)[i]? = some (.int .u64 ((l[i]).toNat : Int)) := by simp [wvals, h]
theorem filter_lt (p q : Nat → Bool) (h : ∀ t, p t = true → q t = true) : ∀ l : List Nat, (∃ t ∈ l, q t = true ∧ p t = false) → (l.filter p).length < (l.filter q).length := by
  have hle : ∀ l : List Nat, (l.filter p).length ≤ (l.filter q).length := by
    intro l
    induction l with
    | nil => simp
    | cons a l ih =>
      rw [List.filter_cons, List.filter_cons]
      cases e : p a
      · simp only [Bool.false_eq_true, if_false]
        split
        · rw [List.length_cons]; omega
        · exact ih
      · rw [h a e]; simp; exact ih
  intro l
  induction l with
  | nil => rintro ⟨t, ht, _⟩; simp at ht
  | cons a l ih =>
    rintro ⟨t, ht, h1, h2⟩
    rw [List.filter_cons, List.filter_cons]
    rcases List.mem_cons.1 ht with rfl | ht
    · rw [h1, h2]; simp; exact Nat.lt_succ_of_le (hle l)
    · have := ih ⟨t, ht, h1, h2⟩
      cases e : p a
      · simp only [Bool.false_eq_true, if_false]
        split
        · rw [List.length_cons]; omega
        · exact this
      · rw [h a e]; simp; exact this
/-- Cutting off a part leaves fewer squares. -/
theorem cut_fewer {rest p : BitVec 64} (hr : rest ≠ 0#64) (hf : IsFill (leastW rest) rest p) : cnt (rest &&& ~~~p) < cnt rest := by
  rw [← squares_length, ← squares_length, squares, squares]
  obtain ⟨l1, l2⟩ := least_has hr
  have h2 := (leastW_bit rest hr).2
  have hl := hf.1 _ _ l1 l2
  refine filter_lt _ _ (fun t h => ?_) _ ⟨tzW rest, List.mem_range.2 h2, tz_in rest hr, ?_⟩
  · rw [BitVec.getLsbD_and, Bool.and_eq_true] at h; exact h.1
  · rw [has_self _ _ h2] at hl
    rw [BitVec.getLsbD_and, BitVec.getLsbD_not, hl]; simp
theorem Tryd.infoWord : (Tryd.prog.info? 22).map (fun i => (i.zero, i.size, i.bytes)) = some (some (.int .u64 0), 1, 8) := by kernel_rfl
def PartsPost (b : BitVec 64) (w : World) (e : Ending) (w' : World) : Prop := ∃ v ps, e = .returned v ∧ Row w' v (wvals ps) ∧ ps.length ≤ 64 ∧ Cut b ps 0#64 ∧ Below w.heap.size w w'

set_option maxHeartbeats 1000000 in
theorem parts_any (b : BitVec 64) (w : World) : Calls Tryd.prog 11 #[.int .u64 (b.toNat : Int)] w (PartsPost b w) := by
  obtain ⟨i0, hi, hz0, hz1, hz2⟩ := info_parts Tryd.infoWord
  obtain ⟨c, hc⟩ : ∃ c : Nat, c = cnt b := ⟨_, rfl⟩
  have h64 : c ≤ 64 := by rw [hc]; exact cnt_le b
  have HC : Hid _ := Lib.hid hc
  clear hc
  go_enter Tryd.func11, Tryd.ntmps11
  go_wp2
  go_loopg [3, 4] c (fun m v s wr => ∃ (pre : List (BitVec 64)) (rest : BitVec 64), s = .int .u64 (rest.toNat : Int) ∧ wr.ownsRow w.heap.size 22 1 v pre.length (wvals pre) ∧ Hid (Cut b pre rest) ∧ Hid (pre.length + m ≤ 64 ∧ m = cnt rest) ∧ Hid (Below w.heap.size w wr))
  case atStart => exact ⟨[], b, rfl, World.ownsRow_nil _ _ _ _, Lib.hid Cut.start, Lib.hid ⟨by simpa using h64, HC.out⟩, Lib.hid (Below.refl _ _)⟩
  case round =>
    clear HC
    obtain ⟨pre, rest, rfl, hown, hcut, hm, hbel⟩ := hrel
    by_cases hr : rest = 0#64
    · have hz := (int_zero hr).2
      have hend : Hid (Cut b pre 0#64) := Lib.hid (by rw [← hr]; exact hcut.out)
      clear hr
      go_wp2
      go_ret
      exact ⟨_, pre, rfl, Row.of_owns hown, by have := hm.out; omega, hend.out, hbel.out⟩
    · have hz := (int_ne_zero hr).2
      have HR : Hid _ := Lib.hid hr
      have hp : pre.length < 64 := by
        have h1 := hm.out
        obtain ⟨f, hf⟩ : ∃ f, f = squares rest := ⟨_, rfl⟩
        have h2 := squares_cons rest hr
        have h3 := squares_length rest
        rw [h2] at h3
        simp at h3
        omega
      clear hr
      go_wp2_with (first
        | (go_at_call 23; refine (turned (least_any rest _)).mono ?_; rintro e w' ⟨rfl, rfl⟩)
        | (go_at_call 12; refine (fill_any (leastW rest) rest _).mono ?_; rintro e w' ⟨p, rfl, hf, rfl⟩; have HF := Lib.hid hf; clear hf)
        | (at_builtin; refine wpList_append_own _ rfl _ _ 34 rfl w.heap.size 22 i0 (.int .u64 0) 1 8 Tryd.underlying34 hi hz0 hz1 hz2 rfl (by decide) _ _ _ rfl (hown.alloc _) ⟨wr.heap.size, 0, none⟩ 1 1 [.int .u64 (p.toNat : Int)] rfl rfl (cell_one_new _ _ _) (by simp [Value.oneCell']) (by unfold maxLen; omega) (by omega) (by have := hbel.out.size; simp; omega) ?_; intro v' w1 hown' hgrow _))
      have hg' : (wr.alloc (.cells #[.int .u64 (p.toNat : Int)] 22)).grownBy w1 u3.ownBlock := hgrow
      go_roundg (cnt (rest &&& ~~~p))
      case measure =>
        have h1 := cut_fewer HR.out HF.out
        have h2 := hm.out
        omega
      case rel =>
        refine ⟨pre ++ [p], rest &&& ~~~p, by rw [b_andNot], ?_, Lib.hid (Cut.step pre rest p hcut.out HR.out HF.out), Lib.hid ⟨?_, rfl⟩, Lib.hid ?_⟩
        · rw [wvals_snoc, List.length_append]; exact hown'
        · have h1 := cut_fewer HR.out HF.out
          have h2 := hm.out
          rw [List.length_append]; simp; omega
        · exact (hbel.out.alloc hbel.out.size _).grown hg' (by have := hbel.out.size; simp; omega) (fun k e => (hown.lt k e).1)
end Go.Proofs.YtffnnpjgfjkmjaaDoor
