/- slices.Equal at []int, and the rules that the statements begin with. -/
import Derived.Test.YtomclohfppbegaaGreatDoorThreeR
import Derived.Test.YtomclohfppbegaaGreatDoorRulB
import Derived.RangeFuncBox
namespace Go.Proofs.YtomclohfppbegaaGreatDoor
open Go.RowKit
attribute [local go_sem] Oper.semAt_some

/-- A slice value that leads to these cells. -/
def Row (W : World) (v : Value) (cs : List Value) : Prop :=
  (cs = [] ∧ ∃ a cap, v = .slice a 0 cap) ∨ ∃ g off cap, v = .slice (some ⟨g, off, none⟩) cs.length cap ∧ cs ≠ [] ∧ cs.length ≤ cap ∧ cap ≤ maxLen ∧ ∀ i u, cs[i]? = some u → W.cell? ⟨g, off + i, none⟩ = some u
theorem Row.of_owns {W : World} {base : Nat} {e : TypeId} {v : Value} {k : Nat} {xs : List Value} (h : W.ownsRow base e 1 v k xs) : Row W v xs := by
  have hl : xs.length = k := by simpa using h.1
  rcases h.2 with ⟨rfl, rfl⟩ | ⟨g, cap, cur, rfl, _, _, hkc, hcm, _, _⟩
  · exact .inl ⟨by simpa using hl, none, 0, rfl⟩
  · by_cases e : xs = []
    · subst e
      obtain rfl : k = 0 := by simpa using hl.symm
      exact .inl ⟨rfl, _, _, rfl⟩
    · refine .inr ⟨g, 0, cap, by rw [hl], e, by omega, hcm, fun i u hu => ?_⟩
      have := h.cells (g := g) rfl i u hu
      rw [Nat.zero_add]
      have e2 : (⟨g, 0, none⟩ : Addr).add i = ⟨g, i, none⟩ := by
        cases i <;> simp [Addr.add]
      rwa [e2] at this
theorem Row.below {W W' : World} {v : Value} {cs : List Value} (h : Row W v cs) {n : Nat} (hb : Below n W W') (hn : W.heap.size ≤ n) : Row W' v cs := by
  rcases h with h | ⟨g, off, cap, e1, e2, e3, e4, hc⟩
  · exact .inl h
  · refine .inr ⟨g, off, cap, e1, e2, e3, e4, fun i u hu => ?_⟩
    have h1 := hc i u hu
    have h2 := World.block_lt_of_cell? _ _ h1
    exact (hb.cell (p := ⟨g, off + i, none⟩) (by simp at h2 ⊢; omega)).trans h1

/-- The numbers as int values. -/
def vals (l : List Int) : List Value := l.map fun x => Value.int .i64 x
theorem vals_length (l : List Int) : (vals l).length = l.length := by simp [vals]
theorem vals_at (l : List Int) (i : Nat) (h : i < l.length) : (vals l)[i]? = some (.int .i64 (l[i]?.getD 0)) := by simp [vals, h]
def BoolPost (w : World) (v : Bool) (e : Ending) (w' : World) : Prop := e = .returned (.bool v) ∧ Below w.heap.size w w'

set_option maxRecDepth 100000 in
set_option maxHeartbeats 1000000 in
theorem equal_any (xs ys : List Int) (v1 v2 : Value) (w : World) (hx : Row w v1 (vals xs)) (hy : Row w v2 (vals ys)) (hb : xs.length ≤ 140737488355328) :
    Calls Tryz.prog 67 #[v1, v2] w (BoolPost w (decide (xs = ys))) := by
  by_cases hlen : xs.length = ys.length
  · rcases hx with ⟨e1, a1, cap1, rfl⟩ | ⟨g1, off1, cap1, rfl, n1, l1, m1, c1⟩
    · obtain rfl : xs = [] := by simpa [vals] using e1
      obtain rfl : ys = [] := by simpa using hlen.symm
      rcases hy with ⟨e2, a2, cap2, rfl⟩ | ⟨g2, off2, cap2, rfl, n2, l2, m2, c2⟩
      · have K : Hid (true = decide (([] : List Int) = [])) := Lib.hid rfl
        clear hlen e1 e2 hb
        go_enter Tryz.func67, Tryz.ntmps67
        go_wp2
        go_loop [13] (fun i => i = .int .i64 0) (fun _ => 0)
        case atStart => rfl
        case round =>
          obtain rfl := hrel
          go_wp2
          go_ret
          exact ⟨ret_bool K.out, Below.refl _ _⟩
      · exact absurd rfl n2
    · rcases hy with ⟨e2, a2, cap2, rfl⟩ | ⟨g2, off2, cap2, rfl, n2, l2, m2, c2⟩
      · obtain rfl : ys = [] := by simpa [vals] using e2
        simp [vals] at n1
        exact absurd (List.eq_nil_of_length_eq_zero (by simpa using hlen)) n1
      · rw [vals_length] at l1 l2 ⊢
        rw [vals_length]
        obtain ⟨n, hn⟩ : ∃ n : Nat, n = xs.length := ⟨_, rfl⟩
        have hn2 : n = ys.length := by rw [hn, hlen]
        rw [← hn] at l1 hb ⊢
        rw [← hn2] at l2 ⊢
        have C1 : Hid (∀ i, i < n → w.cell? ⟨g1, off1 + i, none⟩ = some (.int .i64 (xs[i]?.getD 0))) := Lib.hid (fun i hi => c1 i _ (vals_at xs i (by omega)))
        have C2 : Hid (∀ i, i < n → w.cell? ⟨g2, off2 + i, none⟩ = some (.int .i64 (ys[i]?.getD 0))) := Lib.hid (fun i hi => c2 i _ (vals_at ys i (by omega)))
        have HN : Hid (n = xs.length ∧ n = ys.length) := Lib.hid ⟨hn, hn2⟩
        clear c1 c2 hn hn2 hlen n1 n2
        go_enter Tryz.func67, Tryz.ntmps67
        go_wp2
        go_loopw [13] (fun i wr => ∃ k : Nat, k ≤ n ∧ i = .int .i64 (k : Int) ∧ Hid (∀ j, j < k → xs[j]?.getD 0 = ys[j]?.getD 0) ∧ Hid (Below w.heap.size w wr)) (fun i _ => n - (intOf i).toNat)
        case atStart => exact ⟨0, by omega, rfl, Lib.hid (fun j hj => by omega), Lib.hid (Below.refl _ _)⟩
        case round =>
          obtain ⟨k, hk, rfl, heq, hbel⟩ := hrel
          by_cases hlt : k < n
          · have d1 := C1.out k hlt
            have d2 := C2.out k hlt
            have e1 := (hbel.out.cell (p := ⟨g1, off1 + k, none⟩) (World.block_lt_of_cell? _ _ d1)).trans d1
            have e2 := (hbel.out.cell (p := ⟨g2, off2 + k, none⟩) (World.block_lt_of_cell? _ _ d2)).trans d2
            clear d1 d2
            by_cases hsame : xs[k]?.getD 0 = ys[k]?.getD 0
            · obtain ⟨x, hxv⟩ : ∃ x : Int, x = ys[k]?.getD 0 := ⟨_, rfl⟩
              have HS : Hid _ := Lib.hid hsame
              rw [hsame, ← hxv] at e1
              rw [← hxv] at e2
              clear hsame hxv
              go_wp2
              go_quiet (fail)
              go_wp2
              go_roundw
              case rel =>
                refine ⟨k + 1, by omega, by go_num, Lib.hid (fun j hj => ?_), Lib.hid (below_drewN hbel.out _)⟩
                by_cases e : j = k
                · rw [e]; exact HS.out
                · exact heq.out j (by omega)
              case measure => simp [intOf]; omega
            · obtain ⟨x, hxv⟩ : ∃ x : Int, x = xs[k]?.getD 0 := ⟨_, rfl⟩
              obtain ⟨y, hyv⟩ : ∃ y : Int, y = ys[k]?.getD 0 := ⟨_, rfl⟩
              have K : Hid (false = decide (xs = ys)) := Lib.hid (by
                symm; apply decide_eq_false; intro e; exact hsame (by rw [e]))
              rw [← hxv] at e1
              rw [← hyv] at e2
              have hne : (x != y) = true := by rw [hxv, hyv]; simpa using hsame
              clear hsame hxv hyv
              go_wp2
              go_quiet (fail)
              go_wp2
              go_ret
              exact ⟨ret_bool K.out, below_drewN hbel.out _⟩
          · have K : Hid (true = decide (xs = ys)) := Lib.hid (by
              symm; apply decide_eq_true
              have hkn : k = n := by omega
              have := heq.out
              have h1 := HN.out
              apply List.ext_getElem
              · omega
              · intro i i1 i2
                have := this i (by omega)
                simpa [i1, i2] using this)
            go_wp2
            go_ret
            exact ⟨ret_bool K.out, hbel.out⟩
  · have K : Hid (false = decide (xs = ys)) := Lib.hid (by symm; apply decide_eq_false; intro e; exact hlen (by rw [e]))
    obtain ⟨a1, cap1, rfl⟩ : ∃ a cap, v1 = .slice a xs.length cap := by
      rcases hx with ⟨e1, a1, cap1, rfl⟩ | ⟨g1, off1, cap1, rfl, _⟩
      · exact ⟨a1, cap1, by have : xs = [] := by simpa [vals] using e1
                            rw [this]; rfl⟩
      · exact ⟨_, _, by rw [vals_length]⟩
    obtain ⟨a2, cap2, rfl⟩ : ∃ a cap, v2 = .slice a ys.length cap := by
      rcases hy with ⟨e2, a2, cap2, rfl⟩ | ⟨g2, off2, cap2, rfl, _⟩
      · exact ⟨a2, cap2, by have : ys = [] := by simpa [vals] using e2
                            rw [this]; rfl⟩
      · exact ⟨_, _, by rw [vals_length]⟩
    have hne : (((xs.length : Nat) : Int) != ((ys.length : Nat) : Int)) = true := by simp; omega
    clear hlen
    go_enter Tryz.func67, Tryz.ntmps67
    go_wp2
    go_ret
    exact ⟨ret_bool K.out, Below.refl _ _⟩

theorem row_of {W : World} {v : Value} {xs : List Int} (h : IsSl IntAt 1 W v xs) : Row W v (vals xs) := by
  rcases h with ⟨rfl, h⟩ | ⟨g, off, cap, rfl, e2, e3, e4, hc⟩
  · exact .inl ⟨rfl, h⟩
  · refine .inr ⟨g, off, cap, by rw [vals_length], by simpa [vals] using e2, by rw [vals_length]; exact e3, e4, fun i u hu => ?_⟩
    have hi : i < xs.length := by have := (List.getElem?_eq_some_iff.1 hu).1; rwa [vals_length] at this
    have h1 := hc i _ (List.getElem?_eq_getElem hi)
    rw [vals, List.getElem?_map, List.getElem?_eq_getElem hi] at hu
    rw [IntAt, Nat.mul_one] at h1
    rw [← hu]
    exact h1
end Go.Proofs.YtomclohfppbegaaGreatDoor
