/- symm.cycles, power and Colours: what they return. -/
import Derived.Test.YtfmpoebkhkambaaApply
namespace Go.Proofs.Ytfmpoebkhkambaa
open Go.RowKit Go.Shelf

/-! ### Plain facts -/
/-- The squares that are met from one square on are marked. -/
def mark (W H s : Nat) : Nat → Nat → List Bool → List Bool
  | 0, _, l => l
  | m + 1, a, l => if l[a]?.getD true then l else mark W H s m (mv W H s a) (l.set a true)
/-- The marks, and how many groups, when the squares below k have been looked at. -/
def cycGo (W H s : Nat) : Nat → List Bool × Nat
  | 0 => (List.replicate 64 false, 0)
  | k + 1 => if (cycGo W H s k).1[k]?.getD true then cycGo W H s k else (mark W H s 64 k (cycGo W H s k).1, (cycGo W H s k).2 + 1)
def cyc (W H s : Nat) : Nat := (cycGo W H s (W * H)).2
theorem mark_length (W H s : Nat) : ∀ m a l, (mark W H s m a l).length = l.length := by
  intro m
  induction m with
  | zero => intro a l; rfl
  | succ m ih => intro a l; rw [mark]; split <;> simp [ih]
theorem cycGo_length (W H s k : Nat) : (cycGo W H s k).1.length = 64 := by
  induction k with
  | zero => simp [cycGo]
  | succ k ih => rw [cycGo]; split <;> simp [mark_length, ih]
theorem cycGo_le (W H s k : Nat) : (cycGo W H s k).2 ≤ k := by
  induction k with
  | zero => simp [cycGo]
  | succ k ih => rw [cycGo]; split
                 · omega
                 · simp only []; omega
theorem cyc_le {W H : Nat} (B : Board W H) (s : Nat) : cyc W H s ≤ 64 := Nat.le_trans (cycGo_le _ _ _ _) (wh_le B)
def bools (l : List Bool) : List Value := l.map Value.bool
theorem bools_length (l : List Bool) : (bools l).length = l.length := by simp [bools]
theorem bools_at (l : List Bool) (i : Nat) (h : i < l.length) : (bools l)[i]? = some (.bool (l[i]?.getD true)) := by simp [bools, h]
theorem bools_set (l : List Bool) (i : Nat) : (bools l).set i (.bool true) = bools (l.set i true) := by simp [bools, List.map_set]
/-- How many are not marked. -/
def unm (l : List Bool) : Nat := (l.filter fun b => !b).length
theorem unm_le (l : List Bool) : unm l ≤ l.length := List.length_filter_le _ _
theorem unm_set : ∀ (l : List Bool) (i : Nat), i < l.length → l[i]?.getD true = false → unm (l.set i true) + 1 = unm l := by
  intro l
  induction l with
  | nil => intro i h; simp at h
  | cons b l ih =>
    intro i h e
    cases i with
    | zero => simp at e; subst e; simp [unm]
    | succ i =>
      have := ih i (by simpa using h) (by simpa using e)
      cases b <;> simp [unm] at this ⊢ <;> omega

set_option maxRecDepth 100000 in
set_option maxHeartbeats 2000000 in
theorem cycles_any (W H : Nat) (B : Board W H) (s : Nat) (hs : s < cntS W H) (w : World) :
    Calls Try.prog 42 #[.int .i64 (W : Int), .int .i64 (H : Int), .int .i64 (s : Int)] w fun e w' => e = .returned (.int .i64 (cyc W H s : Int)) ∧ Below w.heap.size w w' := by
  obtain ⟨A, hA⟩ : ∃ A : Nat, A = W * H := ⟨_, rfl⟩
  have hA64 : A ≤ 64 := by rw [hA]; exact wh_le B
  have hm : (W : Int) * (H : Int) = (A : Int) := by rw [hA]; norm_cast
  have HM : Hid (∀ k w, k < A → Calls Try.prog 30 #[.int .i64 (W : Int), .int .i64 (H : Int), .int .i64 (s : Int), .int .i64 (k : Int)] w fun e w' => (e = .returned (.int .i64 (mv W H s k : Int)) ∧ mv W H s k < A) ∧ ∃ n, w' = w.drewN n) :=
    Lib.hid (fun k w hk => (move_any W H B s k w hs (by omega)).mono fun e w' h => ⟨⟨h.1, by rw [hA]; exact mv_lt B s k hs (by omega)⟩, h.2⟩)
  have HE : Hid (cyc W H s = (cycGo W H s A).2) := Lib.hid (by rw [hA]; rfl)
  have HO : Hid (∀ w : World, (w.alloc (.cells (Array.replicate 64 (.bool false)) 63)).ownsRow w.heap.size 63 1 (.slice (some ⟨w.heap.size, 0, none⟩) 64 64) 64 (bools (cycGo W H s 0).1)) := Lib.hid (fun w => by
    have h := World.ownsRow_lit (base := w.heap.size) (e := 63) (size := 1) w (Array.replicate 64 (.bool false)) 64 (Nat.le_refl _) (by unfold maxLen; omega) (by simp)
    have e : (Array.replicate 64 (Value.bool false)).toList = bools (cycGo W H s 0).1 := by simp [bools, cycGo]
    rwa [e] at h)
  clear hA B hs
  go_enter Try.func42, Try.ntmps42
  go_wp2_with fail
  have hown0 := HO.out w
  have HB0 : Hid (Below w.heap.size w (w.alloc (.cells (Array.replicate 64 (.bool false)) 63))) := Lib.hid ((Below.refl _ w).alloc (Nat.le_refl _) _)
  clear HO
  go_loopw [8, 9, 10, 14] (fun n _ _ i wr => ∃ k : Nat, k ≤ A ∧ i = .int .i64 (k : Int) ∧ n = .int .i64 ((cycGo W H s k).2 : Int) ∧ wr.ownsRow w.heap.size 63 1 (.slice (some ⟨w.heap.size, 0, none⟩) 64 64) 64 (bools (cycGo W H s k).1) ∧ Hid (Below w.heap.size w wr)) (fun _ _ _ i _ => A - (intOf i).toNat)
  case atStart => exact ⟨0, by omega, rfl, rfl, hown0, HB0⟩
  case round =>
    clear hown0 HB0
    obtain ⟨k, hk, rfl, rfl, hown, hbel⟩ := hrel
    by_cases hlt : k < A
    · have hcell := hown.cellAt k (by omega)
      rw [bools_at _ _ (by rw [cycGo_length]; omega)] at hcell
      have hle := cycGo_le W H s k
      cases hb : (cycGo W H s k).1[k]?.getD true
      · rw [hb] at hcell
        have HK : Hid (cycGo W H s (k + 1) = (mark W H s 64 k (cycGo W H s k).1, (cycGo W H s k).2 + 1)) := Lib.hid (by rw [cycGo, hb]; rfl)
        obtain ⟨L, hL⟩ : ∃ L : List Bool, L = (cycGo W H s k).1 := ⟨_, rfl⟩
        obtain ⟨N, hN⟩ : ∃ N : Nat, N = (cycGo W H s k).2 := ⟨_, rfl⟩
        have HL64 : Hid (L.length = 64) := Lib.hid (by rw [hL]; exact cycGo_length _ _ _ _)
        rw [← hL, ← hN] at HK
        rw [← hL] at hown
        rw [← hN] at hle ⊢
        clear hb hL hN
        go_wp2_with fail
        have H0 : Hid (unm L ≤ 64 ∧ mark W H s 64 k L = mark W H s 64 k L) := Lib.hid ⟨by have := unm_le L; have := HL64.out; omega, rfl⟩
        go_loopg [10] 64 (fun m a w2 => ∃ (j : Nat) (l : List Bool), j < A ∧ a = .int .i64 (j : Int) ∧ w2.ownsRow w.heap.size 63 1 (.slice (some ⟨w.heap.size, 0, none⟩) 64 64) 64 (bools l) ∧ Hid (l.length = 64) ∧ Hid (unm l ≤ m ∧ mark W H s m j l = mark W H s 64 k L) ∧ Hid (Below w.heap.size w w2))
        case atStart => exact ⟨k, L, hlt, rfl, hown, HL64, H0, hbel⟩
        case round =>
          clear hcell hown hbel HL64 H0
          obtain ⟨j, l, hj, rfl, hown, hl, hmk, hbel⟩ := hrel
          have hcell := hown.cellAt j (by omega)
          have hfr := hown.frozenAt j
          rw [bools_at _ _ (by rw [hl.out]; omega)] at hcell
          cases hb : l[j]?.getD true
          · rw [hb] at hcell
            have hst := (hown.stored j (.bool true)).1
            rw [bools_set] at hst
            have HST : Hid _ := Lib.hid hst
            have hls := unm_set l j (by rw [hl.out]; omega) hb
            obtain ⟨g, rfl⟩ : ∃ g, gk = g + 1 := ⟨gk - 1, by have := hmk.out.1; omega⟩
            have HK2 : Hid (unm (l.set j true) ≤ g ∧ mark W H s g (mv W H s j) (l.set j true) = mark W H s 64 k L) := Lib.hid ⟨by have := hmk.out.1; omega, by rw [← hmk.out.2, mark, hb]; rfl⟩
            have hl2 : Hid ((l.set j true).length = 64) := Lib.hid (by rw [List.length_set]; exact hl.out)
            have HB2 : Hid (Below w.heap.size w (wr.setCell ⟨w.heap.size, j, none⟩ (.bool true))) := Lib.hid (hbel.out.setCell (p := ⟨w.heap.size, j, none⟩) (Nat.le_refl _) _)
            clear hst hls hb hmk hown
            go_wp2_with fail
            go_at_call 30; refine (HM.out j _ hj).mono ?_; rintro e w3 ⟨⟨rfl, hmv⟩, q, hw3⟩
            have hown3 := ownsRow_drew HST.out hw3
            have HB3 : Hid (Below w.heap.size w w3) := Lib.hid (HB2.out.trans ((below_of_drew hw3).mono HB2.out.size))
            clear hw3 HST HB2
            go_wp2_with fail
            go_roundg g
            case measure => omega
            case rel => exact ⟨_, _, hmv, rfl, hown3, hl2, HK2, HB3⟩
          · rw [hb] at hcell
            have HK2 : Hid (l = (cycGo W H s (k + 1)).1) := Lib.hid (by
              rw [HK.out]; rw [← hmk.out.2]
              cases gk with
              | zero => rfl
              | succ g => rw [mark, hb]; rfl)
            have HN2 : Hid ((N : Int) + 1 = ((cycGo W H s (k + 1)).2 : Int)) := Lib.hid (by rw [HK.out]; norm_cast)
            clear hb hmk
            go_wp2_with fail
            go_roundw
            case rel => exact ⟨k + 1, by omega, by go_num, by rw [HN2.out], by rw [← HK2.out]; exact hown, hbel⟩
            case measure => simp [intOf]; omega
      · rw [hb] at hcell
        have HK : Hid (cycGo W H s (k + 1) = cycGo W H s k) := Lib.hid (by rw [cycGo, hb]; rfl)
        clear hb
        go_wp2_with fail
        go_roundw
        case rel => exact ⟨k + 1, by omega, by go_num, by rw [HK.out], by rw [HK.out]; exact hown, hbel⟩
        case measure => simp [intOf]; omega
    · obtain rfl : k = A := by omega
      go_wp2
      go_ret
      exact ⟨ret_i64 (by rw [HE.out]), hbel.out⟩
end Go.Proofs.Ytfmpoebkhkambaa
