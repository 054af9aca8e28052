/- symm.moveAll, Apply: what they return; the laws' own small functions moved and fine. -/
import Derived.Test.YtfmpoebkhkambaaEq
import Derived.Test.YtfmpoebkhkambaaMaps
namespace Go.Proofs.Ytfmpoebkhkambaa
open Go.RowKit Go.Shelf
attribute [local go_sem] Oper.semAt_some

/-- The cells after a symmetry, of which those that come from a square below k are there, and the others 0. -/
def appTo (W H s : Nat) (xs : List Int) (k : Nat) : List Int := (List.range (W * H)).map fun p => if mv W H (invS s) p < k then xs[mv W H (invS s) p]?.getD 0 else 0
def app (W H s : Nat) (xs : List Int) : List Int := appTo W H s xs (W * H)
theorem appTo_length (W H s : Nat) (xs : List Int) (k : Nat) : (appTo W H s xs k).length = W * H := by simp [appTo]
theorem app_length (W H s : Nat) (xs : List Int) : (app W H s xs).length = W * H := appTo_length _ _ _ _ _
theorem appTo_zero (W H s : Nat) (xs : List Int) : vals (appTo W H s xs 0) = List.replicate (W * H) (.int .i64 0) := by
  apply List.ext_getElem
  · simp [vals, appTo]
  · intro i h1 h2; simp [vals, appTo]
theorem inv_inv (s : Nat) (hs : s < 8) : invS (invS s) = s := by
  have : ∀ s : Fin 8, invS (invS s.val) = s.val := by decide +kernel
  exact this ⟨s, hs⟩
theorem appTo_set {W H : Nat} (B : Board W H) (s : Nat) (hs : s < cntS W H) (xs : List Int) (k : Nat) (hk : k < W * H) :
    (vals (appTo W H s xs k)).set (mv W H s k) (.int .i64 (xs[k]?.getD 0)) = vals (appTo W H s xs (k + 1)) := by
  apply List.ext_getElem
  · simp [vals, appTo]
  · intro p h1 h2
    have hp : p < W * H := by simpa [vals, appTo] using h2
    rw [List.getElem_set]
    have hi := inv_lt s hs
    by_cases e : mv W H s k = p
    · subst e
      rw [if_pos rfl]
      simp [vals, appTo, mv_inv B s k hs hk]
    · rw [if_neg e]
      have h3 : mv W H (invS s) p ≠ k := fun h => e (by rw [← h]; exact mv_inv' B s p hs hp)
      simp only [vals, appTo, List.map_map, List.getElem_map, List.getElem_range, Function.comp]
      by_cases h4 : mv W H (invS s) p < k
      · rw [if_pos h4, if_pos (by omega)]
      · rw [if_neg h4, if_neg (by omega)]
theorem app_at {W H : Nat} (B : Board W H) (s : Nat) (hs : s < cntS W H) (xs : List Int) (p : Nat) (hp : p < W * H) : (app W H s xs)[p]?.getD 0 = xs[mv W H (invS s) p]?.getD 0 := by
  have h := mv_lt B (invS s) p (inv_lt s hs) hp
  simp [app, appTo, hp, h]
theorem ownsRow_drew {w w2 : World} {base : Nat} {e : TypeId} {k : Nat} {v : Value} {n : Nat} {xs : List Value} (h : w.ownsRow base e k v n xs) {q : Nat} (e2 : w2 = w.drewN q) : w2.ownsRow base e k v n xs := by subst e2; exact h
theorem below_of_drew {w w2 : World} {q : Nat} (e2 : w2 = w.drewN q) : Below w.heap.size w w2 := by subst e2; exact below_drewN (Below.refl _ _) _
theorem Row.at {W : World} {v : Value} {xs : List Int} {n : Nat} (h : Row W v (vals xs)) (hn : n = xs.length) : ∃ a cap, v = .slice a n cap ∧ ∀ k, k < n → ∃ g off, a = some ⟨g, off, none⟩ ∧ ∀ W', Below W.heap.size W W' → W'.cell? ⟨g, off + k, none⟩ = some (.int .i64 (xs[k]?.getD 0)) := by
  rcases h with ⟨e1, a1, cap1, rfl⟩ | ⟨g1, off1, cap1, rfl, n1, l1, m1, c1⟩
  · obtain rfl : xs = [] := by simpa [vals] using e1
    exact ⟨a1, cap1, by rw [hn]; rfl, fun k hk => by rw [hn] at hk; simp at hk⟩
  · refine ⟨_, _, by rw [vals_length, hn], fun k hk => ⟨g1, off1, rfl, fun W' hb => ?_⟩⟩
    have h1 := c1 k _ (vals_at xs k (by omega))
    rw [← h1]
    exact hb.cell (p := ⟨g1, off1 + k, none⟩) (World.block_lt_of_cell? _ _ h1)

def RowPost (w : World) (xs : List Int) (e : Ending) (w' : World) : Prop := ∃ v, e = .returned v ∧ Row w' v (vals xs) ∧ Below w.heap.size w w'

set_option maxRecDepth 100000 in
set_option maxHeartbeats 2000000 in
theorem moveAll_any (W H : Nat) (B : Board W H) (s : Nat) (hs : s < cntS W H) (xs : List Int) (v : Value) (w : World) (hv : Row w v (vals xs)) (hx : xs.length = W * H) :
    Calls Try.prog 39 #[.int .i64 (W : Int), .int .i64 (H : Int), .int .i64 (s : Int), v] w (RowPost w (app W H s xs)) := by
  obtain ⟨i0, hi, hz0, hz1, hz2⟩ := info_parts Try.infoInt
  obtain ⟨A, hA⟩ : ∃ A : Nat, A = W * H := ⟨_, rfl⟩
  have hA64 : A ≤ 64 := by rw [hA]; exact wh_le B
  obtain ⟨a, cap, rfl, hcell⟩ := hv.at (n := A) (by omega)
  have HC : Hid _ := Lib.hid hcell
  have HM : Hid (∀ k w, k < A → Calls Try.prog 30 #[.int .i64 (W : Int), .int .i64 (H : Int), .int .i64 (s : Int), .int .i64 (k : Int)] w fun e w' => (e = .returned (.int .i64 (mv W H s k : Int)) ∧ mv W H s k < A) ∧ ∃ n, w' = w.drewN n) :=
    Lib.hid (fun k w hk => (move_any W H B s k w hs (by omega)).mono fun e w' h => ⟨⟨h.1, by rw [hA]; exact mv_lt B s k hs (by omega)⟩, h.2⟩)
  have HS : Hid (∀ k, k < A → (vals (appTo W H s xs k)).set (mv W H s k) (.int .i64 (xs[k]?.getD 0)) = vals (appTo W H s xs (k + 1))) := Lib.hid (fun k hk => appTo_set B s hs xs k (by omega))
  have HZ : Hid (vals (appTo W H s xs 0) = List.replicate A (.int .i64 0)) := Lib.hid (by rw [hA]; exact appTo_zero W H s xs)
  have HE : Hid (app W H s xs = appTo W H s xs A) := Lib.hid (by rw [hA]; rfl)
  have HL : Hid (∀ k, (vals (appTo W H s xs k)).length = A) := Lib.hid (fun k => by rw [vals_length, appTo_length, hA])
  clear hcell hA hv hx B hs
  go_enter Try.func39, Try.ntmps39
  go_wp2_with (at_make; refine wpList_make_full _ rfl _ _ 29 rfl w.heap.size 3 i0 (.int .i64 0) 1 Try.underlying29 hi hz0 hz1 .i64 .i64 A A A rfl rfl rfl rfl (by rw [hz2]; omega) (by unfold maxLen; omega) (Nat.le_refl _) ?_; intro wm hownm hgrowm)
  have hown0 : wm.ownsRow w.heap.size 3 1 (.slice (some ⟨w.heap.size, 0, none⟩) A A) A (vals (appTo W H s xs 0)) := by
    rw [HZ.out, ← toList_madeCells_one]; rw [Nat.mul_one] at hownm; exact hownm
  have HB : Hid (Below w.heap.size w wm) := Lib.hid ((Below.refl _ w).grown hgrowm (Nat.le_refl _) (fun k e => by cases e))
  clear hownm hgrowm
  go_loopw [17] (fun i wr => ∃ k : Nat, k ≤ A ∧ i = .int .i64 (k : Int) ∧ wr.ownsRow w.heap.size 3 1 (.slice (some ⟨w.heap.size, 0, none⟩) A A) A (vals (appTo W H s xs k)) ∧ Hid (Below w.heap.size w wr)) (fun i _ => A - (intOf i).toNat)
  case atStart => exact ⟨0, by omega, rfl, hown0, HB⟩
  case round =>
    clear hown0 HB
    obtain ⟨k, hk, rfl, hown, hbel⟩ := hrel
    by_cases hlt : k < A
    · obtain ⟨g, off, rfl, hcell⟩ := HC.out k hlt
      have hc1 := hcell wr hbel.out
      obtain ⟨x, hxv⟩ : ∃ x : Int, x = xs[k]?.getD 0 := ⟨_, rfl⟩
      rw [← hxv] at hc1
      have HST : Hid ((vals (appTo W H s xs k)).set (mv W H s k) (.int .i64 x) = vals (appTo W H s xs (k + 1))) := Lib.hid (by rw [hxv]; exact HS.out k hlt)
      have HLk : Hid _ := Lib.hid (HL.out k)
      clear hcell hxv
      go_wp2_with fail
      go_at_call 30; refine (HM.out k _ hlt).mono ?_; rintro e w2 ⟨⟨rfl, hmv⟩, q, hw2⟩
      have hown2 := ownsRow_drew hown hw2
      have hbel2 : Hid (Below w.heap.size w w2) := Lib.hid (hbel.out.trans ((below_of_drew hw2).mono hbel.out.size))
      obtain ⟨m, hm⟩ : ∃ m : Nat, m = mv W H s k := ⟨_, rfl⟩
      rw [← hm] at hmv ⊢
      have hmf := hown2.frozenAt m
      obtain ⟨y, hy⟩ : ∃ y : Value, w2.cell? ⟨w.heap.size, m, none⟩ = some y := by
        have hl : m < (vals (appTo W H s xs k)).length := by rw [HLk.out]; exact hmv
        exact ⟨_, (hown2.cellAt m (by omega)).trans (List.getElem?_eq_getElem hl)⟩
      have hst := (hown2.stored m (.int .i64 x)).1
      rw [hm, HST.out, ← hm] at hst
      have HST2 : Hid _ := Lib.hid hst
      have HM2 : Hid _ := Lib.hid hm
      clear hst hm hown hown2 hw2 hbel
      go_wp2_with fail
      go_roundw
      case rel => exact ⟨k + 1, by omega, by go_num, HST2.out, Lib.hid (hbel2.out.setCell (p := ⟨w.heap.size, m, none⟩) (Nat.le_refl _) _)⟩
      case measure => simp [intOf]; omega
    · obtain rfl : k = A := by omega
      go_wp2
      go_ret
      exact ⟨_, rfl, by rw [HE.out]; exact Row.of_owns hown, hbel.out⟩

set_option maxHeartbeats 1000000 in
theorem apply_ok (W H : Nat) (B : Board W H) (s : Nat) (hs : s < cntS W H) (xs : List Int) (v : Value) (w : World) (hv : Row w v (vals xs)) (hx : xs.length = W * H) :
    Calls Try.prog 21 #[.int .i64 (W : Int), .int .i64 (H : Int), .int .i64 (s : Int), v] w fun e w' => ∃ v', e = .returned (.tuple #[v', .int .i64 0]) ∧ Row w' v' (vals (app W H s xs)) ∧ Below w.heap.size w w' := by
  have hp := wh_le B
  have HA : Hid _ := Lib.hid (moveAll_any W H B s hs xs v w hv hx)
  have HC : Hid _ := Lib.hid (checkSym_ok W H B s w hs)
  obtain ⟨A, hA⟩ : ∃ A : Nat, A = W * H := ⟨_, rfl⟩
  obtain ⟨a, cap, rfl, _⟩ := hv.shape A (by rw [vals_length, hx, hA])
  have hm : (W : Int) * (H : Int) = (A : Int) := by rw [hA]; norm_cast
  rw [← hA] at hp
  clear hA hv hx B hs
  go_enter Try.func21, Try.ntmps21
  go_wp2_with fail
  go_at_call 27; refine (turned HC.out).mono ?_; rintro e w' ⟨rfl, rfl⟩
  go_wp2_with fail
  go_at_call 39; refine HA.out.mono ?_; rintro e w' ⟨v', rfl, hr, hb⟩
  go_wp2_with fail
  go_ret2
  exact ⟨v', rfl, hr, hb⟩
theorem apply_form (W H : Nat) (B : Board W H) (s : Nat) (hs : s < cntS W H) (n : Nat) (a : Option Addr) (cap : Nat) (w : World) (hx : n ≠ W * H) :
    Calls Try.prog 21 #[.int .i64 (W : Int), .int .i64 (H : Int), .int .i64 (s : Int), .slice a n cap] w fun e w' => e = .returned (.tuple #[.slice none 0 0, .int .i64 3]) ∧ w' = w := by
  have hp := wh_le B
  have HC : Hid _ := Lib.hid (checkSym_ok W H B s w hs)
  obtain ⟨A, hA⟩ : ∃ A : Nat, A = W * H := ⟨_, rfl⟩
  have hm : (W : Int) * (H : Int) = (A : Int) := by rw [hA]; norm_cast
  rw [← hA] at hp hx
  have hne : ((n : Int) != (A : Int)) = true := by simp; omega
  clear hA hx B hs
  go_enter Try.func21, Try.ntmps21
  go_wp2_with fail
  go_at_call 27; refine (turned HC.out).mono ?_; rintro e w' ⟨rfl, rfl⟩
  go_wp2_with fail
  go_ret2
  exact ⟨rfl, rfl⟩
theorem apply_bad (a b s : Int) (v : Value) (w : World) (h : ¬ IsS a b s) :
    Calls Try.prog 21 #[.int .i64 a, .int .i64 b, .int .i64 s, v] w fun e w' => ∃ c, e = .returned (.tuple #[.slice none 0 0, .int .i64 c]) ∧ c ≠ 0 ∧ (c = 4 ↔ ¬ IsB a b) ∧ (c = 8 ↔ IsB a b) ∧ w = w' := by
  have HB : Hid _ := Lib.hid h
  clear h
  go_enter Try.func21, Try.ntmps21
  go_wp2_with fail
  go_at_call 27; refine (checkSym_bad a b s _ HB.out).mono ?_; rintro e w' ⟨c, rfl, hc, h4, h8, rfl⟩
  have HC : Hid _ := Lib.hid (And.intro hc (And.intro h4 h8))
  have hne : (c != 0) = true := by simpa using hc
  clear hc h4 h8
  go_wp2_with fail
  go_ret2
  exact ⟨c, rfl, HC.out.1, HC.out.2.1, HC.out.2.2, rfl⟩

/-! ### moved and fine -/
theorem map_3350 (w : World) : Calls Try.prog 13 #[.int .i64 3, .int .i64 3, .int .i64 5, .int .i64 0] w fun e w' => e = .returned (.tuple #[.int .i64 2, .int .i64 0]) ∧ ∃ n, w' = w.drewN n := by
  have h := map_ok 3 3 ⟨by decide, by decide, by decide, by decide⟩ 5 0 w (by decide) (by decide)
  have e : mv 3 3 5 0 = 2 := by decide
  rw [e] at h; exact h
theorem apply_56 (w : World) (v : Value) (hv : Row w v (vals [5, 6])) : Calls Try.prog 21 #[.int .i64 2, .int .i64 1, .int .i64 1, v] w fun e w' => ∃ v', e = .returned (.tuple #[v', .int .i64 0]) ∧ Row w' v' (vals [6, 5]) ∧ Below w.heap.size w w' := by
  have h := apply_ok 2 1 ⟨by decide, by decide, by decide, by decide⟩ 1 (by decide) [5, 6] v w hv rfl
  have e : app 2 1 1 [5, 6] = [6, 5] := by decide +kernel
  rw [e] at h; exact h
set_option maxHeartbeats 1000000 in
theorem moved_true (w : World) : Calls Try.prog 11 #[] w fun e w' => e = .returned (.bool true) ∧ Below w.heap.size w w' := by
  go_enter Try.func11, Try.ntmps11
  go_wp2_with fail
  go_at_call 13; refine (map_3350 _).mono ?_; rintro e w1 ⟨rfl, q, hw1⟩
  have HB1 : Hid (Below w.heap.size w w1) := Lib.hid (below_of_drew hw1)
  clear hw1
  go_wp2_with fail
  go_at_call 21; refine (apply_56 _ _ (row_two w1 5 6)).mono ?_; rintro e w2 ⟨v2, rfl, hr2, hb2⟩
  have HB2 : Hid (Below w.heap.size w w2) := Lib.hid ((HB1.out.alloc HB1.out.size _).trans (hb2.mono (by have := HB1.out.size; simp; omega)))
  have HR2 : Hid _ := Lib.hid hr2
  clear hb2 hr2 HB1
  go_wp2_with fail
  go_at_call 16
  refine (equal_any [6, 5] [6, 5] v2 _ _ (HR2.out.below ((Below.refl w2.heap.size w2).alloc (Nat.le_refl _) _) (Nat.le_refl _)) (row_two w2 6 5) (by simp)).mono ?_
  rintro e w3 ⟨rfl, hb3⟩
  have HB3 : Hid (Below w.heap.size w w3) := Lib.hid ((HB2.out.alloc HB2.out.size _).trans (hb3.mono (by have := HB2.out.size; simp; omega)))
  clear hb3
  go_wp2_with fail
  go_ret
  exact ⟨rfl, HB3.out⟩
theorem bad_any (x : Int) (w : World) : Calls Try.prog 32 #[.int .i64 x] w fun e w' => e = .returned (.bool (x != 0)) ∧ w' = w := by
  go_enter Try.func32, Try.ntmps32
  go_wp2
  go_ret
  exact ⟨rfl, rfl⟩
/-- What the first place of a number that is not 0 is; -1: there is none. -/
def IdxOk (es : List Int) (r : Int) : Prop := if es.all (fun x => x == 0) then r = -1 else 0 ≤ r
set_option maxHeartbeats 1000000 in
theorem indexFunc_any (es : List Int) (v : Value) (w : World) (hv : Row w v (vals es)) (hl : es.length ≤ 100) :
    Calls Try.prog 43 #[v, .func (.func 32) #[] #[]] w fun e w' => ∃ r : Int, e = .returned (.int .i64 r) ∧ IdxOk es r ∧ w = w' := by
  obtain ⟨n, hn⟩ : ∃ n : Nat, n = es.length := ⟨_, rfl⟩
  obtain ⟨a, cap, rfl, hcell⟩ := hv.at hn
  rw [← hn] at hl
  have HC : Hid _ := Lib.hid hcell
  have HN : Hid _ := Lib.hid hn
  clear hcell hn hv
  go_enter Try.func43, Try.ntmps43
  go_wp2
  go_loopw [8] (fun i wr => ∃ k : Nat, k ≤ n ∧ i = .int .i64 (k : Int) ∧ Hid (∀ j, j < k → es[j]?.getD 0 = 0) ∧ wr = w) (fun i _ => n - (intOf i).toNat)
  case atStart => exact ⟨0, by omega, rfl, Lib.hid (fun j hj => by omega), rfl⟩
  case round =>
    obtain ⟨k, hk, rfl, hall, rfl⟩ := hrel
    by_cases hlt : k < n
    · obtain ⟨g, off, rfl, hcell⟩ := HC.out k hlt
      have hc1 := hcell wr (Below.refl _ _)
      clear hcell
      by_cases hz : es[k]?.getD 0 = 0
      · rw [hz] at hc1
        have HZ : Hid _ := Lib.hid hz
        clear hz
        go_wp2_with fail
        go_at_call 32; refine (turned (bad_any 0 _)).mono ?_; rintro e w' ⟨rfl, rfl⟩
        go_wp2_with fail
        go_roundw
        case rel =>
          refine ⟨k + 1, by omega, by go_num, Lib.hid (fun j hj => ?_), trivial⟩
          by_cases e : j = k
          · rw [e]; exact HZ.out
          · exact hall.out j (by omega)
        case measure => simp [intOf]; omega
      · obtain ⟨x, hx⟩ : ∃ x : Int, x = es[k]?.getD 0 := ⟨_, rfl⟩
        rw [← hx] at hc1 hz
        have K : Hid (IdxOk es (k : Int)) := Lib.hid (by
          unfold IdxOk
          have : es.all (fun x => x == 0) = false := by
            rw [Bool.eq_false_iff]; intro h
            rw [List.all_eq_true] at h
            have hk2 : k < es.length := by have := HN.out; omega
            have := h _ (List.getElem_mem hk2)
            apply hz; rw [hx]; simpa [hk2] using this
          rw [if_neg (by simp [this])]; omega)
        have hne : (x != 0) = true := by simpa using hz
        clear hz hx
        go_wp2_with fail
        go_at_call 32; refine (turned (bad_any x _)).mono ?_; rintro e w' ⟨rfl, rfl⟩
        go_wp2_with fail
        go_ret
        exact ⟨_, rfl, K.out, rfl⟩
    · have K : Hid (IdxOk es (-1)) := Lib.hid (by
        unfold IdxOk
        have : es.all (fun x => x == 0) = true := by
          rw [List.all_eq_true]
          intro x hx
          obtain ⟨j, hj, e⟩ := List.getElem_of_mem hx
          have := hall.out j (by have := HN.out; omega)
          simp [hj] at this
          rw [← e, this]; rfl
        rw [if_pos this])
      go_wp2
      go_ret
      exact ⟨_, rfl, K.out, rfl⟩
theorem containsFunc_any (es : List Int) (v : Value) (w : World) (hv : Row w v (vals es)) (hl : es.length ≤ 100) :
    Calls Try.prog 31 #[v, .func (.func 32) #[] #[]] w fun e w' => e = .returned (.bool (!es.all (fun x => x == 0))) ∧ w = w' := by
  have HI : Hid _ := Lib.hid (indexFunc_any es v w hv hl)
  clear hv
  go_enter Try.func31, Try.ntmps31
  go_wp2_with fail
  go_at_call 43; refine HI.out.mono ?_; rintro e w' ⟨r, rfl, hr, rfl⟩
  unfold IdxOk at hr
  have K : Hid (decide (0 ≤ r) = !es.all (fun x => x == 0)) := Lib.hid (by
    cases h : es.all (fun x => x == 0)
    · rw [h] at hr; simp at hr; simp [hr]
    · rw [h] at hr; simp at hr; simp [hr])
  clear hr
  go_wp2_with fail
  go_ret
  exact ⟨ret_bool K.out, rfl⟩
theorem fine_any (es : List Int) (v : Value) (w : World) (hv : Row w v (vals es)) (hl : es.length ≤ 100) :
    Calls Try.prog 14 #[v] w fun e w' => e = .returned (.bool (es.all (fun x => x == 0))) ∧ w = w' := by
  have HI : Hid _ := Lib.hid (containsFunc_any es v w hv hl)
  clear hv
  generalize es.all (fun x => x == 0) = b at HI
  go_enter Try.func14, Try.ntmps14
  go_wp2_with fail
  go_at_call 31; refine HI.out.mono ?_; rintro e w' ⟨rfl, rfl⟩
  go_wp2_with fail
  go_ret
  exact ⟨ret_bool (by simp), rfl⟩
end Go.Proofs.Ytfmpoebkhkambaa
