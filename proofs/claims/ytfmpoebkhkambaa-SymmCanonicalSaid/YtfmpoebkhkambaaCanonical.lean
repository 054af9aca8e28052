/- SymmCanonical: plain facts on the least form; the walk of the law. -/
import Derived.Test.YtfmpoebkhkambaaCanon
namespace Go.Proofs.Ytfmpoebkhkambaa
open Go.RowKit Go.Shelf

/-! ### The order of lists -/
theorem ltL_irrefl : ∀ a, ltL a a = false := by
  intro a
  induction a with
  | nil => rfl
  | cons x a ih => rw [ltL, if_pos rfl]; exact ih
theorem ltL_trans : ∀ a b c, ltL a b = true → ltL b c = true → ltL a c = true := by
  intro a
  induction a with
  | nil => intro b c h; simp [ltL] at h
  | cons x a ih =>
    intro b c
    cases b with
    | nil => intro h; simp [ltL] at h
    | cons y b =>
      cases c with
      | nil => intro _ h; simp [ltL] at h
      | cons z c =>
        intro h g
        rw [ltL] at h g ⊢
        by_cases e1 : x = y
        · subst e1
          rw [if_pos rfl] at h
          by_cases e2 : x = z
          · subst e2
            rw [if_pos rfl] at g ⊢
            exact ih b c h g
          · rw [if_neg e2] at g ⊢; exact g
        · rw [if_neg e1] at h
          by_cases e2 : y = z
          · subst e2
            rw [if_neg e1]; exact h
          · rw [if_neg e2] at g
            have h1 := of_decide_eq_true h
            have h2 := of_decide_eq_true g
            rw [if_neg (by omega)]
            exact decide_eq_true (by omega)
theorem ltL_total : ∀ a b, a.length = b.length → ltL a b = false → ltL b a = false → a = b := by
  intro a
  induction a with
  | nil => intro b h _ _; cases b with
           | nil => rfl
           | cons y b => simp at h
  | cons x a ih =>
    intro b hl h g
    cases b with
    | nil => simp at hl
    | cons y b =>
      rw [ltL] at h g
      by_cases e : x = y
      · subst e
        rw [if_pos rfl] at h g
        rw [ih b (by simpa using hl) h g]
      · rw [if_neg e] at h
        rw [if_neg (fun k => e k.symm)] at g
        have h1 := of_decide_eq_false h
        have h2 := of_decide_eq_false g
        exact absurd (by omega : x = y) e

/-! ### The least form -/
theorem app_app {W H : Nat} (B : Board W H) (s t : Nat) (hs : s < cntS W H) (ht : t < cntS W H) (xs : List Int) : app W H s (app W H t xs) = app W H (compS s t) xs := by
  apply List.ext_getElem
  · rw [app_length, app_length]
  · intro p h1 h2
    have hp : p < W * H := by rwa [app_length] at h1
    have e1 := app_at B s hs (app W H t xs) p hp
    have e2 := app_at B (compS s t) (comp_lt B s t hs ht) xs p hp
    rw [app_at B t ht xs _ (mv_lt B _ p (inv_lt s hs) hp), mv_inv_comp B s t p hs ht hp, ← e2] at e1
    simpa [h1, h2] using e1
theorem app_zero {W H : Nat} (B : Board W H) (xs : List Int) (h : xs.length = W * H) : app W H 0 xs = xs := by
  have h0 : 0 < cntS W H := by have := @cntS_ge W H; omega
  apply List.ext_getElem
  · rw [app_length, h]
  · intro p h1 h2
    have hp : p < W * H := by rwa [app_length] at h1
    have e1 := app_at B 0 h0 xs p hp
    have e2 : invS 0 = 0 := by decide
    rw [e2, mv_zero_of p B] at e1
    simpa [h1, h2] using e1
theorem canGo_is {W H : Nat} (B : Board W H) (xs : List Int) (h : xs.length = W * H) (k : Nat) (hk : k ≤ cntS W H) : (canGo W H xs k).2 < cntS W H ∧ (canGo W H xs k).1 = app W H (canGo W H xs k).2 xs := by
  induction k with
  | zero => exact ⟨by have := @cntS_ge W H; simp [canGo]; omega, by simp [canGo, app_zero B xs h]⟩
  | succ k ih =>
    rw [canGo]
    split
    · exact ⟨by simp only []; omega, rfl⟩
    · exact ih (by omega)
theorem canGo_min {W H : Nat} (xs : List Int) (k : Nat) : ∀ s, s < k → ltL (app W H s xs) (canGo W H xs k).1 = false := by
  induction k with
  | zero => intro s hs; omega
  | succ k ih =>
    intro s hs
    rw [canGo]
    cases hb : ltL (app W H k xs) (canGo W H xs k).1
    · simp only [Bool.false_eq_true, if_false]
      by_cases e : s = k
      · rw [e]; exact hb
      · exact ih s (by omega)
    · simp only [if_true]
      by_cases e : s = k
      · rw [e]; exact ltL_irrefl _
      · cases hc : ltL (app W H s xs) (app W H k xs)
        · rfl
        · have := ltL_trans _ _ _ hc hb
          rw [ih s (by omega)] at this; cases this
theorem canon_same {W H : Nat} (B : Board W H) (xs : List Int) (h : xs.length = W * H) (t : Nat) (ht : t < cntS W H) : (canV W H (app W H t xs)).1 = (canV W H xs).1 := by
  have h8 := @cntS_le W H
  obtain ⟨i1, i2⟩ := canGo_is B xs h _ (Nat.le_refl _)
  obtain ⟨j1, j2⟩ := canGo_is B (app W H t xs) (app_length _ _ _ _) _ (Nat.le_refl _)
  have m1 := @canGo_min W H xs (cntS W H)
  have m2 := @canGo_min W H (app W H t xs) (cntS W H)
  rw [canV, canV]
  apply ltL_total
  · rw [i2, j2, app_length, app_length]
  · have := m1 (compS (canGo W H (app W H t xs) (cntS W H)).2 t) (comp_lt B _ _ j1 ht)
    rw [← app_app B _ _ j1 ht, ← j2] at this
    exact this
  · have := m2 (compS (canGo W H xs (cntS W H)).2 (invS t)) (comp_lt B _ _ i1 (inv_lt t ht))
    rw [app_app B _ _ (comp_lt B _ _ i1 (inv_lt t ht)) ht, comp_back _ _ (by omega) (by omega), ← i2] at this
    exact this
theorem canon_self {W H : Nat} (B : Board W H) (xs : List Int) (h : xs.length = W * H) : canV W H (canV W H xs).1 = ((canV W H xs).1, 0) := by
  obtain ⟨i1, i2⟩ := canGo_is B xs h _ (Nat.le_refl _)
  have m1 := @canGo_min W H xs (cntS W H)
  have key : ∀ k, k ≤ cntS W H → canGo W H (canV W H xs).1 k = ((canV W H xs).1, 0) := by
    intro k
    induction k with
    | zero => intro _; rfl
    | succ k ih =>
      intro hk
      rw [canGo, ih (by omega)]
      have : ltL (app W H k (canV W H xs).1) (canV W H xs).1 = false := by
        rw [canV]
        have := m1 (compS k (canGo W H xs (cntS W H)).2) (comp_lt B _ _ (by omega) i1)
        rw [← app_app B _ _ (by omega) i1, ← i2] at this
        exact this
      simp [this]
  exact key _ (Nat.le_refl _)

/-! ### The walk -/
theorem apply_no (a b s : Int) (n : Nat) (ad : Option Addr) (cap : Nat) (w : World) (h : ¬ (IsS a b s ∧ n = a.toNat * b.toNat)) :
    Calls Try.prog 21 #[.int .i64 a, .int .i64 b, .int .i64 s, .slice ad n cap] w fun e w' => ∃ c, e = .returned (.tuple #[.slice none 0 0, .int .i64 c]) ∧ c ≠ 0 ∧ w = w' := by
  by_cases hs : IsS a b s
  · have hn : n ≠ a.toNat * b.toNat := fun e => h ⟨hs, e⟩
    obtain ⟨W, H, S, rfl, rfl, rfl, B, hS⟩ := hs.nat
    simp only [Int.toNat_natCast] at hn
    refine (apply_form W H B S hS n ad cap w hn).mono ?_
    rintro e w' ⟨rfl, rfl⟩
    exact ⟨3, rfl, by decide, rfl⟩
  · refine (apply_bad a b s (.slice ad n cap) w hs).mono ?_
    rintro e w' ⟨c, rfl, hc, _, _, rfl⟩
    exact ⟨c, rfl, hc, rfl⟩
theorem canon_bad (a b : Int) (n : Nat) (ad : Option Addr) (cap : Nat) (w : World) (h : ¬ (IsB a b ∧ n = a.toNat * b.toNat)) :
    Calls Try.prog 20 #[.int .i64 a, .int .i64 b, .slice ad n cap] w fun e w' => ∃ c, e = .returned (.tuple #[.slice none 0 0, .int .i64 0, .int .i64 c]) ∧ c ≠ 0 ∧ (IsB a b → c = 3) ∧ (¬ IsB a b → c = 4) ∧ w = w' := by
  by_cases hs : IsB a b
  · have hn : n ≠ a.toNat * b.toNat := fun e => h ⟨hs, e⟩
    obtain ⟨W, H, rfl, rfl, B⟩ := hs.nat
    simp only [Int.toNat_natCast] at hn
    refine (canon_form W H B n ad cap w hn).mono ?_
    rintro e w' ⟨rfl, rfl⟩
    exact ⟨3, rfl, by decide, fun _ => rfl, fun g => absurd hs g, rfl⟩
  · refine (canon_no a b (.slice ad n cap) w hs).mono ?_
    rintro e w' ⟨rfl, rfl⟩
    exact ⟨4, rfl, by decide, fun g => absurd g hs, fun _ => rfl, rfl⟩

set_option maxRecDepth 100000 in
set_option maxHeartbeats 4000000 in
theorem canonical_bad (a b s : Int) (ad : Option Addr) (n cap : Nat) (w : World) (h : ¬ (IsB a b ∧ n = a.toNat * b.toNat)) :
    Calls Try.prog 5 #[.int .i64 a, .int .i64 b, .int .i64 s, .slice ad n cap] w fun e w' => e = .returned (.bool true) ∧ Below w.heap.size w w' := by
  have K1 : Hid _ := Lib.hid (fun w => canon_bad a b n ad cap w h)
  have K2 : Hid _ := Lib.hid (fun w => apply_no a b s n ad cap w (fun g => h ⟨g.1.1, g.2⟩))
  clear h
  go_enter Try.func5, Try.ntmps5
  go_wp2_with fail
  go_at_call 20; refine (canon_2156 _ _ (row_two w 6 5)).mono ?_; rintro e w1 ⟨v1, rfl, hr1, hb1⟩
  have HB1 : Hid (Below w.heap.size w w1) := Lib.hid (((Below.refl _ w).alloc (Nat.le_refl _) _).trans (hb1.mono (by simp)))
  have HR1 : Hid _ := Lib.hid hr1
  clear hb1 hr1
  go_wp2_with fail
  go_at_call 16
  refine (equal_any [5, 6] [5, 6] v1 _ _ (HR1.out.below ((Below.refl w1.heap.size w1).alloc (Nat.le_refl _) _) (Nat.le_refl _)) (row_two w1 5 6) (by simp)).mono ?_
  rintro e w2 ⟨rfl, hb2⟩
  have HB2 : Hid (Below w.heap.size w w2) := Lib.hid ((HB1.out.alloc HB1.out.size _).trans (hb2.mono (by have := HB1.out.size; simp; omega)))
  clear hb2 HB1 HR1
  go_wp2_with fail
  go_at_call 11; refine (moved_true _).mono ?_; rintro e w3 ⟨rfl, hb3⟩
  have HB3 : Hid (Below w.heap.size w w3) := Lib.hid (HB2.out.trans (hb3.mono HB2.out.size))
  clear hb3 HB2
  go_wp2_with fail
  go_at_call 20; refine (K1.out _).mono ?_; rintro e w' ⟨c, rfl, hc0, _, _, rfl⟩
  go_wp2_with fail
  go_at_call 21; refine (K2.out _).mono ?_; rintro e w' ⟨d, rfl, hd, rfl⟩
  have e : List.all [c, d] (fun x => x == 0) = false := by simp [hc0]
  have he : (c == 0) = false := by simpa using hc0
  have HE : Hid _ := Lib.hid e
  clear hc0 hd e
  go_wp2_with fail
  go_at_call 14; refine (fine_any [c, d] _ _ (row_new w3 [c, d] 22 (by simp) (by simp [maxLen])) (by simp)).mono ?_; rintro e w6 ⟨rfl, rfl⟩
  rw [HE.out]
  go_wp2_with fail
  go_ret
  exact ⟨rfl, HB3.out.alloc HB3.out.size _⟩
set_option maxRecDepth 100000 in
set_option maxHeartbeats 4000000 in
theorem canonical_none (W H : Nat) (B : Board W H) (s : Int) (xs : List Int) (v : Value) (w : World) (hv : Row w v (vals xs)) (hx : xs.length = W * H) (hs : ¬ IsS (W : Int) (H : Int) s) :
    Calls Try.prog 5 #[.int .i64 (W : Int), .int .i64 (H : Int), .int .i64 s, v] w fun e w' => e = .returned (.bool true) ∧ Below w.heap.size w w' := by
  have K1 : Hid (∀ W', Below w.heap.size w W' → Calls Try.prog 20 #[.int .i64 (W : Int), .int .i64 (H : Int), v] W' (CanPost W' (canV W H xs))) := Lib.hid (fun W' hb => canon_ok W H B xs v W' (hv.below hb (Nat.le_refl _)) hx)
  have K2 : Hid _ := Lib.hid (fun w => apply_bad (W : Int) (H : Int) s v w hs)
  generalize canV W H xs = p at K1
  obtain ⟨p1, p2⟩ := p
  clear hs hv B
  go_enter Try.func5, Try.ntmps5
  go_wp2_with fail
  go_at_call 20; refine (canon_2156 _ _ (row_two w 6 5)).mono ?_; rintro e w1 ⟨v1, rfl, hr1, hb1⟩
  have HB1 : Hid (Below w.heap.size w w1) := Lib.hid (((Below.refl _ w).alloc (Nat.le_refl _) _).trans (hb1.mono (by simp)))
  have HR1 : Hid _ := Lib.hid hr1
  clear hb1 hr1
  go_wp2_with fail
  go_at_call 16
  refine (equal_any [5, 6] [5, 6] v1 _ _ (HR1.out.below ((Below.refl w1.heap.size w1).alloc (Nat.le_refl _) _) (Nat.le_refl _)) (row_two w1 5 6) (by simp)).mono ?_
  rintro e w2 ⟨rfl, hb2⟩
  have HB2 : Hid (Below w.heap.size w w2) := Lib.hid ((HB1.out.alloc HB1.out.size _).trans (hb2.mono (by have := HB1.out.size; simp; omega)))
  clear hb2 HB1 HR1
  go_wp2_with fail
  go_at_call 11; refine (moved_true _).mono ?_; rintro e w3 ⟨rfl, hb3⟩
  have HB3 : Hid (Below w.heap.size w w3) := Lib.hid (HB2.out.trans (hb3.mono HB2.out.size))
  clear hb3 HB2
  go_wp2_with fail
  go_at_call 20; refine (K1.out _ HB3.out).mono ?_; rintro e w4 ⟨v4, rfl, hr4, hb4⟩
  have HB4 : Hid (Below w.heap.size w w4) := Lib.hid (HB3.out.trans (hb4.mono HB3.out.size))
  clear hb4 HB3 hr4
  go_wp2_with fail
  go_at_call 21; refine (K2.out _).mono ?_; rintro e w' ⟨d, rfl, hd, _, _, rfl⟩
  have e : List.all [0, d] (fun x => x == 0) = false := by simp [hd]
  have HE : Hid _ := Lib.hid e
  clear hd e
  go_wp2_with fail
  go_at_call 14; refine (fine_any [0, d] _ _ (row_new w4 [0, d] 22 (by simp) (by simp [maxLen])) (by simp)).mono ?_; rintro e w6 ⟨rfl, rfl⟩
  rw [HE.out]
  go_wp2_with fail
  go_ret
  exact ⟨rfl, HB4.out.alloc HB4.out.size _⟩
set_option maxRecDepth 100000 in
set_option maxHeartbeats 8000000 in
theorem canonical_good (W H : Nat) (B : Board W H) (s : Nat) (xs : List Int) (v : Value) (w : World) (hv : Row w v (vals xs)) (hx : xs.length = W * H) (hs : s < cntS W H) :
    Calls Try.prog 5 #[.int .i64 (W : Int), .int .i64 (H : Int), .int .i64 (s : Int), v] w fun e w' => e = .returned (.bool true) ∧ Below w.heap.size w w' := by
  have h64 := wh_le B
  have K1 : Hid (∀ W', Below w.heap.size w W' → Calls Try.prog 20 #[.int .i64 (W : Int), .int .i64 (H : Int), v] W' (CanPost W' (canV W H xs))) := Lib.hid (fun W' hb => canon_ok W H B xs v W' (hv.below hb (Nat.le_refl _)) hx)
  have K2 : Hid (∀ W', Below w.heap.size w W' → Calls Try.prog 21 #[.int .i64 (W : Int), .int .i64 (H : Int), .int .i64 (s : Int), v] W' fun e w' => ∃ v', e = .returned (.tuple #[v', .int .i64 0]) ∧ Row w' v' (vals (app W H s xs)) ∧ Below W'.heap.size W' w') := Lib.hid (fun W' hb => apply_ok W H B s hs xs v W' (hv.below hb (Nat.le_refl _)) hx)
  have ci := canGo_is B xs hx (cntS W H) (Nat.le_refl _)
  have K3 : Hid (∀ W' v', Row W' v' (vals (app W H s xs)) → Calls Try.prog 20 #[.int .i64 (W : Int), .int .i64 (H : Int), v'] W' (CanPost W' ((canV W H xs).1, (canV W H (app W H s xs)).2))) := Lib.hid (fun W' v' hr => by
    have h := canon_ok W H B (app W H s xs) v' W' hr (app_length _ _ _ _)
    have e := canon_same B xs hx s hs
    rw [← e]; exact h)
  have K4 : Hid (∀ W' v', Row W' v' (vals (canV W H xs).1) → Calls Try.prog 20 #[.int .i64 (W : Int), .int .i64 (H : Int), v'] W' (CanPost W' ((canV W H xs).1, 0))) := Lib.hid (fun W' v' hr => by
    have h := canon_ok W H B (canV W H xs).1 v' W' hr (canGo_length _ _ _ hx _)
    rw [canon_self B xs hx] at h; exact h)
  have K5 : Hid (∀ W', Below w.heap.size w W' → Calls Try.prog 21 #[.int .i64 (W : Int), .int .i64 (H : Int), .int .i64 ((canV W H xs).2 : Int), v] W' fun e w' => ∃ v', e = .returned (.tuple #[v', .int .i64 0]) ∧ Row w' v' (vals (canV W H xs).1) ∧ Below W'.heap.size W' w') := Lib.hid (fun W' hb => by
    have h := apply_ok W H B (canV W H xs).2 ci.1 xs v W' (hv.below hb (Nat.le_refl _)) hx
    rw [← show (canV W H xs).1 = app W H (canV W H xs).2 xs from ci.2] at h; exact h)
  have HPL : Hid ((canV W H xs).1.length ≤ 64) := Lib.hid (by rw [show (canV W H xs).1.length = W * H from canGo_length _ _ _ hx _]; exact h64)
  generalize canV W H xs = p at K1 K3 K4 K5 HPL
  generalize (canV W H (app W H s xs)).2 = q at K3
  generalize app W H s xs = t at K2 K3
  obtain ⟨p1, p2⟩ := p
  simp only at K3 K4 K5 HPL
  clear ci hs hv B hx h64
  go_enter Try.func5, Try.ntmps5
  go_wp2_with fail
  go_at_call 20; refine (canon_2156 _ _ (row_two w 6 5)).mono ?_; rintro e w1 ⟨v1, rfl, hr1, hb1⟩
  have HB1 : Hid (Below w.heap.size w w1) := Lib.hid (((Below.refl _ w).alloc (Nat.le_refl _) _).trans (hb1.mono (by simp)))
  have HR1 : Hid _ := Lib.hid hr1
  clear hb1 hr1
  go_wp2_with fail
  go_at_call 16
  refine (equal_any [5, 6] [5, 6] v1 _ _ (HR1.out.below ((Below.refl w1.heap.size w1).alloc (Nat.le_refl _) _) (Nat.le_refl _)) (row_two w1 5 6) (by simp)).mono ?_
  rintro e w2 ⟨rfl, hb2⟩
  have HB2 : Hid (Below w.heap.size w w2) := Lib.hid ((HB1.out.alloc HB1.out.size _).trans (hb2.mono (by have := HB1.out.size; simp; omega)))
  clear hb2 HB1 HR1
  go_wp2_with fail
  go_at_call 11; refine (moved_true _).mono ?_; rintro e w3 ⟨rfl, hb3⟩
  have HB3 : Hid (Below w.heap.size w w3) := Lib.hid (HB2.out.trans (hb3.mono HB2.out.size))
  clear hb3 HB2
  go_wp2_with fail
  go_at_call 20; refine (K1.out _ HB3.out).mono ?_; rintro e w4 ⟨va, rfl, hra, hb4⟩
  have HB4 : Hid (Below w.heap.size w w4) := Lib.hid (HB3.out.trans (hb4.mono HB3.out.size))
  have RA4 : Hid _ := Lib.hid hra
  clear hb4 HB3 hra
  go_wp2_with fail
  go_at_call 21; refine (K2.out _ HB4.out).mono ?_; rintro e w5 ⟨vt, rfl, hrt, hb5⟩
  have HB5 : Hid (Below w.heap.size w w5) := Lib.hid (HB4.out.trans (hb5.mono HB4.out.size))
  have RA5 : Hid _ := Lib.hid (RA4.out.below hb5 (Nat.le_refl _))
  have RT5 : Hid _ := Lib.hid hrt
  clear hb5 HB4 hrt RA4
  go_wp2_with fail
  go_at_call 14; refine (fine_any [0, 0] _ _ (row_new w5 [0, 0] 22 (by simp) (by simp [maxLen])) (by simp)).mono ?_; rintro e w6 ⟨rfl, rfl⟩
  obtain ⟨w6, hw6⟩ : ∃ w6, w6 = w5.alloc (.cells (vals [0, 0]).toArray 22) := ⟨_, rfl⟩
  have hb6 : Below w5.heap.size w5 w6 := by rw [hw6]; exact (Below.refl _ w5).alloc (Nat.le_refl _) _
  have HB6 : Hid (Below w.heap.size w w6) := Lib.hid (HB5.out.trans (hb6.mono HB5.out.size))
  have RA6 : Hid _ := Lib.hid (RA5.out.below hb6 (Nat.le_refl _))
  have RT6 : Hid _ := Lib.hid (RT5.out.below hb6 (Nat.le_refl _))
  rw [← hw6]
  clear hb6 hw6 RA5 RT5 HB5
  go_wp2_with fail
  go_at_call 20; refine (K3.out _ _ RT6.out).mono ?_; rintro e w7 ⟨vb, rfl, hrb, hb7⟩
  have HB7 : Hid (Below w.heap.size w w7) := Lib.hid (HB6.out.trans (hb7.mono HB6.out.size))
  have RA7 : Hid _ := Lib.hid (RA6.out.below hb7 (Nat.le_refl _))
  have RB7 : Hid _ := Lib.hid hrb
  clear hb7 hrb RA6 RT6 HB6
  go_wp2_with fail
  go_at_call 20; refine (K4.out _ _ RA7.out).mono ?_; rintro e w8 ⟨vc, rfl, hrc, hb8⟩
  have HB8 : Hid (Below w.heap.size w w8) := Lib.hid (HB7.out.trans (hb8.mono HB7.out.size))
  have RA8 : Hid _ := Lib.hid (RA7.out.below hb8 (Nat.le_refl _))
  have RB8 : Hid _ := Lib.hid (RB7.out.below hb8 (Nat.le_refl _))
  have RC8 : Hid _ := Lib.hid hrc
  clear hb8 hrc RA7 RB7 HB7
  go_wp2_with fail
  go_at_call 21; refine (K5.out _ HB8.out).mono ?_; rintro e w9 ⟨vd, rfl, hrd, hb9⟩
  have HB9 : Hid (Below w.heap.size w w9) := Lib.hid (HB8.out.trans (hb9.mono HB8.out.size))
  have RA9 : Hid _ := Lib.hid (RA8.out.below hb9 (Nat.le_refl _))
  have RB9 : Hid _ := Lib.hid (RB8.out.below hb9 (Nat.le_refl _))
  have RC9 : Hid _ := Lib.hid (RC8.out.below hb9 (Nat.le_refl _))
  have RD9 : Hid _ := Lib.hid hrd
  clear hb9 hrd RA8 RB8 RC8 HB8
  go_wp2_with fail
  go_at_call 14; refine (fine_any [0, 0, 0] _ _ (row_new w9 [0, 0, 0] 22 (by simp) (by simp [maxLen])) (by simp)).mono ?_; rintro e w10 ⟨rfl, rfl⟩
  obtain ⟨wa, hwa⟩ : ∃ wa, wa = w9.alloc (.cells (vals [0, 0, 0]).toArray 22) := ⟨_, rfl⟩
  have hba : Below w9.heap.size w9 wa := by rw [hwa]; exact (Below.refl _ w9).alloc (Nat.le_refl _) _
  have HBa : Hid (Below w.heap.size w wa) := Lib.hid (HB9.out.trans (hba.mono HB9.out.size))
  have RAa : Hid _ := Lib.hid (RA9.out.below hba (Nat.le_refl _))
  have RBa : Hid _ := Lib.hid (RB9.out.below hba (Nat.le_refl _))
  have RCa : Hid _ := Lib.hid (RC9.out.below hba (Nat.le_refl _))
  have RDa : Hid _ := Lib.hid (RD9.out.below hba (Nat.le_refl _))
  rw [← hwa]
  clear hba hwa RA9 RB9 RC9 RD9 HB9
  have EQ : Hid (∀ W' v1 v2, Row W' v1 (vals p1) → Row W' v2 (vals p1) → Calls Try.prog 16 #[v1, v2] W' (BoolPost W' true)) := Lib.hid (fun W' v1 v2 h1 h2 => by
    have h := equal_any p1 p1 v1 v2 W' h1 h2 (by have := HPL.out; omega)
    rwa [decide_eq_true rfl] at h)
  go_wp2_with fail
  go_at_call 16; refine (EQ.out _ _ _ RAa.out RBa.out).mono ?_; rintro e wb ⟨rfl, hbb⟩
  have HBb : Hid (Below w.heap.size w wb) := Lib.hid (HBa.out.trans (hbb.mono HBa.out.size))
  have RAb : Hid _ := Lib.hid (RAa.out.below hbb (Nat.le_refl _))
  have RCb : Hid _ := Lib.hid (RCa.out.below hbb (Nat.le_refl _))
  have RDb : Hid _ := Lib.hid (RDa.out.below hbb (Nat.le_refl _))
  clear hbb RAa RBa RCa RDa HBa
  go_wp2_with fail
  go_at_call 16; refine (EQ.out _ _ _ RAb.out RCb.out).mono ?_; rintro e wc ⟨rfl, hbc⟩
  have HBc : Hid (Below w.heap.size w wc) := Lib.hid (HBb.out.trans (hbc.mono HBb.out.size))
  have RAc : Hid _ := Lib.hid (RAb.out.below hbc (Nat.le_refl _))
  have RDc : Hid _ := Lib.hid (RDb.out.below hbc (Nat.le_refl _))
  clear hbc RAb RCb RDb HBb
  go_wp2_with fail
  go_at_call 16; refine (EQ.out _ _ _ RAc.out RDc.out).mono ?_; rintro e wd ⟨rfl, hbd⟩
  have HBd : Hid (Below w.heap.size w wd) := Lib.hid (HBc.out.trans (hbd.mono HBc.out.size))
  clear hbd
  go_wp2_with fail
  go_ret
  exact ⟨rfl, HBd.out⟩
theorem canonical_full (a b s : Int) (ad : Option Addr) (n cap : Nat) (z : List Int) (w : World) (hz : IsRow .i64 w ad n cap z) :
    Calls Try.prog 5 #[.int .i64 a, .int .i64 b, .int .i64 s, .slice ad n cap] w fun e w' => e = .returned (.bool true) ∧ Below w.heap.size w w' := by
  obtain ⟨hr, hn⟩ := hz.row
  by_cases h : IsB a b ∧ n = a.toNat * b.toNat
  · obtain ⟨W, H, rfl, rfl, B⟩ := h.1.nat
    have hn2 := h.2
    simp only [Int.toNat_natCast] at hn2
    by_cases hs : IsS (W : Int) (H : Int) s
    · obtain ⟨_, h0, h1⟩ := hs
      simp only [Int.toNat_natCast] at h1
      obtain ⟨S, rfl⟩ : ∃ S : Nat, s = (S : Int) := ⟨s.toNat, by omega⟩
      exact canonical_good W H B S (z.take n) _ w hr (by omega) (by omega)
    · exact canonical_none W H B s (z.take n) _ w hr (by omega) hs
  · exact canonical_bad a b s ad n cap w h
end Go.Proofs.Ytfmpoebkhkambaa
