/- SymmTurned: the walk of the law. -/
import Derived.Test.YtfmpoebkhkambaaColours
namespace Go.Proofs.Ytfmpoebkhkambaa
open Go.RowKit Go.Shelf

def swapBit (s : Nat) : Nat := if s = 1 then 2 else if s = 2 then 1 else s
theorem cyc_facts : allB (fun w h => (Nat.beq w h || allN 4 fun s => Nat.beq (cyc w h s) (cyc h w (swapBit s))) && allN (cntS w h) fun s => Nat.ble 1 (cyc w h s)) = true := by decide +kernel
theorem cyc_turn {W H : Nat} (B : Board W H) (h : W ≠ H) (s : Nat) (hs : s < 4) : cyc W H s = cyc H W (swapBit s) := by
  have := allB_at cyc_facts W H B.w1 B.w8 B.h1 B.h8
  rw [Bool.and_eq_true] at this
  have := this.1
  rw [Bool.or_eq_true] at this
  rcases this with e | e
  · exact absurd (Nat.eq_of_beq_eq_true e) h
  · exact Nat.eq_of_beq_eq_true (allN_at e s hs)
theorem cyc_pos {W H : Nat} (B : Board W H) (s : Nat) (hs : s < cntS W H) : 1 ≤ cyc W H s := by
  have := allB_at cyc_facts W H B.w1 B.w8 B.h1 B.h8
  rw [Bool.and_eq_true] at this
  exact Nat.le_of_ble_eq_true (allN_at this.2 s hs)
theorem cntS_turn (W H : Nat) : cntS W H = cntS H W := by unfold cntS; split <;> rename_i h <;> simp [h] <;> omega
theorem colV_turn {W H : Nat} (B : Board W H) (c : Nat) : colV W H c = colV H W c := by
  by_cases h : W = H
  · rw [h]
  · have e4 : cntS W H = 4 := by simp [cntS, h]
    have e4' : cntS H W = 4 := by rw [← cntS_turn, e4]
    have c0 := cyc_turn B h 0 (by decide)
    have c1 := cyc_turn B h 1 (by decide)
    have c2 := cyc_turn B h 2 (by decide)
    have c3 := cyc_turn B h 3 (by decide)
    simp only [swapBit] at c0 c1 c2 c3
    have s : sumTo W H c 4 = sumTo H W c 4 := by
      simp [sumTo, List.range_succ, c0, c1, c2, c3]; omega
    have o : OkTo W H c 4 ↔ OkTo H W c 4 := by
      constructor
      · intro g s hs
        match s, hs with
        | 0, _ => have := g 0 (by decide); simpa [c0] using this
        | 1, _ => have := g 2 (by decide); simpa [c2] using this
        | 2, _ => have := g 1 (by decide); simpa [c1] using this
        | 3, _ => have := g 3 (by decide); simpa [c3] using this
      · intro g s hs
        match s, hs with
        | 0, _ => have := g 0 (by decide); simpa [c0] using this
        | 1, _ => have := g 2 (by decide); simpa [c1] using this
        | 2, _ => have := g 1 (by decide); simpa [c2] using this
        | 3, _ => have := g 3 (by decide); simpa [c3] using this
    rw [colV, colV, e4, e4', s]
    by_cases g : OkTo W H c 4
    · rw [if_pos g, if_pos (o.1 g)]
    · rw [if_neg g, if_neg (fun k => g (o.2 k))]
theorem colAny_turn (a b c : Int) : colAny b a c = colAny a b c := by
  have hs : IsB b a ↔ IsB a b := ⟨fun h => ⟨h.2.2.1, h.2.2.2, h.1, h.2.1⟩, fun h => ⟨h.2.2.1, h.2.2.2, h.1, h.2.1⟩⟩
  rw [colAny, colAny]
  by_cases h : IsB a b
  · rw [if_pos h, if_pos (hs.2 h)]
    by_cases hc : 0 ≤ c ∧ c ≤ 16
    · rw [if_pos hc, if_pos hc]
      obtain ⟨W, H, rfl, rfl, B⟩ := h.nat
      simp only [Int.toNat_natCast]
      exact (colV_turn B _).symm
    · rw [if_neg hc, if_neg hc]
  · rw [if_neg h, if_neg (fun g => h (hs.1 g))]
theorem pow_more (c k : Nat) (hk : 1 ≤ k) : c ^ k + 1 ≤ (c + 1) ^ k := Nat.pow_lt_pow_left (by omega) (by omega)
theorem sumTo_more {W H : Nat} (B : Board W H) (c : Nat) : ∀ k, k ≤ cntS W H → sumTo W H c k + k ≤ sumTo W H (c + 1) k := by
  intro k
  induction k with
  | zero => intro _; simp [sumTo]
  | succ k ih =>
    intro h
    rw [sumTo_succ, sumTo_succ]
    have h1 := ih (by omega)
    have h2 := pow_more c (cyc W H k) (cyc_pos B k (by omega))
    omega
theorem colAny_more (a b c d : Int) (hd : d = wrap64 (c + 1)) (h : (colAny a b c).2 = 0) (g : (colAny a b d).2 = 0) : (colAny a b c).1 < (colAny a b d).1 := by
  rw [colAny] at h g ⊢
  rw [colAny]
  by_cases hB : IsB a b
  · simp only [if_pos hB] at h g ⊢
    by_cases hc : 0 ≤ c ∧ c ≤ 16
    · simp only [if_pos hc] at h g ⊢
      have e : d = c + 1 := by rw [hd, wrap64_small _ (by omega) (by omega)]
      subst e
      by_cases hd2 : 0 ≤ c + 1 ∧ c + 1 ≤ 16
      · simp only [if_pos hd2] at g ⊢
        obtain ⟨W, H, rfl, rfl, B⟩ := hB.nat
        obtain ⟨C, rfl⟩ : ∃ C : Nat, c = (C : Int) := ⟨c.toNat, by omega⟩
        have e2 : ((C : Int) + 1).toNat = C + 1 := by omega
        rw [e2] at g ⊢
        simp only [Int.toNat_natCast] at h g ⊢
        rw [colV] at h g ⊢
        rw [colV]
        by_cases o1 : OkTo W H C (cntS W H)
        · by_cases o2 : OkTo W H (C + 1) (cntS W H)
          · simp only [if_pos o1, if_pos o2]
            have hm := sumTo_more B C (cntS W H) (Nat.le_refl _)
            have hp : 0 < cntS W H := by have := @cntS_ge W H; omega
            have : sumTo W H C (cntS W H) / cntS W H + 1 ≤ sumTo W H (C + 1) (cntS W H) / cntS W H := by
              rw [← Nat.add_div_right _ hp]
              exact Nat.div_le_div_right hm
            omega
          · simp [if_neg o2] at g
        · simp [if_neg o1] at h
      · simp [if_neg hd2] at g
    · simp [if_neg hc] at h
  · simp [if_neg hB] at h
theorem colours_222 (w : World) : Calls Try.prog 22 #[.int .i64 2, .int .i64 2, .int .i64 2] w fun e w' => e = .returned (.tuple #[.int .i64 6, .int .i64 0]) ∧ Below w.heap.size w w' := by
  have h := colours_any 2 2 2 w
  have e : colAny 2 2 2 = (6, 0) := by decide +kernel
  rw [e] at h; exact h

set_option maxRecDepth 100000 in
set_option maxHeartbeats 2000000 in
theorem turned_full (a b c : Int) (w : World) :
    Calls Try.prog 6 #[.int .i64 a, .int .i64 b, .int .i64 c] w fun e w' => e = .returned (.bool true) ∧ Below w.heap.size w w' := by
  obtain ⟨d, hd⟩ : ∃ d : Int, d = wrap64 (c + 1) := ⟨_, rfl⟩
  have hlt := colAny_more a b c d hd
  have K1 : Hid _ := Lib.hid (fun w => colours_any a b c w)
  have K2 : Hid _ := Lib.hid (fun w => colours_any b a c w)
  have K3 : Hid _ := Lib.hid (fun w => colours_any a b d w)
  rw [colAny_turn] at K2
  have HD : Hid _ := Lib.hid hd
  generalize colAny a b c = p at K1 K2 hlt
  generalize colAny a b d = r at K3 hlt
  obtain ⟨p1, p2⟩ := p
  obtain ⟨r1, r2⟩ := r
  simp only at K1 K2 K3 hlt
  clear hd
  go_enter Try.func6, Try.ntmps6
  go_wp2_with fail
  go_at_call 22; refine (colours_222 _).mono ?_; rintro e w1 ⟨rfl, hb1⟩
  have HB1 : Hid _ := Lib.hid hb1
  clear hb1
  go_wp2_with fail
  go_at_call 22; refine (K1.out _).mono ?_; rintro e w2 ⟨rfl, hb2⟩
  have HB2 : Hid (Below w.heap.size w w2) := Lib.hid (HB1.out.trans (hb2.mono HB1.out.size))
  clear hb2
  go_wp2_with fail
  go_at_call 22; refine (K2.out _).mono ?_; rintro e w3 ⟨rfl, hb3⟩
  have HB3 : Hid (Below w.heap.size w w3) := Lib.hid (HB2.out.trans (hb3.mono HB2.out.size))
  clear hb3
  go_wp2_with fail
  rw [← HD.out]
  go_at_call 22; refine (K3.out _).mono ?_; rintro e w4 ⟨rfl, hb4⟩
  have HB4 : Hid (Below w.heap.size w w4) := Lib.hid (HB3.out.trans (hb4.mono HB3.out.size))
  clear hb4
  have HLT : Hid _ := Lib.hid hlt
  clear hlt
  go_wp2_with fail
  go_at_call 14; refine (fine_any [p2, r2] _ _ (row_new w4 [p2, r2] 22 (by simp) (by simp [maxLen])) (by simp)).mono ?_; rintro e w6 ⟨rfl, rfl⟩
  by_cases h : p2 = 0 ∧ r2 = 0
  · obtain ⟨rfl, rfl⟩ := h
    have hl := HLT.out rfl rfl
    go_wp2_with fail
    go_ret
    exact ⟨ret_bool (by simp), HB4.out.alloc HB4.out.size _⟩
  · have e : List.all [p2, r2] (fun x => x == 0) = false := by
      simp; omega
    rw [e]
    go_wp2_with fail
    go_ret
    exact ⟨ret_bool (by simp), HB4.out.alloc HB4.out.size _⟩
end Go.Proofs.Ytfmpoebkhkambaa
