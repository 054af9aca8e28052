/- A text cut at a byte, and joined again. -/
import Derived.Test.YtakekeljndofcaaGreatDoorMod
set_option maxRecDepth 100000
namespace Go.Proofs.YtakekeljndofcaaGreatDoor
open Go

/-! ### Cutting at a byte -/
theorem cutB_ne (c : UInt8) : ∀ l : (List UInt8), cutB c l ≠ []
  | [] => by simp [cutB]
  | x :: l => by unfold cutB; split <;> simp
theorem cut_split (c : UInt8) (l : (List UInt8)) : cutB c l = (cutB c l).headD [] :: (cutB c l).tail := by
  have := cutB_ne c l
  cases h : cutB c l with
  | nil => exact absurd h this
  | cons a t => rfl
theorem joinTail_cons (s x : (List UInt8)) (r : List (List UInt8)) : Lib.joinTail s (x :: r) = s ++ x ++ Lib.joinTail s r := by simp [Lib.joinTail]
theorem join_cut (c : UInt8) : ∀ l : (List UInt8), Lib.join (cutB c l) [c] = l
  | [] => by simp [cutB, Lib.join_one]
  | x :: l => by
    have ih := join_cut c l
    rw [cut_split c l, Lib.join_cons] at ih
    unfold cutB
    split
    · rename_i h
      subst h
      rw [Lib.join_cons, cut_split x l, joinTail_cons, List.nil_append, List.append_assoc, ih]; rfl
    · rw [Lib.join_cons, List.cons_append, ih]
theorem cut_none {c : UInt8} : ∀ {l : (List UInt8)}, c ∉ l → cutB c l = [l]
  | [], _ => rfl
  | x :: l, h => by
    have h1 : x ≠ c := fun e => h (by simp [e])
    have h2 : c ∉ l := fun e => h (by simp [e])
    rw [cutB, if_neg h1, cut_none h2]; rfl
theorem cut_app {c : UInt8} : ∀ {w l : (List UInt8)}, c ∉ w → cutB c (w ++ c :: l) = w :: cutB c l
  | [], l, _ => by simp [cutB]
  | x :: w, l, h => by
    have h1 : x ≠ c := fun e => h (by simp [e])
    have h2 : c ∉ w := fun e => h (by simp [e])
    rw [List.cons_append, cutB, if_neg h1, cut_app h2]; rfl
theorem cut_join {c : UInt8} : ∀ {ws : List (List UInt8)}, ws ≠ [] → (∀ w ∈ ws, c ∉ w) → cutB c (Lib.join ws [c]) = ws
  | [], h, _ => absurd rfl h
  | [w], _, h => by rw [Lib.join_one, cut_none (h w (by simp))]
  | w :: x :: r, _, h => by
    have ih := cut_join (c := c) (ws := x :: r) (by simp) (fun y hy => h y (List.mem_cons_of_mem _ hy))
    have e : Lib.join (w :: x :: r) [c] = w ++ c :: Lib.join (x :: r) [c] := by
      rw [Lib.join_cons, joinTail_cons, Lib.join_cons]; simp
    rw [e, cut_app (h w (by simp)), ih]
theorem cut_mem {c : UInt8} : ∀ {l w : (List UInt8)}, w ∈ cutB c l → ∀ x ∈ w, x ∈ l
  | [], w, h, x, hx => by
    simp only [cutB, List.mem_singleton] at h
    subst h; exact hx
  | y :: l, w, h, x, hx => by
    unfold cutB at h
    split at h
    · rcases List.mem_cons.1 h with rfl | h
      · cases hx
      · exact List.mem_cons_of_mem _ (cut_mem h x hx)
    · rcases List.mem_cons.1 h with rfl | h
      · rcases List.mem_cons.1 hx with rfl | hx
        · simp
        · refine List.mem_cons_of_mem _ (cut_mem (c := c) (w := (cutB c l).headD []) ?_ x hx)
          rw [cut_split c l]; simp
      · refine List.mem_cons_of_mem _ (cut_mem (c := c) (w := w) ?_ x hx)
        exact List.mem_of_mem_tail h
theorem cut_len (c : UInt8) : ∀ l : (List UInt8), (cutB c l).length ≤ l.length + 1
  | [] => by simp [cutB]
  | x :: l => by
    have := cut_len c l
    have h2 := cutB_ne c l
    unfold cutB
    split
    · simp; omega
    · have : (cutB c l).length ≠ 0 := by simpa using h2
      simp; omega
/-- The library's cutting at one byte is this one. -/
theorem lib_index (c : UInt8) : ∀ l : (List UInt8), Lib.index l [c] = -1 ∧ c ∉ l ∨ ∃ i : Nat, Lib.index l [c] = i ∧ c ∉ l.take i ∧ l = l.take i ++ c :: l.drop (i + 1)
  | [] => .inl ⟨by simp [Lib.index], by simp⟩
  | x :: l => by
    by_cases h : x = c
    · subst h
      refine .inr ⟨0, ?_, by simp, by simp⟩
      rw [Lib.index]; simp [List.isPrefixOf]
    · have hp : ([c] : List UInt8).isPrefixOf (x :: l) = false := by simp [List.isPrefixOf, Ne.symm h]
      have hix : Lib.index (x :: l) [c] = if Lib.index l [c] == -1 then -1 else Lib.index l [c] + 1 := by rw [Lib.index, hp]; simp
      rcases lib_index c l with ⟨h1, h2⟩ | ⟨i, h1, h2, h3⟩
      · refine .inl ⟨by rw [hix, h1]; rfl, ?_⟩
        simp only [List.mem_cons, not_or]; exact ⟨fun e => h e.symm, h2⟩
      · refine .inr ⟨i + 1, ?_, ?_, ?_⟩
        · rw [hix, h1, if_neg (by simp only [beq_iff_eq]; omega)]; rfl
        · simp only [List.take_succ_cons, List.mem_cons, not_or]; exact ⟨fun e => h e.symm, h2⟩
        · simp only [List.take_succ_cons, List.drop_succ_cons, List.cons_append]; rw [← h3]
theorem lib_splitK (c : UInt8) : ∀ (n : Nat) (l : (List UInt8)), l.length ≤ n → ∀ k, Lib.count l [c] = k → Lib.splitK [c] 0 k l = cutB c l
  | n, l, hn, k, hk => by
    rcases lib_index c l with ⟨h1, h2⟩ | ⟨i, h1, h2, h3⟩
    · rw [Lib.count_miss h1] at hk
      subst hk
      rw [cut_none h2]; rfl
    · have hk2 := Lib.count_hit (s := l) (sub := [c]) (by simp) h1
      match k, n with
      | 0, _ => omega
      | k + 1, 0 =>
        have : l = [] := by simpa using hn
        subst this; simp at h3
      | k + 1, n + 1 =>
        have hl : (l.drop (i + 1)).length ≤ n := by
          have : l.length ≠ 0 := by intro e; rw [List.length_eq_zero_iff.1 e] at h3; simp at h3
          rw [List.length_drop]; omega
        have ih := lib_splitK c n (l.drop (i + 1)) hl k (by
          have : i + ([c] : (List UInt8)).length = i + 1 := rfl
          rw [this] at hk2; omega)
        rw [Lib.splitK, if_neg (by rw [h1]; simp only [beq_iff_eq]; omega), h1, Int.toNat_natCast]
        have e2 : i + ([c] : (List UInt8)).length = i + 1 := rfl
        rw [e2, ih, Nat.add_zero]
        conv => rhs; rw [h3]
        rw [cut_app h2]
end Go.Proofs.YtakekeljndofcaaGreatDoor
