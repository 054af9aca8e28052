/- What bits.Ray returns: its walk, and plain facts on rays. -/
import Derived.Test.YtffnnpjgfjkmjaaDoorMove
import Derived.Deep.LoopGhost
namespace Go.Proofs.YtffnnpjgfjkmjaaDoor
open Go.ChangeShapes Go.WideShapes Go.ChangeAt Go.RowKit

/-- The square in column x and row y; nothing outside the board. -/
def sq (x y : Int) : BitVec 64 := if inb x y then 1#64 <<< (x + 8 * y).toNat else 0#64
/-- The squares from (x, y) on, by steps, up to the first occupied one. -/
def rayP (dx dy : Int) (occ : BitVec 64) : Nat → Int → Int → BitVec 64
  | 0, _, _ => 0#64
  | n + 1, x, y => if inb x y then sq x y ||| (if has occ x y then 0#64 else rayP dx dy occ n (x + dx) (y + dy)) else 0#64
def rayV (s : Nat) (dx dy : Int) (occ : BitVec 64) : BitVec 64 := rayP dx dy occ 7 ((s % 8 : Nat) + dx) ((s / 8 : Nat) + dy)

theorem has_sq (x y u v : Int) : has (sq x y) u v = (inb u v && decide (u = x ∧ v = y)) := by
  unfold has sq
  cases hu : inb u v
  · rfl
  · rw [inb_iff] at hu
    cases hx : inb x y
    · have : ¬ (u = x ∧ v = y) := by
        rintro ⟨rfl, rfl⟩
        rw [inb_iff.2 hu] at hx; cases hx
      simp [this]
    · rw [inb_iff] at hx
      simp only [if_true, Bool.true_and, BitVec.getLsbD_shiftLeft, BitVec.getLsbD_one]
      by_cases e : u = x ∧ v = y
      · obtain ⟨rfl, rfl⟩ := e
        simp; omega
      · have : (x + 8 * y).toNat ≠ (u + 8 * v).toNat := by omega
        simp [e]; omega
theorem sq_off {x y : Int} (h : inb x y = false) : sq x y = 0#64 := by simp [sq, h]
theorem sq_on {x y : Int} (h : inb x y = true) : sq x y ≠ 0#64 := by
  intro e
  have h2 := has_sq x y x y
  rw [e, has_zero, h] at h2; simp at h2
theorem shift_sq (x y dx dy : Int) (h : inb x y = true) : shiftV (sq x y) dx dy = sq (x + dx) (y + dy) := by
  apply ext_has
  intro u v
  rw [has_shift, has_sq, has_sq]
  cases hu : inb u v
  · rfl
  · by_cases e : u - dx = x ∧ v - dy = y
    · rw [e.1, e.2, h]; simp; omega
    · have : ¬ (u = x + dx ∧ v = y + dy) := by omega
      simp [e, this]
theorem and_sq_yes {x y : Int} {occ : BitVec 64} (h : has occ x y = true) : sq x y &&& occ ≠ 0#64 := by
  intro e
  have h2 := has_and (sq x y) occ x y
  rw [e, has_zero, has_sq, h, inb_iff.2 (has_inb h)] at h2; simp at h2
theorem and_sq_no {x y : Int} {occ : BitVec 64} (h : has occ x y = false) : sq x y &&& occ = 0#64 := by
  apply ext_has
  intro u v
  rw [has_and, has_sq, has_zero]
  by_cases e : u = x ∧ v = y
  · rw [e.1, e.2, h]; simp
  · simp [e]
theorem sq_nat (s : Nat) (hs : s < 64) : sq ((s % 8 : Nat) : Int) ((s / 8 : Nat) : Int) = 1#64 <<< s := by
  rw [sq, inb_iff.2 (by omega)]; simp only [if_true]; congr 1; omega
theorem rayP_off (dx dy : Int) (occ : BitVec 64) (n : Nat) (x y : Int) (h : inb x y = false) : rayP dx dy occ n x y = 0#64 := by
  cases n <;> simp [rayP, h]
theorem rayP_stop (dx dy : Int) (occ : BitVec 64) (n : Nat) (x y : Int) (h : has occ x y = true) : rayP dx dy occ (n + 1) x y = sq x y := by
  rw [rayP, inb_iff.2 (has_inb h), h]; simp
theorem rayP_go (dx dy : Int) (occ : BitVec 64) (n : Nat) (x y : Int) (h : inb x y = true) (h2 : has occ x y = false) : rayP dx dy occ (n + 1) x y = sq x y ||| rayP dx dy occ n (x + dx) (y + dy) := by
  rw [rayP, h, h2]; simp

/-- How far k steps lead. -/
def along (s : Nat) (dx dy : Int) (k : Nat) : BitVec 64 := sq ((s % 8 : Nat) + k * dx) ((s / 8 : Nat) + k * dy)
def alongIn (s : Nat) (dx dy : Int) (k : Nat) : Bool := inb ((s % 8 : Nat) + k * dx) ((s / 8 : Nat) + k * dy)
def alongHas (s : Nat) (dx dy : Int) (occ : BitVec 64) (k : Nat) : Bool := has occ ((s % 8 : Nat) + k * dx) ((s / 8 : Nat) + k * dy)
/-- What of the ray is still to come, at step k. -/
def rest (s : Nat) (dx dy : Int) (occ : BitVec 64) (k : Nat) : BitVec 64 := rayP dx dy occ (8 - k) ((s % 8 : Nat) + k * dx) ((s / 8 : Nat) + k * dy)

theorem cases3 {d : Int} (h0 : -1 ≤ d) (h1 : d ≤ 1) : d = -1 ∨ d = 0 ∨ d = 1 := by omega
theorem along_near (s : Nat) (hs : s < 64) (dx dy : Int) (a0 : -1 ≤ dx) (a1 : dx ≤ 1) (b0 : -1 ≤ dy) (b1 : dy ≤ 1) (hz : ¬ (dx = 0 ∧ dy = 0)) (k : Nat) (h : alongIn s dx dy k = true) : k ≤ 7 := by
  rw [alongIn, inb_iff] at h
  rcases cases3 a0 a1 with rfl | rfl | rfl <;> rcases cases3 b0 b1 with rfl | rfl | rfl <;> omega
theorem mul_next (k : Nat) (d : Int) : ((k : Nat) : Int) * d + d = ((k + 1 : Nat) : Int) * d := by
  rw [show ((k + 1 : Nat) : Int) = (k : Int) + 1 by omega, Int.add_mul, Int.one_mul]
theorem along_next (s : Nat) (dx dy : Int) (k : Nat) (h : alongIn s dx dy k = true) : shiftV (along s dx dy k) dx dy = along s dx dy (k + 1) := by
  rw [along, shift_sq _ _ _ _ h, along, Int.add_assoc, Int.add_assoc, mul_next, mul_next]
theorem along_first (s : Nat) (hs : s < 64) (dx dy : Int) : shiftV (bitW s) dx dy = along s dx dy 1 := by
  rw [bitW, ← sq_nat s hs, shift_sq _ _ _ _ (inb_iff.2 (by omega)), along]; simp
theorem rest_first (s : Nat) (dx dy : Int) (occ : BitVec 64) : 0#64 ||| rest s dx dy occ 1 = rayV s dx dy occ := by
  rw [rest, rayV]; simp
theorem rest_off (s : Nat) (dx dy : Int) (occ : BitVec 64) (k : Nat) (h : alongIn s dx dy k = false) : rest s dx dy occ k = 0#64 := rayP_off _ _ _ _ _ _ h
theorem rest_stop (s : Nat) (dx dy : Int) (occ : BitVec 64) (k : Nat) (hk : k ≤ 7) (h : alongHas s dx dy occ k = true) : rest s dx dy occ k = along s dx dy k := by
  rw [rest, show 8 - k = (7 - k) + 1 by omega, rayP_stop _ _ _ _ _ _ h, along]
theorem rest_go (s : Nat) (dx dy : Int) (occ : BitVec 64) (k : Nat) (hk : k ≤ 7) (h : alongIn s dx dy k = true) (h2 : alongHas s dx dy occ k = false) : rest s dx dy occ k = along s dx dy k ||| rest s dx dy occ (k + 1) := by
  rw [rest, show 8 - k = (7 - k) + 1 by omega, rayP_go _ _ _ _ _ _ h h2, along, rest, Int.add_assoc, Int.add_assoc, mul_next, mul_next, show 8 - (k + 1) = 7 - k by omega]

/-! ### Facts on rays -/
theorem rayP_mono (dx dy : Int) (o p : BitVec 64) (n : Nat) (x y : Int) : rayP dx dy (o ||| p) n x y &&& ~~~(rayP dx dy o n x y) = 0#64 := by
  induction n generalizing x y with
  | zero => simp [rayP]
  | succ n ih =>
    cases hi : inb x y
    · rw [rayP_off _ _ _ _ _ _ hi]; exact BitVec.zero_and
    · have h2 := has_or o p x y
      cases h : has (o ||| p) x y
      · rw [h] at h2
        have ho : has o x y = false := (by decide : ∀ A B : Bool, false = (A || B) → A = false) _ _ h2
        rw [rayP_go _ _ _ _ _ _ hi h, rayP_go _ _ _ _ _ _ hi ho]
        apply ext_has; intro u v
        have h3 : has _ u v = has 0#64 u v := congrArg (fun b => has b u v) (ih (x + dx) (y + dy))
        rw [has_zero, has_and, has_not] at h3
        rw [has_zero, has_and, has_not, has_or, has_or]
        exact (by decide : ∀ S A I B : Bool, (A && (I && !B)) = false → ((S || A) && (I && !(S || B))) = false) _ _ _ _ h3
      · rw [rayP_stop _ _ _ _ _ _ h]
        cases ho : has o x y
        · rw [rayP_go _ _ _ _ _ _ hi ho]
          apply ext_has; intro u v
          rw [has_zero, has_and, has_not, has_or]
          exact (by decide : ∀ S I B : Bool, (S && (I && !(S || B))) = false) _ _ _
        · rw [rayP_stop _ _ _ _ _ _ ho]
          apply ext_has; intro u v
          rw [has_zero, has_and, has_not]
          exact (by decide : ∀ S I : Bool, (S && (I && !S)) = false) _ _
theorem rayP_and (dx dy : Int) (o : BitVec 64) (n : Nat) (x y : Int) : ∃ u v, rayP dx dy o n x y &&& o = sq u v := by
  induction n generalizing x y with
  | zero => exact ⟨-1, 0, by rw [sq_off (inb_no (by omega)), rayP]; exact BitVec.zero_and⟩
  | succ n ih =>
    cases hi : inb x y
    · exact ⟨-1, 0, by rw [rayP_off _ _ _ _ _ _ hi, sq_off (inb_no (by omega))]; exact BitVec.zero_and⟩
    · cases h : has o x y
      · obtain ⟨u, v, e⟩ := ih (x + dx) (y + dy)
        refine ⟨u, v, ?_⟩
        rw [rayP_go _ _ _ _ _ _ hi h, ← e]
        have h0 := and_sq_no h
        apply ext_has; intro a b
        have h1 : has _ a b = has 0#64 a b := congrArg (fun c => has c a b) h0
        rw [has_zero, has_and] at h1
        rw [has_and, has_and, has_or]
        exact (by decide : ∀ S O R : Bool, (S && O) = false → ((S || R) && O) = (R && O)) _ _ _ h1
      · refine ⟨x, y, ?_⟩
        rw [rayP_stop _ _ _ _ _ _ h]
        apply ext_has; intro a b
        rw [has_and]
        have h1 := has_sq x y a b
        by_cases e : a = x ∧ b = y
        · rw [e.1, e.2, h]; simp
        · rw [h1]; simp [e]
theorem rayP_zero (dx dy : Int) (o : BitVec 64) (n : Nat) (x y : Int) : rayP dx dy o (n + 1) x y = 0#64 ↔ inb x y = false := by
  constructor
  · intro h
    cases hi : inb x y
    · rfl
    · exfalso
      apply sq_on hi
      have h1 : rayP dx dy o (n + 1) x y = sq x y ||| (if has o x y then 0#64 else rayP dx dy o n (x + dx) (y + dy)) := by rw [rayP, hi]; simp
      rw [h1] at h
      apply ext_has; intro u v
      have h2 : has _ u v = has 0#64 u v := congrArg (fun c => has c u v) h
      rw [has_or, has_zero] at h2
      rw [has_zero]
      exact (by decide : ∀ S R : Bool, (S || R) = false → S = false) _ _ h2
  · exact rayP_off _ _ _ _ _ _
theorem cnt_bit : ∀ s : Fin 64, cnt (1#64 <<< s.val) = 1 := by decide +kernel
theorem cnt_sq (u v : Int) : cnt (sq u v) ≤ 1 := by
  unfold sq
  cases h : inb u v
  · simp [cnt_zero]
  · rw [inb_iff] at h
    have := cnt_bit ⟨(u + 8 * v).toNat, by omega⟩
    simp only at this
    simp [this]

/-! ### The walk -/
theorem isSquare_yes (x : Int) (w : World) (h0 : 0 ≤ x) (h1 : x < 64) :
    Calls Tryd.prog 20 #[.int .i64 x] w fun e w' => e = .returned (.bool true) ∧ w' = w :=
  (isSquare_any x w).mono fun _ _ h => ⟨by rw [h.1, decide_eq_true h0, decide_eq_true h1]; rfl, h.2⟩
theorem isSquare_no (x : Int) (w : World) (h : ¬ (0 ≤ x ∧ x < 64)) :
    Calls Tryd.prog 20 #[.int .i64 x] w fun e w' => e = .returned (.bool false) ∧ w' = w :=
  (isSquare_any x w).mono fun _ _ g => ⟨by rw [g.1, ← Bool.decide_and, decide_eq_false h], g.2⟩
theorem isStep_yes (x : Int) (w : World) (h0 : -1 ≤ x) (h1 : x ≤ 1) :
    Calls Tryd.prog 29 #[.int .i64 x] w fun e w' => e = .returned (.bool true) ∧ w' = w :=
  (isStep_any x w).mono fun _ _ h => ⟨by rw [h.1, decide_eq_true h0, decide_eq_true h1]; rfl, h.2⟩
theorem isStep_no (x : Int) (w : World) (h : ¬ (-1 ≤ x ∧ x ≤ 1)) :
    Calls Tryd.prog 29 #[.int .i64 x] w fun e w' => e = .returned (.bool false) ∧ w' = w :=
  (isStep_any x w).mono fun _ _ g => ⟨by rw [g.1, ← Bool.decide_and, decide_eq_false h], g.2⟩
theorem int_ne_zero {b : BitVec 64} (h : b ≠ 0#64) : ((b.toNat : Int) == 0) = false ∧ ((b.toNat : Int) != 0) = true := by
  have : b.toNat ≠ 0 := fun e => h (BitVec.eq_of_toNat_eq (by simpa using e))
  constructor <;> simp [this]
theorem int_zero {b : BitVec 64} (h : b = 0#64) : ((b.toNat : Int) == 0) = true ∧ ((b.toNat : Int) != 0) = false := by
  subst h; exact ⟨rfl, rfl⟩
theorem ret2_u64 {a b c : Int} (h : a = b) : Ending.returned (.tuple #[.int .u64 a, .int .i64 c]) = .returned (.tuple #[.int .u64 b, .int .i64 c]) := by rw [h]
/-- What the loop of Ray keeps: the squares so far (g) and those to come make the ray. -/
def RayRel (s : Nat) (dx dy : Int) (occ : BitVec 64) (k : Nat) (g : BitVec 64) : Prop := g ||| rest s dx dy occ k = rayV s dx dy occ
set_option maxHeartbeats 1000000 in
theorem ray_ok (s : Nat) (dx dy : Int) (occ : BitVec 64) (w : World) (hs : s < 64) (a0 : -1 ≤ dx) (a1 : dx ≤ 1) (b0 : -1 ≤ dy) (b1 : dy ≤ 1) (hz : ((dx == 0) = false) ∨ ((dx == 0) = true ∧ (dy == 0) = false)) :
    Calls Tryd.prog 26 #[.int .i64 (s : Int), .int .i64 dx, .int .i64 dy, .int .u64 (occ.toNat : Int)] w fun e w' => e = .returned (.tuple #[.int .u64 ((rayV s dx dy occ).toNat : Int), .int .i64 0]) ∧ w' = w := by
  have HZ : Hid (¬ (dx = 0 ∧ dy = 0)) := Lib.hid (by
    rintro ⟨rfl, rfl⟩
    rcases hz with h | ⟨_, h⟩ <;> cases h)
  have HF : Hid (shiftV (bitW s) dx dy = along s dx dy 1) := Lib.hid (along_first s hs dx dy)
  have H1 : Hid (RayRel s dx dy occ 1 0#64) := Lib.hid (rest_first s dx dy occ)
  rcases hz with hz | ⟨hz, hz2⟩
  all_goals
    go_enter Tryd.func26, Tryd.ntmps26
    go_wp2_with (first
      | (go_at_call 20; refine (isSquare_yes (s : Int) _ (by omega) (by omega)).mono ?_; rintro e w' ⟨rfl, rfl⟩)
      | (go_at_call 29; refine (isStep_yes _ _ (by omega) (by omega)).mono ?_; rintro e w' ⟨rfl, rfl⟩)
      | (go_at_call 21; refine (single_any s _ hs).mono ?_; rintro e w' ⟨rfl, rfl⟩)
      | (go_at_call 15; refine (shift_any _ _ _ _).mono ?_; rintro e w' ⟨rfl, rfl⟩))
    go_loopg [10, 11] 8 (fun m r a wr => ∃ (k : Nat) (g : BitVec 64), 1 ≤ k ∧ k + m = 9 ∧ r = .int .u64 (g.toNat : Int) ∧ a = .int .u64 ((along s dx dy k).toNat : Int) ∧ RayRel s dx dy occ k g ∧ wr = w')
    case atStart => exact ⟨1, 0#64, by omega, by omega, rfl, by rw [HF.out], H1.out, rfl⟩
    case round =>
      obtain ⟨k, g, hk1, hk8, rfl, rfl, hr, rfl⟩ := hrel
      clear HF H1
      have hor : Hid (bits BinOp.or IntKind.u64 (g.toNat : Int) ((along s dx dy k).toNat : Int) = ((g ||| along s dx dy k).toNat : Int)) := Lib.hid (b_or _ _)
      have hand := b_and (along s dx dy k) occ
      cases hin : alongIn s dx dy k
      · have e0 : along s dx dy k = 0#64 := sq_off hin
        have h0 := (int_zero e0).2
        clear e0
        have hr' : Hid (g = rayV s dx dy occ) := Lib.hid (by have h := hr; rw [RayRel, rest_off _ _ _ _ _ hin] at h; simpa using h)
        clear hin hand hor hr hz
        go_wp2
        go_ret2
        exact ⟨ret2_u64 (by rw [hr'.out]), rfl⟩
      · have h7 := along_near s hs dx dy a0 a1 b0 b1 HZ.out k hin
        have e0 : along s dx dy k ≠ 0#64 := sq_on hin
        have h0 := (int_ne_zero e0).2
        clear e0
        cases hh : alongHas s dx dy occ k
        · have h1 : (bits BinOp.and IntKind.u64 ((along s dx dy k).toNat : Int) (occ.toNat : Int) != 0) = false := by
            rw [hand]; exact (int_zero (and_sq_no hh)).2
          have hr' : Hid (RayRel s dx dy occ (k + 1) (g ||| along s dx dy k)) := Lib.hid (by
            have h := hr; rw [RayRel, rest_go _ _ _ _ _ h7 hin hh] at h; rw [RayRel, ← h, BitVec.or_assoc])
          have hn : Hid (shiftV (along s dx dy k) dx dy = along s dx dy (k + 1)) := Lib.hid (along_next _ _ _ _ hin)
          clear hin hand hr hz hh
          go_wp2_with (go_at_call 15; refine (shift_any _ _ _ _).mono ?_; rintro e w' ⟨rfl, rfl⟩)
          go_roundg (gk - 1)
          case measure => omega
          case rel => exact ⟨k + 1, g ||| along s dx dy k, by omega, by omega, by rw [hor.out], by rw [hn.out], hr'.out, rfl⟩
        · have h1 : (bits BinOp.and IntKind.u64 ((along s dx dy k).toNat : Int) (occ.toNat : Int) != 0) = true := by
            rw [hand]; exact (int_ne_zero (and_sq_yes hh)).2
          have hr' : Hid (g ||| along s dx dy k = rayV s dx dy occ) := Lib.hid (by have h := hr; rwa [RayRel, rest_stop _ _ _ _ _ h7 hh] at h)
          clear hin hand hr hz hh
          go_wp2
          go_ret2
          exact ⟨ret2_u64 (by rw [hor.out, hr'.out]), rfl⟩
theorem ray_range (s dx dy : Int) (occ : BitVec 64) (w : World) (hs : ¬ (0 ≤ s ∧ s < 64)) :
    Calls Tryd.prog 26 #[.int .i64 s, .int .i64 dx, .int .i64 dy, .int .u64 (occ.toNat : Int)] w fun e w' => e = .returned (.tuple #[.int .u64 0, .int .i64 4]) ∧ w' = w := by
  go_enter Tryd.func26, Tryd.ntmps26
  go_wp2_with (go_at_call 20; refine (isSquare_no s _ hs).mono ?_; rintro e w' ⟨rfl, rfl⟩)
  go_ret2
  exact ⟨rfl, rfl⟩
theorem ray_arg (s : Nat) (dx dy : Int) (occ : BitVec 64) (w : World) (hs : s < 64) (h : ¬ (-1 ≤ dx ∧ dx ≤ 1) ∨ ¬ (-1 ≤ dy ∧ dy ≤ 1) ∨ (dx = 0 ∧ dy = 0)) :
    Calls Tryd.prog 26 #[.int .i64 (s : Int), .int .i64 dx, .int .i64 dy, .int .u64 (occ.toNat : Int)] w fun e w' => e = .returned (.tuple #[.int .u64 0, .int .i64 1]) ∧ w' = w := by
  by_cases hx : -1 ≤ dx ∧ dx ≤ 1
  · obtain ⟨hx0, hx1⟩ := hx
    by_cases hy : -1 ≤ dy ∧ dy ≤ 1
    · obtain ⟨hy0, hy1⟩ := hy
      obtain ⟨rfl, rfl⟩ : dx = 0 ∧ dy = 0 := by omega
      clear h hx0 hx1 hy0 hy1
      go_enter Tryd.func26, Tryd.ntmps26
      go_wp2_with (first
        | (go_at_call 20; refine (isSquare_yes (s : Int) _ (by omega) (by omega)).mono ?_; rintro e w' ⟨rfl, rfl⟩)
        | (go_at_call 29; refine (isStep_yes _ _ (by omega) (by omega)).mono ?_; rintro e w' ⟨rfl, rfl⟩))
      go_ret2
      exact ⟨rfl, rfl⟩
    · clear h
      go_enter Tryd.func26, Tryd.ntmps26
      go_wp2_with fail
      go_at_call 20; refine (isSquare_yes (s : Int) _ (by omega) (by omega)).mono ?_; rintro e w' ⟨rfl, rfl⟩
      go_wp2_with fail
      go_at_call 29; refine (isStep_yes _ _ hx0 hx1).mono ?_; rintro e w' ⟨rfl, rfl⟩
      go_wp2_with fail
      go_at_call 29; refine (isStep_no _ _ hy).mono ?_; rintro e w' ⟨rfl, rfl⟩
      go_wp2_with fail
      go_ret2
      exact ⟨rfl, rfl⟩
  · clear h
    go_enter Tryd.func26, Tryd.ntmps26
    go_wp2_with (first
      | (go_at_call 20; refine (isSquare_yes (s : Int) _ (by omega) (by omega)).mono ?_; rintro e w' ⟨rfl, rfl⟩)
      | (go_at_call 29; refine (isStep_no _ _ hx).mono ?_; rintro e w' ⟨rfl, rfl⟩))
    go_ret2
    exact ⟨rfl, rfl⟩
/-- The law's own first test: sets are moved. -/
theorem rayV_64 : rayV 0 1 0 4#64 = 6#64 := by decide +kernel
theorem shiftV_128 : shiftV 128#64 1 0 = 0#64 := by decide +kernel
theorem shiftV_1 : shiftV 1#64 1 1 = 512#64 := by decide +kernel
theorem cnt_513 : cnt 513#64 = 2 := by decide +kernel
theorem ray_064 (w : World) : Calls Tryd.prog 26 #[.int .i64 0, .int .i64 1, .int .i64 0, .int .u64 4] w fun e w' => e = .returned (.tuple #[.int .u64 6, .int .i64 0]) ∧ w' = w :=
  (ray_ok 0 1 0 4#64 w (by omega) (by omega) (by omega) (by omega) (by omega) (.inl rfl)).mono fun _ _ h => ⟨by rw [h.1, rayV_64]; rfl, h.2⟩
theorem shift_128 (w : World) : Calls Tryd.prog 15 #[.int .u64 128, .int .i64 1, .int .i64 0] w fun e w' => e = .returned (.int .u64 0) ∧ w' = w :=
  (shift_any 128#64 1 0 w).mono fun _ _ h => ⟨by rw [h.1, shiftV_128]; rfl, h.2⟩
theorem shift_1 (w : World) : Calls Tryd.prog 15 #[.int .u64 1, .int .i64 1, .int .i64 1] w fun e w' => e = .returned (.int .u64 512) ∧ w' = w :=
  (shift_any 1#64 1 1 w).mono fun _ _ h => ⟨by rw [h.1, shiftV_1]; rfl, h.2⟩
theorem count_513 (w : World) : Calls Tryd.prog 6 #[.int .u64 513] w fun e w' => e = .returned (.int .i64 2) ∧ w' = w :=
  (count_any 513#64 w).mono fun _ _ h => ⟨by rw [h.1, cnt_513]; rfl, h.2⟩
theorem shifts_any (w : World) : Calls Tryd.prog 13 #[] w fun e w' => e = .returned (.bool true) ∧ w' = w := by
  go_enter Tryd.func13, Tryd.ntmps13
  go_wp2_with fail
  go_at_call 26; refine (ray_064 _).mono ?_; rintro e w' ⟨rfl, rfl⟩
  go_wp2_with fail
  go_at_call 15; refine (shift_128 _).mono ?_; rintro e w' ⟨rfl, rfl⟩
  go_wp2_with fail
  go_at_call 15; refine (shift_1 _).mono ?_; rintro e w' ⟨rfl, rfl⟩
  go_wp2_with fail
  go_ret
  exact ⟨rfl, rfl⟩
end Go.Proofs.YtffnnpjgfjkmjaaDoor
