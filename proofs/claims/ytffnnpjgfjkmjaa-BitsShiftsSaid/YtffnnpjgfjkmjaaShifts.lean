/- BitsShifts: the walk of the law. -/
import Derived.Test.YtffnnpjgfjkmjaaRay
import Derived.RowKit3
namespace Go.Proofs.Ytffnnpjgfjkmjaa
open Go.ChangeShapes Go.WideShapes Go.ChangeAt Go.RowKit

/-! ### The law's own way to move a set: square by square -/
def mayMove (b : BitVec 64) (dx dy : Int) (s : Nat) : Bool := b.getLsbD s && inb ((s % 8 : Nat) + dx) ((s / 8 : Nat) + dy)
def wantW (b : BitVec 64) (dx dy : Int) : Nat → BitVec 64
  | 0 => 0#64
  | k + 1 => if mayMove b dx dy k then wantW b dx dy k ||| sq ((k % 8 : Nat) + dx) ((k / 8 : Nat) + dy) else wantW b dx dy k
theorem has_wantW (b : BitVec 64) (dx dy : Int) (k : Nat) (hk : k ≤ 64) (x y : Int) :
    has (wantW b dx dy k) x y = (inb x y && has b (x - dx) (y - dy) && decide (x - dx + 8 * (y - dy) < k)) := by
  induction k with
  | zero =>
    rw [wantW, has_zero]
    cases h : has b (x - dx) (y - dy)
    · simp
    · have := has_inb h
      rw [decide_eq_false (by omega)]; simp
  | succ k ih =>
    have ih := ih (by omega)
    have hself := has_self b k (by omega)
    rw [wantW]
    cases hm : mayMove b dx dy k
    · simp only [Bool.false_eq_true, if_false]
      rw [ih]
      by_cases e : x - dx = ((k % 8 : Nat) : Int) ∧ y - dy = ((k / 8 : Nat) : Int)
      · rw [e.1, e.2, hself, show x = (k % 8 : Nat) + dx by omega, show y = (k / 8 : Nat) + dy by omega]
        rw [mayMove, Bool.and_comm] at hm
        rw [hm]; rfl
      · cases h : has b (x - dx) (y - dy)
        · simp
        · have := has_inb h
          have e2 : decide (x - dx + 8 * (y - dy) < ((k + 1 : Nat) : Int)) = decide (x - dx + 8 * (y - dy) < (k : Int)) := by
            apply decide_eq_decide.2; omega
          rw [e2]
    · simp only [if_true]
      rw [has_or, ih, has_sq]
      by_cases e : x - dx = ((k % 8 : Nat) : Int) ∧ y - dy = ((k / 8 : Nat) : Int)
      · have e3 : x = (k % 8 : Nat) + dx ∧ y = (k / 8 : Nat) + dy := by omega
        rw [mayMove, Bool.and_eq_true] at hm
        rw [decide_eq_true e3, e.1, e.2, hself, hm.1, decide_eq_true (by omega : ((k % 8 : Nat) : Int) + 8 * ((k / 8 : Nat) : Int) < ((k + 1 : Nat) : Int)), e3.1, e3.2, hm.2]
        simp
      · have e3 : ¬ (x = (k % 8 : Nat) + dx ∧ y = (k / 8 : Nat) + dy) := by omega
        rw [decide_eq_false e3]
        cases h : has b (x - dx) (y - dy)
        · simp
        · have := has_inb h
          have e2 : decide (x - dx + 8 * (y - dy) < ((k + 1 : Nat) : Int)) = decide (x - dx + 8 * (y - dy) < (k : Int)) := by
            apply decide_eq_decide.2; omega
          rw [e2]; simp
theorem wantW_64 (b : BitVec 64) (dx dy : Int) : wantW b dx dy 64 = shiftV b dx dy := by
  apply ext_has; intro x y
  rw [has_wantW _ _ _ _ (by omega), has_shift]
  cases h : has b (x - dx) (y - dy)
  · simp
  · have := has_inb h
    rw [decide_eq_true (by omega)]; simp
theorem in_yes (x lo hi : Int) (w : World) (h0 : lo ≤ x) (h1 : x ≤ hi) :
    Calls Try.prog 12 #[.int .i64 x, .int .i64 lo, .int .i64 hi] w fun e w' => e = .returned (.bool true) ∧ w' = w :=
  (in_any x lo hi w).mono fun _ _ h => ⟨by rw [h.1, decide_eq_true h0, decide_eq_true h1]; rfl, h.2⟩
theorem in_no (x lo hi : Int) (w : World) (h : ¬ (lo ≤ x ∧ x ≤ hi)) :
    Calls Try.prog 12 #[.int .i64 x, .int .i64 lo, .int .i64 hi] w fun e w' => e = .returned (.bool false) ∧ w' = w :=
  (in_any x lo hi w).mono fun _ _ g => ⟨by rw [g.1, ← Bool.decide_and, decide_eq_false h], g.2⟩

theorem bit_yes (b : BitVec 64) (k : Nat) (h : b.getLsbD k = true) : (bits BinOp.and IntKind.u64 ((b.toNat : Int) / 2 ^ k) 1 == 1) = true := by
  have e : bits BinOp.and IntKind.u64 ((b.toNat : Int) / 2 ^ k) 1 = (((b >>> k) &&& 1#64).toNat : Int) := by rw [b_shr]; exact b_and _ 1#64
  have h2 : (b >>> k) &&& 1#64 = 1#64 := by
    apply BitVec.eq_of_getLsbD_eq
    intro i hi
    rw [BitVec.getLsbD_and, BitVec.getLsbD_ushiftRight, BitVec.getLsbD_one]
    by_cases e : i = 0
    · subst e; simp [h]
    · simp [e]
  rw [e, h2]; rfl
theorem bit_no (b : BitVec 64) (k : Nat) (h : b.getLsbD k = false) : (bits BinOp.and IntKind.u64 ((b.toNat : Int) / 2 ^ k) 1 == 1) = false := by
  have e : bits BinOp.and IntKind.u64 ((b.toNat : Int) / 2 ^ k) 1 = (((b >>> k) &&& 1#64).toNat : Int) := by rw [b_shr]; exact b_and _ 1#64
  have h2 : (b >>> k) &&& 1#64 = 0#64 := by
    apply BitVec.eq_of_getLsbD_eq
    intro i hi
    rw [BitVec.getLsbD_and, BitVec.getLsbD_ushiftRight, BitVec.getLsbD_one]
    by_cases e : i = 0
    · subst e; simp [h]
    · simp [e]
  rw [e, h2]; rfl
theorem bitW_sq (x y : Int) (h : inb x y = true) : IntKind.u64.wrap (2 ^ (x + 8 * y).toNat) = ((sq x y).toNat : Int) := by
  rw [bitW_int, sq, h]; rfl
theorem want_next (b : BitVec 64) (dx dy : Int) (k : Nat) (hm : mayMove b dx dy k = true) :
    bits BinOp.or IntKind.u64 ((wantW b dx dy k).toNat : Int) (IntKind.u64.wrap (2 ^ ((k : Int) + dx + 8 * dy).toNat)) = ((wantW b dx dy (k + 1)).toNat : Int) := by
  have hm2 := hm
  rw [mayMove, Bool.and_eq_true] at hm2
  rw [show (k : Int) + dx + 8 * dy = ((k % 8 : Nat) + dx) + 8 * ((k / 8 : Nat) + dy) by omega, bitW_sq _ _ hm2.2, b_or, wantW, hm]; rfl
theorem want_same (b : BitVec 64) (dx dy : Int) (k : Nat) (hm : mayMove b dx dy k = false) : wantW b dx dy (k + 1) = wantW b dx dy k := by
  rw [wantW, hm]; rfl

set_option maxRecDepth 100000 in
set_option maxHeartbeats 4000000 in
theorem shifts_walk (b : BitVec 64) (dx dy sqr : Int) (w : World) :
    Calls Try.prog 6 #[.int .u64 (b.toNat : Int), .int .i64 dx, .int .i64 dy, .int .i64 sqr] w fun e w' => e = .returned (.bool true) ∧ w' = w := by
  go_enter Try.func6, Try.ntmps6
  go_wp2_with fail
  go_at_call 9; refine (shift_128 _).mono ?_; rintro e w' ⟨rfl, rfl⟩
  go_wp2_with fail
  go_at_call 9; refine (shift_1 _).mono ?_; rintro e w' ⟨rfl, rfl⟩
  go_wp2_with fail
  go_at_call 10; refine (ray_064 _).mono ?_; rintro e w' ⟨rfl, rfl⟩
  go_wp2_with fail
  go_loop [11, 34] (fun r i => ∃ k : Nat, k ≤ 64 ∧ i = .int .i64 (k : Int) ∧ r = .int .u64 ((wantW b dx dy k).toNat : Int)) (fun _ i => 64 - (intOf i).toNat)
  case atStart => exact ⟨0, by omega, rfl, rfl⟩
  case round =>
    obtain ⟨k, hk, rfl, rfl⟩ := hrel
    by_cases hlt : k < 64
    · cases hb : b.getLsbD k
      · have hs : Hid (mayMove b dx dy k = false) := Lib.hid (by rw [mayMove, hb]; rfl)
        have hf := bit_no b k hb
        clear hb
        go_wp2_with fail
        go_round
        case rel => exact ⟨k + 1, by omega, by go_num, by rw [want_same _ _ _ _ hs.out]⟩
        case measure => simp [intOf]; omega
      · have hf := bit_yes b k hb
        have HB : Hid _ := Lib.hid hb
        clear hb
        by_cases hx : -8 ≤ dx ∧ dx ≤ 8
        · obtain ⟨hx0, hx1⟩ := hx
          by_cases hy : -8 ≤ dy ∧ dy ≤ 8
          · obtain ⟨hy0, hy1⟩ := hy
            by_cases hX : 0 ≤ (k : Int) % 8 + dx ∧ (k : Int) % 8 + dx ≤ 7
            · obtain ⟨hX0, hX1⟩ := hX
              by_cases hY : 0 ≤ (k : Int) / 8 + dy ∧ (k : Int) / 8 + dy ≤ 7
              · obtain ⟨hY0, hY1⟩ := hY
                have hn : Hid _ := Lib.hid (want_next b dx dy k (by rw [mayMove, HB.out, inb_iff.2 (by omega)]; rfl))
                go_wp2_with fail
                go_at_call 12; refine (in_yes dx (-8) 8 _ hx0 hx1).mono ?_; rintro e w' ⟨rfl, rfl⟩
                go_wp2_with fail
                go_at_call 12; refine (in_yes dy (-8) 8 _ hy0 hy1).mono ?_; rintro e w' ⟨rfl, rfl⟩
                go_wp2_with fail
                go_at_call 12; refine (in_yes ((k : Int) % 8 + dx) 0 7 _ hX0 hX1).mono ?_; rintro e w' ⟨rfl, rfl⟩
                go_wp2_with fail
                go_at_call 12; refine (in_yes ((k : Int) / 8 + dy) 0 7 _ hY0 hY1).mono ?_; rintro e w' ⟨rfl, rfl⟩
                go_wp2_with fail
                go_round
                case rel => exact ⟨k + 1, by omega, by go_num, by rw [← hn.out]⟩
                case measure => simp [intOf]; omega
              · have hs : Hid (mayMove b dx dy k = false) := Lib.hid (by rw [mayMove, inb_no (by omega), Bool.and_false])
                go_wp2_with fail
                go_at_call 12; refine (in_yes dx (-8) 8 _ hx0 hx1).mono ?_; rintro e w' ⟨rfl, rfl⟩
                go_wp2_with fail
                go_at_call 12; refine (in_yes dy (-8) 8 _ hy0 hy1).mono ?_; rintro e w' ⟨rfl, rfl⟩
                go_wp2_with fail
                go_at_call 12; refine (in_yes ((k : Int) % 8 + dx) 0 7 _ hX0 hX1).mono ?_; rintro e w' ⟨rfl, rfl⟩
                go_wp2_with fail
                go_at_call 12; refine (in_no ((k : Int) / 8 + dy) 0 7 _ hY).mono ?_; rintro e w' ⟨rfl, rfl⟩
                go_wp2_with fail
                go_round
                case rel => exact ⟨k + 1, by omega, by go_num, by rw [want_same _ _ _ _ hs.out]⟩
                case measure => simp [intOf]; omega
            · have hs : Hid (mayMove b dx dy k = false) := Lib.hid (by rw [mayMove, inb_no (by omega), Bool.and_false])
              go_wp2_with fail
              go_at_call 12; refine (in_yes dx (-8) 8 _ hx0 hx1).mono ?_; rintro e w' ⟨rfl, rfl⟩
              go_wp2_with fail
              go_at_call 12; refine (in_yes dy (-8) 8 _ hy0 hy1).mono ?_; rintro e w' ⟨rfl, rfl⟩
              go_wp2_with fail
              go_at_call 12; refine (in_no ((k : Int) % 8 + dx) 0 7 _ hX).mono ?_; rintro e w' ⟨rfl, rfl⟩
              go_wp2_with fail
              go_round
              case rel => exact ⟨k + 1, by omega, by go_num, by rw [want_same _ _ _ _ hs.out]⟩
              case measure => simp [intOf]; omega
          · have hs : Hid (mayMove b dx dy k = false) := Lib.hid (by rw [mayMove, inb_no (by omega), Bool.and_false])
            go_wp2_with fail
            go_at_call 12; refine (in_yes dx (-8) 8 _ hx0 hx1).mono ?_; rintro e w' ⟨rfl, rfl⟩
            go_wp2_with fail
            go_at_call 12; refine (in_no dy (-8) 8 _ hy).mono ?_; rintro e w' ⟨rfl, rfl⟩
            go_wp2_with fail
            go_round
            case rel => exact ⟨k + 1, by omega, by go_num, by rw [want_same _ _ _ _ hs.out]⟩
            case measure => simp [intOf]; omega
        · have hs : Hid (mayMove b dx dy k = false) := Lib.hid (by rw [mayMove, inb_no (by omega), Bool.and_false])
          go_wp2_with fail
          go_at_call 12; refine (in_no dx (-8) 8 _ hx).mono ?_; rintro e w' ⟨rfl, rfl⟩
          go_wp2_with fail
          go_round
          case rel => exact ⟨k + 1, by omega, by go_num, by rw [want_same _ _ _ _ hs.out]⟩
          case measure => simp [intOf]; omega
    · obtain rfl : k = 64 := by omega
      have hsw : (((shiftV b dx dy).toNat : Int) != ((wantW b dx dy 64).toNat : Int)) = false := by rw [wantW_64]; simp
      go_wp2_with fail
      go_at_call 9; refine (shift_any b dx dy _).mono ?_; rintro e w' ⟨rfl, rfl⟩
      go_wp2_with fail
      clear hsw hlt hk
      by_cases hs : 0 ≤ sqr ∧ sqr ≤ 63
      · obtain ⟨s, rfl⟩ : ∃ s : Nat, sqr = (s : Int) := ⟨sqr.toNat, by omega⟩
        obtain ⟨hs0, hs1⟩ := hs
        by_cases hx : -1 ≤ dx ∧ dx ≤ 1
        · obtain ⟨hx0, hx1⟩ := hx
          by_cases hy : -1 ≤ dy ∧ dy ≤ 1
          · obtain ⟨hy0, hy1⟩ := hy
            by_cases hz : dx = 0 ∧ dy = 0
            · obtain ⟨rfl, rfl⟩ := hz
              go_at_call 10; refine (ray_arg s 0 0 b _ (by omega) (by omega)).mono ?_; rintro e w' ⟨rfl, rfl⟩
              go_wp2_with fail
              go_at_call 12; refine (in_yes (s : Int) 0 63 _ hs0 hs1).mono ?_; rintro e w' ⟨rfl, rfl⟩
              go_wp2_with fail
              go_at_call 12; refine (in_yes 0 (-1) 1 _ hx0 hx1).mono ?_; rintro e w' ⟨rfl, rfl⟩
              go_wp2_with fail
              go_at_call 12; refine (in_yes 0 (-1) 1 _ hy0 hy1).mono ?_; rintro e w' ⟨rfl, rfl⟩
              go_wp2_with fail
              go_ret
              exact ⟨rfl, rfl⟩
            · have hz2 : ((dx == 0) = false) ∨ ((dx == 0) = true ∧ (dy == 0) = false) := by
                by_cases e : dx = 0
                · exact .inr ⟨by simp [e], by simp; omega⟩
                · exact .inl (by simp [e])
              have HZ : Hid _ := Lib.hid hz
              clear hz
              have H1 : Hid (RayRel s dx dy b 1 0#64) := Lib.hid (rest_first s dx dy b)
              go_at_call 10; refine (ray_ok s dx dy b _ (by omega) hx0 hx1 hy0 hy1 hz2).mono ?_; rintro e w' ⟨rfl, rfl⟩
              rcases hz2 with hz | ⟨hz, hz2⟩
              all_goals
                go_wp2_with fail
                go_at_call 12; refine (in_yes (s : Int) 0 63 _ hs0 hs1).mono ?_; rintro e w' ⟨rfl, rfl⟩
                go_wp2_with fail
                go_at_call 12; refine (in_yes dx (-1) 1 _ hx0 hx1).mono ?_; rintro e w' ⟨rfl, rfl⟩
                go_wp2_with fail
                go_at_call 12; refine (in_yes dy (-1) 1 _ hy0 hy1).mono ?_; rintro e w' ⟨rfl, rfl⟩
                go_wp2_with fail
                go_loopg [15, 16, 17] 8 (fun m r x y wr => ∃ (k : Nat) (g : BitVec 64) (X Y : Int), 1 ≤ k ∧ k + m = 9 ∧ r = .int .u64 (g.toNat : Int) ∧ x = .int .i64 X ∧ y = .int .i64 Y ∧ RayRel s dx dy b k g ∧ Hid (X = (s % 8 : Nat) + k * dx ∧ Y = (s / 8 : Nat) + k * dy) ∧ wr = w')
                case atStart => exact ⟨1, 0#64, _, _, by omega, by omega, rfl, rfl, rfl, H1.out, Lib.hid ⟨by omega, by omega⟩, rfl⟩
                case round =>
                  obtain ⟨k, g, X, Y, hk1, hk8, rfl, rfl, rfl, hr, HXY, rfl⟩ := hrel
                  clear H1
                  by_cases hX : 0 ≤ X ∧ X ≤ 7
                  · obtain ⟨hX0, hX1⟩ := hX
                    by_cases hY : 0 ≤ Y ∧ Y ≤ 7
                    · obtain ⟨hY0, hY1⟩ := hY
                      have hin : alongIn s dx dy k = true := by rw [alongIn, ← HXY.out.1, ← HXY.out.2]; exact inb_iff.2 (by omega)
                      have h7 := along_near s (by omega) dx dy hx0 hx1 hy0 hy1 HZ.out k hin
                      have hor : Hid (bits BinOp.or IntKind.u64 (g.toNat : Int) (IntKind.u64.wrap (2 ^ (X + 8 * Y).toNat)) = ((g ||| along s dx dy k).toNat : Int)) := Lib.hid (by
                        rw [bitW_sq X Y (inb_iff.2 (by omega)), b_or, along, ← HXY.out.1, ← HXY.out.2])
                      have hbit : alongHas s dx dy b k = b.getLsbD (X + 8 * Y).toNat := by rw [alongHas, ← HXY.out.1, ← HXY.out.2]; exact has_of (by omega)
                      cases hh : alongHas s dx dy b k
                      · have hr' : Hid (RayRel s dx dy b (k + 1) (g ||| along s dx dy k)) := Lib.hid (by
                          have h := hr; rw [RayRel, rest_go _ _ _ _ _ h7 hin hh] at h; rw [RayRel, ← h, BitVec.or_assoc])
                        have hf := bit_no b (X + 8 * Y).toNat (by rw [← hbit, hh])
                        clear hin hr hh hbit
                        go_wp2_with fail
                        go_at_call 12; refine (in_yes X 0 7 _ hX0 hX1).mono ?_; rintro e w' ⟨rfl, rfl⟩
                        go_wp2_with fail
                        go_at_call 12; refine (in_yes Y 0 7 _ hY0 hY1).mono ?_; rintro e w' ⟨rfl, rfl⟩
                        go_wp2_with fail
                        go_roundg (gk - 1)
                        case measure => omega
                        case rel => exact ⟨k + 1, g ||| along s dx dy k, X + dx, Y + dy, by omega, by omega, by rw [hor.out], rfl, rfl, hr'.out, Lib.hid ⟨by rw [HXY.out.1, Int.add_assoc, mul_next], by rw [HXY.out.2, Int.add_assoc, mul_next]⟩, rfl⟩
                      · have hr' : Hid (((rayV s dx dy b).toNat : Int) == bits BinOp.or IntKind.u64 (g.toNat : Int) (IntKind.u64.wrap (2 ^ (X + 8 * Y).toNat))) := Lib.hid (by
                          have h := hr; rw [RayRel, rest_stop _ _ _ _ _ h7 hh] at h; rw [hor.out, h]; simp)
                        have hf := bit_yes b (X + 8 * Y).toNat (by rw [← hbit, hh])
                        clear hin hr hh hbit hor
                        go_wp2_with fail
                        go_at_call 12; refine (in_yes X 0 7 _ hX0 hX1).mono ?_; rintro e w' ⟨rfl, rfl⟩
                        go_wp2_with fail
                        go_at_call 12; refine (in_yes Y 0 7 _ hY0 hY1).mono ?_; rintro e w' ⟨rfl, rfl⟩
                        go_wp2_with fail
                        go_ret
                        exact ⟨ret_bool hr'.out, rfl⟩
                    · have hr' : Hid ((((rayV s dx dy b).toNat : Int) == (g.toNat : Int)) = true) := Lib.hid (by
                        have h := hr; rw [RayRel, rest_off _ _ _ _ _ (by rw [alongIn, ← HXY.out.1, ← HXY.out.2]; exact inb_no (by omega))] at h; rw [← h]; simp)
                      clear hr
                      go_wp2_with fail
                      go_at_call 12; refine (in_yes X 0 7 _ hX0 hX1).mono ?_; rintro e w' ⟨rfl, rfl⟩
                      go_wp2_with fail
                      go_at_call 12; refine (in_no Y 0 7 _ hY).mono ?_; rintro e w' ⟨rfl, rfl⟩
                      go_wp2_with fail
                      go_ret
                      exact ⟨ret_bool hr'.out, rfl⟩
                  · have hr' : Hid ((((rayV s dx dy b).toNat : Int) == (g.toNat : Int)) = true) := Lib.hid (by
                      have h := hr; rw [RayRel, rest_off _ _ _ _ _ (by rw [alongIn, ← HXY.out.1, ← HXY.out.2]; exact inb_no (by omega))] at h; rw [← h]; simp)
                    clear hr
                    go_wp2_with fail
                    go_at_call 12; refine (in_no X 0 7 _ hX).mono ?_; rintro e w' ⟨rfl, rfl⟩
                    go_wp2_with fail
                    go_ret
                    exact ⟨ret_bool hr'.out, rfl⟩
          · go_at_call 10; refine (ray_arg s dx dy b _ (by omega) (.inr (.inl hy))).mono ?_; rintro e w' ⟨rfl, rfl⟩
            go_wp2_with fail
            go_at_call 12; refine (in_yes (s : Int) 0 63 _ hs0 hs1).mono ?_; rintro e w' ⟨rfl, rfl⟩
            go_wp2_with fail
            go_at_call 12; refine (in_yes dx (-1) 1 _ hx0 hx1).mono ?_; rintro e w' ⟨rfl, rfl⟩
            go_wp2_with fail
            go_at_call 12; refine (in_no dy (-1) 1 _ hy).mono ?_; rintro e w' ⟨rfl, rfl⟩
            go_wp2_with fail
            go_ret
            exact ⟨rfl, rfl⟩
        · go_at_call 10; refine (ray_arg s dx dy b _ (by omega) (.inl hx)).mono ?_; rintro e w' ⟨rfl, rfl⟩
          go_wp2_with fail
          go_at_call 12; refine (in_yes (s : Int) 0 63 _ hs0 hs1).mono ?_; rintro e w' ⟨rfl, rfl⟩
          go_wp2_with fail
          go_at_call 12; refine (in_no dx (-1) 1 _ hx).mono ?_; rintro e w' ⟨rfl, rfl⟩
          go_wp2_with fail
          go_ret
          exact ⟨rfl, rfl⟩
      · go_at_call 10; refine (ray_range sqr dx dy b _ (by omega)).mono ?_; rintro e w' ⟨rfl, rfl⟩
        go_wp2_with fail
        go_at_call 12; refine (in_no sqr 0 63 _ hs).mono ?_; rintro e w' ⟨rfl, rfl⟩
        go_wp2_with fail
        go_ret
        exact ⟨rfl, rfl⟩
theorem shifts_full (a0 a1 a2 a3 : Int) (w0 : (Lit.int .u64 a0).wf = true) (w : World) :
    Calls Try.prog 6 #[.int .u64 a0, .int .i64 a1, .int .i64 a2, .int .i64 a3] w fun e w' => e = .returned (.bool true) ∧ Grown w w' := by
  obtain ⟨b, rfl⟩ := word_of w0
  exact (shifts_walk b a1 a2 a3 w).mono fun e w' h => ⟨h.1, by rw [h.2]; exact Grown.refl _⟩
end Go.Proofs.Ytffnnpjgfjkmjaa
