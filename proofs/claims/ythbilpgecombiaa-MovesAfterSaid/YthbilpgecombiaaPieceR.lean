/- rules.checkPiece, checkPieces and what they call: the error of the types of pieces. -/
import Derived.Test.YthbilpgecombiaaIdx
import Derived.StillTailTactics
namespace Go.Proofs.Ythbilpgecombiaa
open Go.ChangeShapes Go.WideShapes Go.ChangeAt Go.RowKit

theorem all1Way_any (x : WayD) (b : Addr) (w : World) (hb : w.cell? b = some (.func (.func 93) #[] #[])) :
    Calls Try.prog 108 #[.agg #[.int .i64 x.dx, .int .i64 x.dy, .int .i64 x.most, .int .i64 x.take], .pointer (some b)] w (BelPost (.bool (!wayB x)) w) := by
  have hb2 : ∀ o, (w.alloc o).cell? b = some (.func (.func 93) #[] #[]) := fun o => cell_keeps ((Below.refl w.heap.size w).alloc (Nat.le_refl _) o) (Nat.le_refl _) hb
  clear hb
  go_enter Try.func108, Try.ntmps108
  go_wp2_with fail
  go_at_call 93; refine (isWay_any x _).mono ?_; rintro e w2 ⟨rfl, hb2⟩
  have HB : Hid (Below w.heap.size w w2) := Lib.hid (((Below.refl _ _).alloc (Nat.le_refl _) _).trans (hb2.mono (by simp)))
  clear hb2
  go_wp2_with fail
  go_ret
  exact ⟨rfl, HB.out⟩
theorem allWays_any (xs : List WayD) (v : Value) (w : World) (hv : IsSl WayAt 4 w v xs) (hl : xs.length ≤ 100) :
    Calls Try.prog 92 #[v, .func (.func 93) #[] #[]] w (BelPost (.bool (xs.all wayB)) w) := by
  have K : Hid ((!xs.any fun x => !wayB x) = xs.all wayB) := Lib.hid (by rw [List.all_eq_not_any_not])
  have HA : Hid (∀ W1, Below w.heap.size w W1 → IsSl WayAt 4 W1 v xs) := Lib.hid (fun W1 h => hv.below way_keeps h (Nat.le_refl _))
  clear hv
  go_enter Try.func92, Try.ntmps92
  go_wp2_with fail
  go_at_call 107
  refine (containsWays xs (fun x => !wayB x) v _ _ (HA.out _ ((Below.refl w.heap.size w).alloc (Nat.le_refl _) _)) hl (fun x W' _ hb => all1Way_any x _ W' (cell_keeps hb (Nat.le_refl _) (by simp)))).mono ?_
  rintro e w2 ⟨rfl, hb2⟩
  have HB : Hid (Below w.heap.size w w2) := Lib.hid (((Below.refl _ _).alloc (Nat.le_refl _) _).trans (hb2.mono (by simp)))
  clear hb2
  go_wp2_with fail
  go_ret
  exact ⟨ret_bool K.out, HB.out⟩
theorem letter_any (x : PieceD) (u : Value) (b : Addr) (l : Int) (w : World) (hb : w.cell? b = some (.int .u8 l)) :
    Calls Try.prog 91 #[.agg #[.int .u8 x.letter, .int .i64 x.hand, .int .i64 x.promote, u], .pointer (some b)] w (BelPost (.bool (decide (x.letter = l))) w) := by
  have hb2 : ∀ o, (w.alloc o).cell? b = some (.int .u8 l) := fun o => cell_keeps ((Below.refl w.heap.size w).alloc (Nat.le_refl _) o) (Nat.le_refl _) hb
  clear hb
  go_enter Try.func91, Try.ntmps91
  go_wp2_with fail
  go_ret
  exact ⟨rfl, (Below.refl _ _).alloc (Nat.le_refl _) _⟩

theorem bcell {W w1 : World} (hb : Below W.heap.size W w1) : (∀ b o, b < W.heap.size → w1.cell? ⟨b, o, none⟩ = W.cell? ⟨b, o, none⟩) ∧ (∀ b o, b < W.heap.size → w1.frozen? ⟨b, o, none⟩ = W.frozen? ⟨b, o, none⟩) :=
  ⟨fun b o h => hb.cell (p := ⟨b, o, none⟩) h, fun b o h => hb.frozen (p := ⟨b, o, none⟩) h⟩
/-- The cells of a new block, and what keeps them. -/
theorem cells4_new (w : World) (a b c d : Value) (t : TypeId) : ∀ W, Below (w.heap.size + 1) (w.alloc (.cells #[a, b, c, d] t)) W → W.cell? ⟨w.heap.size, 0, none⟩ = some a ∧ W.cell? ⟨w.heap.size, 1, none⟩ = some b ∧ W.cell? ⟨w.heap.size, 2, none⟩ = some c ∧ W.cell? ⟨w.heap.size, 3, none⟩ = some d := by
  intro W hb
  have h : ∀ o v, (w.alloc (.cells #[a, b, c, d] t)).cell? ⟨w.heap.size, o, none⟩ = some v → W.cell? ⟨w.heap.size, o, none⟩ = some v := fun o v h => cell_keeps hb (by simp) h
  refine ⟨h _ _ ?_, h _ _ ?_, h _ _ ?_, h _ _ ?_⟩ <;> (rw [World.cell?_alloc_at (hn := rfl)]; rfl)
set_option maxHeartbeats 2000000 in
theorem checkPiece_any (x : PieceD) (u ve : Value) (es : List PieceD) (n : Nat) (w : World) (hu : IsSl WayAt 4 w u x.ways) (he : IsSl PieceAt 4 w ve es) (hl : es.length ≤ 100) (hw : x.ways.length ≤ 9223372036854775807) :
    Calls Try.prog 76 #[.agg #[.int .u8 x.letter, .int .i64 x.hand, .int .i64 x.promote, u], ve, .int .i64 (n : Int)] w (BelPost (.int .i64 (pieceE x es n)) w) := by
  obtain ⟨m, hm⟩ : ∃ m : Nat, m = x.ways.length := ⟨_, rfl⟩
  obtain ⟨a, cp, rfl, _, _⟩ := hu.shape hm
  have HM : Hid _ := Lib.hid hm
  have HU : Hid (∀ W, Below w.heap.size w W → IsSl WayAt 4 W (.slice a m cp) x.ways) := Lib.hid (fun W h => hu.below way_keeps h (Nat.le_refl _))
  have HE : Hid (∀ W, Below w.heap.size w W → IsSl PieceAt 4 W ve es) := Lib.hid (fun W h => he.below piece_keeps h (Nat.le_refl _))
  rw [← hm] at hw
  clear hm hu he
  go_enter Try.func76, Try.ntmps76
  go_wp2_with fail
  go_at_call 74; refine (turned (isCapital_any _ _)).mono ?_; rintro e w' ⟨rfl, rfl⟩
  cases h1 : capB x.letter
  · have K : Hid ((6 : Int) = pieceE x es n) := Lib.hid (by simp [pieceE, h1])
    clear h1
    go_wp2_with fail
    go_ret
    exact ⟨ret_i64 K.out, (Below.refl _ _).alloc (Nat.le_refl _) _⟩
  · have K1 : Hid _ := Lib.hid h1
    clear h1
    go_wp2_with fail
    go_at_call 90
    refine (containsPieces es (fun y => decide (y.letter = x.letter)) ve _ _ (HE.out _ ((Below.refl w.heap.size w).alloc (Nat.le_refl _) _)) hl (fun y u W' _ hb => letter_any y u _ x.letter W' (cell_keeps hb (Nat.le_refl _) (by simp)))).mono ?_
    rintro e w2 ⟨rfl, hb2⟩
    simp only [World.size_alloc] at hb2
    have HC : Hid _ := Lib.hid (cells4_new w (.int .u8 x.letter) (.int .i64 x.hand) (.int .i64 x.promote) (.slice a m cp) 61 w2 hb2)
    have HB : Hid (Below w.heap.size w w2) := Lib.hid (((Below.refl _ _).alloc (Nat.le_refl _) _).trans (hb2.mono (by simp)))
    clear hb2
    cases h2 : es.any (fun y => decide (y.letter = x.letter))
    · have K2 : Hid _ := Lib.hid h2
      clear h2
      obtain ⟨c0, c1, c2, c3⟩ := HC.out
      cases h3 : (inB x.hand 0 64 && inB x.promote 0 n)
      · have K : Hid ((4 : Int) = pieceE x es n) := Lib.hid (by simp only [pieceE, K1.out, K2.out, h3]; rfl)
        have K3 : Hid _ := Lib.hid h3
        cases h4 : inB x.hand 0 64
        · have K4 : Hid _ := Lib.hid h4
          clear h3 h4
          go_wp2_with fail
          go_at_call 50; refine (turned (isWithin_any _ _ _ _)).mono ?_; rintro e w' ⟨rfl, rfl⟩
          rw [K4.out]
          go_wp2_with fail
          go_ret
          exact ⟨ret_i64 K.out, HB.out⟩
        · have K4 : Hid _ := Lib.hid h4
          have K5 : Hid (inB x.promote 0 n = false) := Lib.hid (by rw [h4] at h3; simpa using h3)
          clear h3 h4
          go_wp2_with fail
          go_at_call 50; refine (turned (isWithin_any _ _ _ _)).mono ?_; rintro e w' ⟨rfl, rfl⟩
          rw [K4.out]
          go_wp2_with fail
          go_at_call 50; refine (turned (isWithin_any _ _ _ _)).mono ?_; rintro e w' ⟨rfl, rfl⟩
          rw [K5.out]
          go_wp2_with fail
          go_ret
          exact ⟨ret_i64 K.out, HB.out⟩
      · have K3 : Hid _ := Lib.hid h3
        rw [Bool.and_eq_true] at h3
        have K4 : Hid _ := Lib.hid h3
        clear h3
        go_wp2_with fail
        go_at_call 50; refine (turned (isWithin_any _ _ _ _)).mono ?_; rintro e w' ⟨rfl, rfl⟩
        rw [K4.out.1]
        go_wp2_with fail
        go_at_call 50; refine (turned (isWithin_any _ _ _ _)).mono ?_; rintro e w' ⟨rfl, rfl⟩
        rw [K4.out.2]
        by_cases h5 : 16 < m
        · have K : Hid ((2 : Int) = pieceE x es n) := Lib.hid (by simp [pieceE, K1.out, K2.out, K3.out, ← HM.out, h5])
          go_wp2_with fail
          go_ret
          exact ⟨ret_i64 K.out, HB.out⟩
        · have K5 : Hid (¬ 16 < x.ways.length) := Lib.hid (by rw [← HM.out]; exact h5)
          go_wp2_with fail
          go_at_call 92
          refine (allWays_any x.ways _ _ (HU.out _ HB.out) (by have := K5.out; omega)).mono ?_
          rintro e w3 ⟨rfl, hb3⟩
          have HB3 : Hid (Below w.heap.size w w3) := Lib.hid (HB.out.trans (hb3.mono HB.out.size))
          clear hb3
          cases h6 : x.ways.all wayB
          · have K : Hid ((4 : Int) = pieceE x es n) := Lib.hid (by simp [pieceE, K1.out, K2.out, K3.out, K5.out, h6])
            clear h6
            go_wp2_with fail
            go_ret
            exact ⟨ret_i64 K.out, HB3.out⟩
          · have K : Hid ((0 : Int) = pieceE x es n) := Lib.hid (by simp [pieceE, K1.out, K2.out, K3.out, K5.out, h6])
            clear h6
            go_wp2_with fail
            go_ret
            exact ⟨ret_i64 K.out, HB3.out⟩
    · have K : Hid ((7 : Int) = pieceE x es n) := Lib.hid (by simp [pieceE, K1.out, h2])
      clear h2
      go_wp2_with fail
      go_ret
      exact ⟨ret_i64 K.out, HB.out⟩
end Go.Proofs.Ythbilpgecombiaa
