/- rules.checkPieces: the first error of all types of pieces. -/
import Derived.Test.YthbilpgecombiaaPieceR
set_option maxRecDepth 100000
namespace Go.Proofs.Ythbilpgecombiaa
open Go.ChangeShapes Go.WideShapes Go.ChangeAt Go.RowKit

theorem IsSl.part {α : Type} {q : World → Nat → Nat → α → Prop} {k : Nat} {W : World} {a : Option Addr} {n cap : Nat} {xs : List α} (h : IsSl q k W (.slice a n cap) xs) (m : Nat) (hm : m ≤ n) : IsSl q k W (.slice a m cap) (xs.take m) := by
  rcases h with ⟨rfl, a', cap', e⟩ | ⟨g, off, cap', e, h2, h3, h4, hc⟩
  · simp only [Value.slice.injEq] at e
    obtain ⟨_, e, _⟩ := e
    refine .inl ⟨by simp, a, cap, ?_⟩
    have : m = 0 := by omega
    rw [this]
  · simp only [Value.slice.injEq] at e
    obtain ⟨rfl, rfl, rfl⟩ := e
    by_cases h0 : m = 0
    · subst h0; exact .inl ⟨by simp, _, _, rfl⟩
    · refine .inr ⟨g, off, cap, by rw [List.length_take, Nat.min_eq_left hm], ?_, by rw [List.length_take]; omega, h4, fun i x hx => hc i x ?_⟩
      · intro e
        have : (xs.take m).length = 0 := by rw [e]; rfl
        rw [List.length_take] at this; omega
      · rw [List.getElem?_take] at hx
        split at hx
        · exact hx
        · cases hx
/-- Each list of ways has a length that an int can hold. -/
def WaysFit (ps : List PieceD) : Prop := ∀ x ∈ ps, x.ways.length ≤ 9223372036854775807
theorem piecesGo_step {ps : List PieceD} {k m : Nat} {x : PieceD} (hx : ps[k]? = some x) (h : pieceE x (ps.take k) ps.length = 0) : piecesGo ps k (m + 1) = piecesGo ps (k + 1) m := by
  rw [piecesGo, hx]; simp [h]
theorem piecesGo_stop {ps : List PieceD} {k m : Nat} {x : PieceD} (hx : ps[k]? = some x) (h : pieceE x (ps.take k) ps.length ≠ 0) : piecesGo ps k (m + 1) = pieceE x (ps.take k) ps.length := by
  rw [piecesGo, hx]; simp [h]
set_option maxHeartbeats 2000000 in
theorem checkPieces_any (ps : List PieceD) (v : Value) (w : World) (hv : IsSl PieceAt 4 w v ps) (hw : WaysFit ps) (hl : ps.length ≤ 9223372036854775807) :
    Calls Try.prog 51 #[v] w (BelPost (.int .i64 (piecesE ps)) w) := by
  obtain ⟨n, hn⟩ : ∃ n : Nat, n = ps.length := ⟨_, rfl⟩
  obtain ⟨a, cp, rfl, hcp, hcell⟩ := hv.shape hn
  by_cases h0 : n = 0
  · have K : Hid ((8 : Int) = piecesE ps) := Lib.hid (by simp [piecesE, ← hn, h0])
    subst h0
    clear hn hv hcell
    go_enter Try.func51, Try.ntmps51
    go_wp2_with fail
    go_ret
    exact ⟨ret_i64 K.out, Below.refl _ _⟩
  · have hne : ((n : Int) == 0) = false := by simp; omega
    by_cases h6 : 6 < n
    · have K : Hid ((2 : Int) = piecesE ps) := Lib.hid (by simp [piecesE, ← hn, h0, h6])
      rw [← hn] at hl
      clear hn hv hcell h0
      go_enter Try.func51, Try.ntmps51
      go_wp2_with fail
      go_ret
      exact ⟨ret_i64 K.out, Below.refl _ _⟩
    · have KP : Hid (piecesE ps = piecesGo ps 0 n) := Lib.hid (by simp [piecesE, ← hn, h0, h6])
      have HN : Hid _ := Lib.hid hn
      have HV : Hid _ := Lib.hid hv
      have HC : Hid _ := Lib.hid hcell
      have HW : Hid _ := Lib.hid hw
      clear hn hv hcell h0 hl hw
      go_enter Try.func51, Try.ntmps51
      go_wp2_with fail
      go_loopw [3, 4, 5, 14] (fun _ _ _ i wr => ∃ k : Nat, k ≤ n ∧ i = .int .i64 (k : Int) ∧ Hid (piecesE ps = piecesGo ps k (n - k)) ∧ Hid (Below w.heap.size w wr)) (fun _ _ _ i _ => n - (intOf i).toNat)
      case atStart => exact ⟨0, by omega, rfl, KP, Lib.hid (Below.refl _ _)⟩
      case round =>
        clear KP
        obtain ⟨k, hk, rfl, hgo, hbel⟩ := hrel
        by_cases hlt : k < n
        · obtain ⟨g, off, x, rfl, hx, hq⟩ := HC.out k hlt
          obtain ⟨u, c0, c1, c2, c3, hu⟩ := piece_keeps _ _ _ _ _ _ hbel.out (Nat.le_refl _) hq
          have HX : Hid _ := Lib.hid hx
          obtain ⟨m, hm⟩ : ∃ m : Nat, m = x.ways.length := ⟨_, rfl⟩
          obtain ⟨au, cu, rfl, _, _⟩ := hu.shape hm
          have HU : Hid _ := Lib.hid hu
          clear hq hx hu HC hm
          go_wp2_with fail
          have HCN := cells4_new wr (.int .u8 x.letter) (.int .i64 x.hand) (.int .i64 x.promote) (.slice au m cu) 61 _ (Below.refl _ _)
          have HBW : Hid (Below wr.heap.size wr (wr.alloc (.cells #[.int .u8 x.letter, .int .i64 x.hand, .int .i64 x.promote, .slice au m cu] 61))) := Lib.hid ((Below.refl _ _).alloc (Nat.le_refl _) _)
          generalize wr.alloc (.cells #[.int .u8 x.letter, .int .i64 x.hand, .int .i64 x.promote, .slice au m cu] 61) = W at HCN HBW ⊢
          obtain ⟨d0, d1, d2, d3⟩ := HCN
          have hkc : k ≤ cp := by omega
          go_still_tail 6, (by kernel_rfl)
          change wpList _ _ _ _ _ W.drew
          have HBD : Hid (Below w.heap.size w W.drew) := Lib.hid ((hbel.out.trans (HBW.out.mono hbel.out.size)).drew)
          have KE : Hid _ := Lib.hid (checkPiece_any x (.slice au m cu) (.slice (some ⟨g, off, none⟩) k cp) (ps.take k) n W.drew (HU.out.below way_keeps HBW.out.drew (Nat.le_refl _)) ((HV.out.below piece_keeps HBD.out (Nat.le_refl _)).part k (by omega)) (by rw [List.length_take]; omega) (HW.out x (List.mem_of_getElem? HX.out)))
          clear hkc
          go_wp2_with fail
          go_at_call 76; refine KE.out.mono ?_; rintro e w2 ⟨rfl, hb2⟩
          have HB : Hid (Below w.heap.size w w2) := Lib.hid (HBD.out.trans (hb2.mono HBD.out.size))
          clear hb2 KE
          by_cases hz : pieceE x (ps.take k) n = 0
          · have KG : Hid (piecesE ps = piecesGo ps (k + 1) (n - (k + 1))) := Lib.hid (by
              rw [hgo.out, show n - k = (n - (k + 1)) + 1 by omega, piecesGo_step HX.out (by rw [← HN.out]; exact hz)])
            rw [hz]
            clear hz
            go_wp2_with fail
            go_roundw
            case rel => exact ⟨k + 1, by omega, by go_num, KG, HB⟩
            case measure => simp [intOf]; omega
          · have KG : Hid (pieceE x (ps.take k) n = piecesE ps) := Lib.hid (by
              rw [hgo.out, show n - k = (n - (k + 1)) + 1 by omega, piecesGo_stop HX.out (by rw [← HN.out]; exact hz), ← HN.out])
            obtain ⟨c, hc⟩ : ∃ c : Int, c = pieceE x (ps.take k) n := ⟨_, rfl⟩
            rw [← hc] at hz KG ⊢
            have hne2 : (c != 0) = true := by simpa using hz
            clear hz hc
            go_wp2_with fail
            go_ret
            exact ⟨ret_i64 KG.out, HB.out⟩
        · have KG : Hid ((0 : Int) = piecesE ps) := Lib.hid (by rw [hgo.out, show n - k = 0 by omega]; rfl)
          go_wp2_with fail
          go_ret
          exact ⟨ret_i64 KG.out, hbel.out⟩
end Go.Proofs.Ythbilpgecombiaa
