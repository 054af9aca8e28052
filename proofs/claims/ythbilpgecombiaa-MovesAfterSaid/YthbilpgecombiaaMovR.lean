/- moves.isSupported and moves.reached. -/
import Derived.Test.YthbilpgecombiaaMovS
import Derived.Test.YthbilpgecombiaaClones
set_option maxRecDepth 100000
namespace Go.Proofs.Ythbilpgecombiaa
open Go.ChangeShapes Go.WideShapes Go.ChangeAt Go.RowKit

theorem ints_open {W : World} {v : Value} {xs : List Int} (h : IsSl IntAt 1 W v xs) (hne : 1 ≤ xs.length) : ∃ g off cap, v = .slice (some ⟨g, off, none⟩) xs.length cap ∧ xs.length ≤ cap ∧ ∀ j, j < xs.length → W.cell? ⟨g, off + j, none⟩ = some (.int .i64 (xs[j]?.getD 0)) := by
  rcases h with ⟨rfl, _⟩ | ⟨g, off, cap, e1, e2, e3, e4, hc⟩
  · simp at hne
  · refine ⟨g, off, cap, e1, e3, fun j hj => ?_⟩
    have h := hc j _ (List.getElem?_eq_getElem hj)
    rw [IntAt, Nat.mul_one] at h
    rw [h, List.getElem?_eq_getElem hj]; rfl
/-- The boxes of rules and of a position that a call begins with. -/
theorem rp_boxes (w : World) (r : RulesD) (p : PlaceD) (vp vs ve vc v0 v1 : Value) : Below w.heap.size w ((w.alloc (.cells (RulesCells r vp vs ve) 26)).alloc (.cells (PlaceCells p vc v0 v1) 29)) ∧
    BoxR ((w.alloc (.cells (RulesCells r vp vs ve) 26)).alloc (.cells (PlaceCells p vc v0 v1) 29)) w.heap.size r vp vs ve ∧
    BoxP ((w.alloc (.cells (RulesCells r vp vs ve) 26)).alloc (.cells (PlaceCells p vc v0 v1) 29)) (w.heap.size + 1) p vc v0 v1 := by
  refine ⟨((Below.refl _ _).alloc (Nat.le_refl _) _).alloc (by simp) _, (boxR_new w r vp vs ve _).below ((Below.refl _ _).alloc (Nat.le_refl _) _) (Nat.le_refl _), ?_⟩
  have h := boxP_new (w.alloc (.cells (RulesCells r vp vs ve) 26)) p vc v0 v1 29
  rwa [World.size_alloc] at h
theorem supp_end (r : RulesD) (p : PlaceD) (t i : Int) (hi : i < 0) (hall : ∀ s : Int, i < s → s < t → s % r.width = t % r.width → cellI p s ≠ 0) : suppB r p t = true := by
  unfold suppB
  rw [List.all_eq_true]
  intro s hs
  rw [List.mem_range] at hs
  by_cases h1 : (s : Int) % r.width = t % r.width
  · have h2 := hall s (by omega) (by omega) h1
    simp [h1, h2]
  · simp [h1]
theorem supp_no (r : RulesD) (p : PlaceD) (t i : Int) (h0 : 0 ≤ i) (h1 : i < t) (h2 : i % r.width = t % r.width) (h3 : cellI p i = 0) : suppB r p t = false := by
  rw [Bool.eq_false_iff]
  intro h
  unfold suppB at h
  rw [List.all_eq_true] at h
  have h4 := h i.toNat (List.mem_range.2 (by omega))
  rw [Int.toNat_of_nonneg h0] at h4
  simp [h2, h3] at h4
theorem mod_gap {W s i : Int} (h1 : i < s) (h2 : s < i + W) : s % W ≠ i % W := by
  intro h
  have h3 : (s - i) % W = 0 := by rw [Int.sub_emod, h]; simp
  have h4 := Int.emod_eq_of_lt (a := s - i) (b := W) (by omega) (by omega)
  omega
set_option maxHeartbeats 4000000 in
theorem isSupported_any (r : RulesD) (p : PlaceD) (vp vs ve vc v0 v1 : Value) (t : Int) (w : World) (hp : PlaceIn w p vc v0 v1) (hk : POkay r p) (t0 : 0 ≤ t) (t1 : t < p.cells.length) :
    Calls Try.prog 82 #[RulesV r vp vs ve, PlaceV p vc v0 v1, .int .i64 t] w (BelPost (.bool (suppB r p t)) w) := by
  obtain ⟨_, hw, hh, _⟩ := rulesE_ok hk.e
  rw [inB_iff] at hw hh
  obtain ⟨hw1, hw2⟩ := hw
  have hcl := cells_len hk
  obtain ⟨g, off, cc, rfl, hcc, hcell⟩ := ints_open hp.c hcl.1
  obtain ⟨m, hm⟩ : ∃ m, m = p.cells.length := ⟨_, rfl⟩
  rw [← hm] at t1 hcc hcell hcl ⊢
  obtain ⟨hB, hY, hX⟩ := rp_boxes w r p vp vs ve (.slice (some ⟨g, off, none⟩) m cc) v0 v1
  have HB := Lib.hid hB
  have HC : Hid (∀ j, j < m → ((w.alloc (.cells (RulesCells r vp vs ve) 26)).alloc (.cells (PlaceCells p (.slice (some ⟨g, off, none⟩) m cc) v0 v1) 29)).cell? ⟨g, off + j, none⟩ = some (.int .i64 (cellI p (j : Int)))) := Lib.hid (fun j hj => by
    rw [cellI, Int.toNat_natCast]; exact cell_keeps hB (Nat.le_refl _) (hcell j hj))
  have HS := Lib.hid (supp_end r p t)
  have HN := Lib.hid (supp_no r p t)
  unfold RulesCells PlaceCells at HB HC hX hY
  unfold RulesV PlaceV PlaceCells
  have HX := Lib.hid hX
  have HY := Lib.hid hY
  obtain ⟨x0, x1, x2, x3, x4⟩ := hX
  obtain ⟨y0, y1, y2, y3, y4, y5, y6, y7, y8, y9, y10⟩ := hY
  clear hp hk hm hcell hB hh
  go_enter Try.func82, Try.ntmps82
  go_wp2
  clear x0 x1 x2 x3 x4 y0 y1 y2 y3 y4 y5 y6 y7 y8 y9 y10
  go_loopw [7] (fun v wr => ∃ i : Int, v = .int .i64 i ∧ -8 ≤ i ∧ i < t ∧ Hid (i % r.width = t % r.width) ∧ Hid (∀ s : Int, i < s → s < t → s % r.width = t % r.width → cellI p s ≠ 0) ∧ wr = ((w.alloc (.cells #[.string r.name, .int .i64 r.width, .int .i64 r.height, vp, vs, .bool r.falls, .bool r.keeps, ve, .int .i64 r.blocked, .int .i64 r.quiet, .int .i64 r.rep] 26)).alloc (.cells #[.slice (some ⟨g, off, none⟩) m cc, v0, v1, .int .i64 p.turn, .int .i64 p.quiet] 29))) (fun v _ => (intOf v + 9).toNat)
  case atStart =>
    refine ⟨t - r.width, rfl, by omega, by omega, Lib.hid (by rw [Int.sub_emod_right]), Lib.hid (fun s h1 h2 h3 => ?_), rfl⟩
    exact absurd h3.symm (mod_gap h2 (by omega))
  case round =>
    obtain ⟨i, rfl, hi0, hi1, hmod, hall, rfl⟩ := hrel
    obtain ⟨y0, y1, y2, y3, y4, y5, y6, y7, y8, y9, y10⟩ := HY.out
    obtain ⟨x0, x1, x2, x3, x4⟩ := HX.out
    by_cases hneg : i < 0
    · have K : Hid (true = suppB r p t) := Lib.hid (HS.out _ hneg hall.out).symm
      have hd : decide (i ≥ 0) = false := by simp; omega
      clear HC HS HN
      go_wp2
      go_ret
      exact ⟨ret_bool K.out, HB.out⟩
    · obtain ⟨j, rfl⟩ : ∃ j : Nat, i = (j : Int) := ⟨i.toNat, by omega⟩
      have hjm : j < m := by omega
      have hjc : j < cc := by omega
      have c0 := HC.out j hjm
      obtain ⟨c, hc⟩ : ∃ c, c = cellI p (j : Int) := ⟨_, rfl⟩
      rw [← hc] at c0
      by_cases hz : c = 0
      · have K : Hid (false = suppB r p t) := Lib.hid (HN.out _ (by omega) hi1 hmod.out (by rw [← hc]; exact hz)).symm
        have hz2 : (c == 0) = true := by simpa using hz
        clear HC HS HN hc hz
        go_wp2
        go_ret
        exact ⟨ret_bool K.out, HB.out⟩
      · have hz2 : (c == 0) = false := by simpa using hz
        have KM : Hid (((j : Int) - r.width) % r.width = t % r.width) := Lib.hid (by rw [Int.sub_emod_right]; exact hmod.out)
        have KA : Hid (∀ s : Int, (j : Int) - r.width < s → s < t → s % r.width = t % r.width → cellI p s ≠ 0) := Lib.hid (fun s h1 h2 h3 => by
          by_cases h4 : (j : Int) < s
          · exact hall.out s h4 h2 h3
          · by_cases h5 : s = (j : Int)
            · rw [h5, ← hc]; exact hz
            · exfalso
              have := mod_gap (W := r.width) (i := s) (s := (j : Int)) (by omega) (by omega)
              exact this (by rw [h3, hmod.out]))
        clear HC HS HN hc hz
        go_wp2
        go_roundw
        case rel => exact ⟨(j : Int) - r.width, by go_num, by omega, by omega, KM, KA, by first | rfl | trivial⟩
        case measure => simp [intOf]; omega

/-- Cells that a slice of one's own leads to. -/
theorem ints_of_owns {W : World} {B : Nat} {e : TypeId} {v : Value} {n : Nat} {xs : List Int} (h : W.ownsRow B e 1 v n (xs.map (Value.int .i64))) : IsSl IntAt 1 W v xs := by
  have hl : xs.length = n := by have := h.1; simpa using this
  rcases h.2 with ⟨rfl, rfl⟩ | ⟨g, cap, cur, rfl, _, _, hkc, hcm, _, _⟩
  · exact .inl ⟨List.eq_nil_of_length_eq_zero hl, none, 0, rfl⟩
  · by_cases e : xs = []
    · subst e
      obtain rfl : n = 0 := by simpa using hl.symm
      exact .inl ⟨rfl, _, _, rfl⟩
    · refine .inr ⟨g, 0, cap, by rw [hl], e, by omega, hcm, fun i x hx => ?_⟩
      have hi : i < n := by rw [← hl]; exact (List.getElem?_eq_some_iff.1 hx).1
      have h2 := h.cellAt i (by omega)
      rw [List.getElem?_map, hx] at h2
      rw [IntAt, Nat.zero_add, Nat.mul_one]; exact h2
def SlPost {α : Type} (q : World → Nat → Nat → α → Prop) (k : Nat) (xs : List α) (w : World) (e : Ending) (w' : World) : Prop := ∃ a n c, e = .returned (.slice a n c) ∧ IsSl q k w' (.slice a n c) xs ∧ (a = none → n = 0 ∧ c = 0) ∧ Below w.heap.size w w'
theorem owns_nil {W : World} {B : Nat} {e : TypeId} {k : Nat} {a : Option Addr} {n m c : Nat} {xs : List Value} (h : W.ownsRow B e k (.slice a n c) m xs) (ha : a = none) : n = 0 ∧ c = 0 := by
  rcases h.2 with ⟨h1, _⟩ | ⟨g, cap, cur, e1, _⟩
  · simp only [Value.slice.injEq] at h1; exact h1.2
  · simp only [Value.slice.injEq] at e1; rw [ha] at e1; cases e1.1
def iv (xs : List Int) : List Value := xs.map (Value.int .i64)
theorem iv_append (xs : List Int) (x : Int) : iv (xs ++ [x]) = iv xs ++ [.int .i64 x] := by simp [iv]
theorem reach_off {r : RulesD} {p : PlaceD} {dx dy take x y : Int} {m : Nat} (h : onB r (x + dx) (y + dy) = false) : reach r p dx dy take m x y = [] := by
  cases m with
  | zero => rfl
  | succ m => rw [reach, if_neg (by simp [h])]
theorem reach_on {r : RulesD} {p : PlaceD} {dx dy take x y X Y T : Int} {m : Nat} (hX : x + dx = X) (hY : y + dy = Y) (hT : Y * r.width + X = T) (h : onB r X Y = true) :
    reach r p dx dy take (m + 1) x y = (if canEndB take (cellI p T) p.turn = true then [T] else []) ++ (if cellI p T = 0 then reach r p dx dy take m X Y else []) := by
  rw [reach, hX, hY, hT, if_pos h]
end Go.Proofs.Ythbilpgecombiaa
