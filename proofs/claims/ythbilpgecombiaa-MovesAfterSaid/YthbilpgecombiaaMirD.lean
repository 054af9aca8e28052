/- Rules in which both players are exchanged, as data: what they are, and that twice exchanged they are the old ones. -/
import Derived.Test.YthbilpgecombiaaCloneR
import Derived.Test.YthbilpgecombiaaOkR
namespace Go.Proofs.Ythbilpgecombiaa
open Go.ChangeShapes Go.WideShapes Go.ChangeAt Go.RowKit

def exch (c : Int) : Int := if c = 0 then 0 else if c % 2 = 1 then c + 1 else c - 1
def mirSq (W H k : Nat) : Nat := k % W + (H - 1 - k / W) * W
/-- The cells after an exchange, of which those that come from a square below k are there, and the old ones else. -/
def mirTo (W H : Nat) (st : List Int) (k : Nat) : List Int := (List.range (W * H)).map fun p => if mirSq W H p < k then exch (st[mirSq W H p]?.getD 0) else st[p]?.getD 0
def mirL (W H : Nat) (st : List Int) : List Int := mirTo W H st (W * H)
def mirD (r : RulesD) : RulesD := { r with start := mirL r.width.toNat r.height.toNat r.start }
theorem exch_fits {c n : Int} (h : inB c 0 (2 * n) = true) : inB (exch c) 0 (2 * n) = true := by
  rw [inB_iff] at h ⊢
  unfold exch
  split
  · omega
  · split <;> omega
theorem exch_exch {c : Int} (h : 0 ≤ c) : exch (exch c) = c := by
  unfold exch
  by_cases h1 : c = 0
  · simp [h1]
  · rw [if_neg h1]
    by_cases h2 : c % 2 = 1
    · rw [if_pos h2, if_neg (by omega), if_neg (by omega)]; omega
    · rw [if_neg h2, if_neg (by omega), if_pos (by omega)]; omega
theorem mir_mod {W H : Nat} (k : Nat) : mirSq W H k % W = k % W := by
  rw [mirSq, Nat.add_mul_mod_self_right, Nat.mod_mod]
theorem mir_div {W H : Nat} (hW : 0 < W) (k : Nat) : mirSq W H k / W = H - 1 - k / W := by
  rw [mirSq, Nat.add_mul_div_right _ _ hW, Nat.div_eq_of_lt (Nat.mod_lt _ hW), Nat.zero_add]
theorem row_lt {W H k : Nat} (hk : k < W * H) : k / W < H := Nat.div_lt_of_lt_mul hk
theorem mir_lt {W H k : Nat} (hW : 0 < W) (hk : k < W * H) : mirSq W H k < W * H := by
  have h1 := row_lt hk
  have h2 := Nat.mod_lt k hW
  rw [mirSq, Nat.mul_comm W H]
  generalize k / W = y at h1 ⊢
  have h3 : (H - 1 - y + 1) * W ≤ H * W := Nat.mul_le_mul_right W (by omega)
  rw [Nat.add_mul, Nat.one_mul] at h3
  omega
theorem mir_mir {W H k : Nat} (hW : 0 < W) (hk : k < W * H) : mirSq W H (mirSq W H k) = k := by
  have h1 := row_lt hk
  have h2 : H - 1 - (H - 1 - k / W) = k / W := by
    generalize k / W = y at h1 ⊢
    omega
  rw [mirSq, mir_mod, mir_div hW, h2, Nat.mul_comm]
  exact Nat.mod_add_div k W
theorem mirTo_length (W H : Nat) (st : List Int) (k : Nat) : (mirTo W H st k).length = W * H := by simp [mirTo]
theorem mirTo_zero {W H : Nat} {st : List Int} (h : st.length = W * H) : mirTo W H st 0 = st := by
  apply List.ext_getElem
  · simp [mirTo, h]
  · intro i h1 h2; simp [mirTo, h2]
theorem mirTo_set {W H : Nat} (hW : 0 < W) {st : List Int} {k : Nat} (hk : k < W * H) :
    ((mirTo W H st k).map (Value.int .i64)).set (mirSq W H k) (.int .i64 (exch (st[k]?.getD 0))) = (mirTo W H st (k + 1)).map (Value.int .i64) := by
  apply List.ext_getElem
  · simp [mirTo]
  · intro p h1 h2
    have hp : p < W * H := by simpa [mirTo] using h2
    rw [List.getElem_set]
    by_cases e : mirSq W H k = p
    · subst e
      rw [if_pos rfl]
      simp [mirTo, mir_mir hW hk]
    · rw [if_neg e]
      have h3 : mirSq W H p ≠ k := fun h => e (by rw [← h]; exact mir_mir hW hp)
      simp only [mirTo, List.getElem_map, List.getElem_range]
      by_cases h4 : mirSq W H p < k
      · rw [if_pos h4, if_pos (by omega)]
      · rw [if_neg h4, if_neg (by omega)]
theorem mirL_at {W H : Nat} (hW : 0 < W) (st : List Int) {p : Nat} (hp : p < W * H) : (mirL W H st)[p]?.getD 0 = exch (st[mirSq W H p]?.getD 0) := by
  have h := mir_lt hW hp
  simp [mirL, mirTo, hp, h]
theorem mirL_mirL {W H : Nat} (hW : 0 < W) {st : List Int} (h : st.length = W * H) (hc : ∀ c ∈ st, 0 ≤ c) : mirL W H (mirL W H st) = st := by
  apply List.ext_getElem?
  intro p
  by_cases hp : p < W * H
  · have h1 := mirL_at hW (mirL W H st) hp
    rw [mirL_at hW st (mir_lt hW hp), mir_mir hW hp, exch_exch (by
      have hl : p < st.length := by omega
      rw [List.getElem?_eq_getElem hl]
      exact hc _ (List.getElem_mem hl))] at h1
    have hl : p < (mirL W H (mirL W H st)).length := by rw [mirL, mirTo_length]; exact hp
    have hl2 : p < st.length := by omega
    rw [List.getElem?_eq_getElem hl, List.getElem?_eq_getElem hl2] at h1 ⊢
    rw [show (mirL W H (mirL W H st))[p] = st[p] from h1]
  · rw [List.getElem?_eq_none (by rw [mirL, mirTo_length]; omega), List.getElem?_eq_none (by omega)]
/-- What rules that stand are. -/
theorem ok_nats {r : RulesD} (hz : rulesE r = 0) : ∃ W H : Nat, r.width = W ∧ r.height = H ∧ 1 ≤ W ∧ W ≤ 8 ∧ 1 ≤ H ∧ H ≤ 8 ∧ r.start.length = W * H ∧ (∀ c ∈ r.start, inB c 0 (2 * r.pieces.length) = true) := by
  obtain ⟨_, k2, k3, _, k5, _, _⟩ := rulesE_ok hz
  obtain ⟨h1, h2⟩ := startE_ok k5
  rw [inB_iff] at k2 k3
  refine ⟨r.width.toNat, r.height.toNat, by omega, by omega, by omega, by omega, by omega, by omega, ?_, fun c hc => List.all_eq_true.1 h2 c hc⟩
  have : ((r.start.length : Nat) : Int) = ((r.width.toNat * r.height.toNat : Nat) : Int) := by
    rw [h1, Int.natCast_mul, Int.toNat_of_nonneg (by omega), Int.toNat_of_nonneg (by omega)]
  exact_mod_cast this
theorem mirD_E {r : RulesD} (hz : rulesE r = 0) : rulesE (mirD r) = 0 := by
  obtain ⟨k1, k2, k3, k4, k5, k6, k7⟩ := rulesE_ok hz
  obtain ⟨W, H, hw, hh, w1, w2, h1, h2, hl, hc⟩ := ok_nats hz
  have hs : startE (mirD r) = 0 := by
    unfold startE
    rw [if_neg]
    · rw [if_pos]
      rw [List.all_eq_true]
      intro c hm
      obtain ⟨p, hp⟩ := List.getElem?_of_mem hm
      have hp1 := (List.getElem?_eq_some_iff.1 hp).1
      have hp2 : p < W * H := by rw [mirD, hw, hh] at hp1; simpa [mirL, mirTo] using hp1
      have h3 := mirL_at (W := W) (H := H) w1 r.start hp2
      have hp3 : (mirL W H r.start)[p]? = some c := by rw [mirD, hw, hh] at hp; simpa using hp
      rw [hp3] at h3
      have h4 : c = exch (r.start[mirSq W H p]?.getD 0) := h3
      have hl2 : mirSq W H p < r.start.length := by rw [hl]; exact mir_lt w1 hp2
      rw [List.getElem?_eq_getElem hl2] at h4
      rw [h4]
      exact exch_fits (hc _ (List.getElem_mem hl2))
    · show ¬ (((mirL r.width.toNat r.height.toNat r.start).length : Int) ≠ r.width * r.height)
      rw [hw, hh, mirL, mirTo_length]
      simp
  unfold rulesE
  rw [show (mirD r).name = r.name from rfl, show (mirD r).width = r.width from rfl, show (mirD r).height = r.height from rfl, show (mirD r).pieces = r.pieces from rfl, show endsE (mirD r) = endsE r from rfl, show otherE (mirD r) = otherE r from rfl, hs, k1, k2, k3, k4, k6, k7]
  rfl
theorem mirD_mirD {r : RulesD} (hz : rulesE r = 0) : mirD (mirD r) = r := by
  obtain ⟨W, H, hw, hh, w1, w2, h1, h2, hl, hc⟩ := ok_nats hz
  have : mirL r.width.toNat r.height.toNat (mirL r.width.toNat r.height.toNat r.start) = r.start := by
    rw [hw, hh, Int.toNat_natCast, Int.toNat_natCast]
    exact mirL_mirL w1 hl (fun c hm => (inB_iff.1 (hc c hm)).1)
  show { r with start := mirL r.width.toNat r.height.toNat (mirL r.width.toNat r.height.toNat r.start) } = r
  rw [this]
theorem piecesGo_all {ps : List PieceD} : ∀ (m k : Nat), piecesGo ps k m = 0 → ∀ i x, k ≤ i → i < k + m → ps[i]? = some x → pieceE x (ps.take i) ps.length = 0
  | 0, k, _, i, x, h1, h2, _ => by omega
  | m + 1, k, h, i, x, h1, h2, hx => by
    by_cases hk : k < ps.length
    · have hxk : ps[k]? = some ps[k] := List.getElem?_eq_getElem hk
      by_cases hz : pieceE ps[k] (ps.take k) ps.length = 0
      · rw [piecesGo_step hxk hz] at h
        by_cases hik : i = k
        · subst hik
          rw [hxk] at hx
          obtain rfl := Option.some.inj hx
          exact hz
        · exact piecesGo_all m (k + 1) h i x (by omega) (by omega) hx
      · rw [piecesGo_stop hxk hz] at h
        exact absurd h hz
    · have := (List.getElem?_eq_some_iff.1 hx).1; omega
theorem piece_ok {r : RulesD} (hz : rulesE r = 0) {i : Nat} {x : PieceD} (hx : r.pieces[i]? = some x) : pieceE x (r.pieces.take i) r.pieces.length = 0 := by
  obtain ⟨_, _, _, k4, _, _, _⟩ := rulesE_ok hz
  obtain ⟨h1, h2⟩ := piecesE_ok k4
  unfold piecesE at k4
  rw [if_neg (fun e => h1 (List.eq_nil_of_length_eq_zero e)), if_neg (by omega)] at k4
  exact piecesGo_all _ 0 k4 i x (Nat.zero_le _) (by have := (List.getElem?_eq_some_iff.1 hx).1; omega) hx
theorem ways_ok {x : PieceD} {es : List PieceD} {n : Nat} (h : pieceE x es n = 0) : x.ways.length ≤ 16 := by
  unfold pieceE at h
  by_cases h1 : x.ways.length ≤ 16
  · exact h1
  · exfalso
    split at h
    · cases h
    · split at h
      · cases h
      · split at h
        · cases h
        · rw [if_pos (by omega)] at h; cases h
theorem fits_ok {r : RulesD} (hz : rulesE r = 0) : Fits r := by
  obtain ⟨_, _, _, k4, _, k6, _⟩ := rulesE_ok hz
  obtain ⟨h1, h2⟩ := piecesE_ok k4
  obtain ⟨W, H, _, _, w1, w2, e1, e2, hl, _⟩ := ok_nats hz
  have hwh : W * H ≤ 8 * 8 := Nat.mul_le_mul w2 e2
  have hwp : 0 < W * H := Nat.mul_pos (by omega) (by omega)
  refine ⟨⟨List.length_pos_iff.2 h1, by omega⟩, ⟨by omega, by omega⟩, ?_, fun x hx => ?_⟩
  · unfold endsE at k6
    split at k6
    · cases k6
    · omega
  · obtain ⟨i, hi⟩ := List.getElem?_of_mem hx
    have := ways_ok (piece_ok hz hi)
    omega
set_option maxHeartbeats 1000000 in
theorem exchanged_any (c : Int) (w : World) (h0 : 0 ≤ c) (h1 : c ≤ 1000) : Calls Try.prog 69 #[.int .i64 c] w fun e w' => e = .returned (.int .i64 (exch c)) ∧ w' = w := by
  by_cases hc : c = 0
  · subst hc
    go_enter Try.func69, Try.ntmps69
    go_wp2_with fail
    go_ret
    exact ⟨rfl, rfl⟩
  · have hc2 : (c == 0) = false := by simpa using hc
    by_cases h2 : c % 2 = 1
    · have K : Hid (c + 1 = exch c) := Lib.hid (by rw [exch, if_neg hc, if_pos h2])
      have h3 : (c % 2 == 1) = true := by simpa using h2
      clear hc h2
      go_enter Try.func69, Try.ntmps69
      go_wp2_with fail
      go_ret
      exact ⟨ret_i64 K.out, rfl⟩
    · have K : Hid (c - 1 = exch c) := Lib.hid (by rw [exch, if_neg hc, if_neg h2])
      have h3 : (c % 2 == 1) = false := by simpa using h2
      clear hc h2
      go_enter Try.func69, Try.ntmps69
      go_wp2_with fail
      go_ret
      exact ⟨ret_i64 K.out, rfl⟩
end Go.Proofs.Ythbilpgecombiaa
