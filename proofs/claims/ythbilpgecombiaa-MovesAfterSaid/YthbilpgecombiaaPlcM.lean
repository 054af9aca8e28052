/- The position in which the players are exchanged, as data: it is one of the exchanged rules, and twice exchanged it is the old one. -/
import Derived.Test.YthbilpgecombiaaPlc
import Derived.Test.YthbilpgecombiaaMirD
namespace Go.Proofs.Ythbilpgecombiaa
open Go.RowKit

def otherD (r : RulesD) (p : PlaceD) : PlaceD := ⟨mirL r.width.toNat r.height.toNat p.cells, p.h1, p.h0, 1 - p.turn, p.quiet⟩
/-- The rules whose cells at first are those of a position. -/
def asStart (r : RulesD) (p : PlaceD) : RulesD := { r with start := p.cells }
theorem asStart_E {r : RulesD} {p : PlaceD} (h : POkay r p) : rulesE (asStart r p) = 0 := by
  obtain ⟨k1, k2, k3, k4, k5, k6, k7⟩ := rulesE_ok h.e
  have hs : startE (asStart r p) = 0 := by
    unfold startE
    rw [if_neg (by show ¬ ((p.cells.length : Int) ≠ r.width * r.height); simpa using h.cl), if_pos]
    show p.cells.all (fun c => inB c 0 (2 * r.pieces.length)) = true
    exact all_inN.2 h.cs
  unfold rulesE
  rw [show (asStart r p).name = r.name from rfl, show (asStart r p).width = r.width from rfl, show (asStart r p).height = r.height from rfl, show (asStart r p).pieces = r.pieces from rfl, show endsE (asStart r p) = endsE r from rfl, show otherE (asStart r p) = otherE r from rfl, hs, k1, k2, k3, k4, k6, k7]
  rfl
theorem asStart_mir (r : RulesD) (p : PlaceD) : (mirD (asStart r p)).start = (otherD r p).cells := rfl
theorem mirL_in {W H : Nat} {m : Int} (hW : 0 < W) {st : List Int} (h : st.length = W * H) (hm : m % 2 = 0) (hc : ∀ c ∈ st, 0 ≤ c ∧ c ≤ m) : ∀ c ∈ mirL W H st, 0 ≤ c ∧ c ≤ m := by
  intro c hcm
  obtain ⟨i, hi⟩ := List.getElem?_of_mem hcm
  have hil : i < W * H := by have := (List.getElem?_eq_some_iff.1 hi).1; rwa [mirL, mirTo_length] at this
  have h1 := mirL_at hW st hil
  rw [hi] at h1
  have h2 : c = exch (st[mirSq W H i]?.getD 0) := h1
  have hl2 : mirSq W H i < st.length := by rw [h]; exact mir_lt hW hil
  rw [List.getElem?_eq_getElem hl2, Option.getD_some] at h2
  have h3 := hc _ (List.getElem_mem hl2)
  obtain ⟨n, hn⟩ : ∃ n, m = 2 * n := ⟨m / 2, by omega⟩
  subst hn
  rw [h2]
  exact inB_iff.1 (exch_fits (inB_iff.2 h3))
theorem otherD_ok {r : RulesD} {p : PlaceD} (h : POkay r p) : POkay (mirD r) (otherD r p) := by
  obtain ⟨W, H, hw, hh, w1, w2, h1, h2, _, _⟩ := ok_nats h.e
  have hl : p.cells.length = W * H := by
    have := h.cl; rw [hw, hh, ← Int.natCast_mul] at this; exact_mod_cast this
  refine ⟨mirD_E h.e, ?_, h.l1, h.l0, ?_, h.n1, h.n0, ?_, ?_, h.q0, h.q1⟩
  · show ((mirL r.width.toNat r.height.toNat p.cells).length : Int) = r.width * r.height
    rw [hw, hh, Int.toNat_natCast, Int.toNat_natCast, mirL, mirTo_length, Int.natCast_mul]
  · show ∀ c ∈ mirL r.width.toNat r.height.toNat p.cells, 0 ≤ c ∧ c ≤ 2 * (r.pieces.length : Int)
    rw [hw, hh, Int.toNat_natCast, Int.toNat_natCast]
    exact mirL_in w1 hl (by omega) h.cs
  · show 0 ≤ 1 - p.turn
    have := h.t1; omega
  · show 1 - p.turn ≤ 1
    have := h.t0; omega
theorem otherD_otherD {r : RulesD} {p : PlaceD} (h : POkay r p) : otherD (mirD r) (otherD r p) = p := by
  obtain ⟨W, H, hw, hh, w1, w2, h1, h2, _, _⟩ := ok_nats h.e
  have hl : p.cells.length = W * H := by
    have := h.cl; rw [hw, hh, ← Int.natCast_mul] at this; exact_mod_cast this
  have h3 : mirL r.width.toNat r.height.toNat (mirL r.width.toNat r.height.toNat p.cells) = p.cells := by
    rw [hw, hh, Int.toNat_natCast, Int.toNat_natCast]
    exact mirL_mirL w1 hl (fun c hc => (h.cs c hc).1)
  have h4 : 1 - (1 - p.turn) = p.turn := by omega
  show PlaceD.mk (mirL r.width.toNat r.height.toNat (mirL r.width.toNat r.height.toNat p.cells)) p.h0 p.h1 (1 - (1 - p.turn)) p.quiet = p
  rw [h3, h4]
end Go.Proofs.Ythbilpgecombiaa
