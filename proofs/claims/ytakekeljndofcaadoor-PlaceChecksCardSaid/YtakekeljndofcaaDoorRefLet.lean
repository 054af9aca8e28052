/- The reference's Letter: what a row has for a cell that is not empty. -/
import Derived.Test.YtakekeljndofcaaDoorRBox
import Derived.Test.YtakekeljndofcaaDoorConv
import Derived.Test.YtakekeljndofcaaDoorGood
set_option maxRecDepth 100000
namespace Go.Proofs.YtakekeljndofcaaDoor
open Go.ChangeShapes Go.WideShapes Go.ChangeAt Go.RowKit

theorem IsSl.at2 {α : Type} {q : World → Nat → Nat → α → Prop} {k : Nat} {W : World} {a : Option Addr} {n cap : Nat} {xs : List α} (h : IsSl q k W (.slice a n cap) xs) (hn : n = xs.length) {j : Nat} (hj : j < n) : ∃ g off x, a = some ⟨g, off, none⟩ ∧ xs[j]? = some x ∧ q W g (off + j * k) x := by
  obtain ⟨a', cap', e, _, h2⟩ := h.shape hn
  simp only [Value.slice.injEq] at e
  obtain ⟨rfl, _, rfl⟩ := e
  exact h2 j hj
theorem size_one (c : UInt8) : (str [c]).size ≤ 1 := by rw [str_size]; simp
set_option maxHeartbeats 2000000 in
theorem letterRef_any (r : RulesD) (vp vs ve : Value) (c : Int) (w : World) (hr : IsRules w r vp vs ve) (h6 : r.pieces.length ≤ 6) (h0 : 1 ≤ c) (h1 : c ≤ 2 * r.pieces.length) (hcap : ∀ x ∈ r.pieces, 65 ≤ x.letter ∧ x.letter ≤ 90) :
    Calls Tryd.prog 23 #[RulesV r vp vs ve, .int .i64 c] w fun e w' => e = .returned (.string (str [cellB r.pieces c])) ∧ Below w.heap.size w w' := by
  obtain ⟨d, hd⟩ := Int.eq_ofNat_of_zero_le (show 0 ≤ c - 1 by omega)
  obtain rfl : c = (d : Int) + 1 := by omega
  obtain ⟨n, hn⟩ : ∃ n, n = r.pieces.length := ⟨_, rfl⟩
  obtain ⟨ap, cp, rfl, hcp, -⟩ := hr.1.shape hn
  obtain ⟨g, off, x, rfl, hx, u, c0, -⟩ := hr.1.at2 hn (j := d / 2) (by omega)
  have hd12 : d < 2 * n := by omega
  have hn6 : n ≤ 6 := by omega
  obtain ⟨k0, k1⟩ := hcap x (List.mem_of_getElem? hx)
  have HX : Hid _ := Lib.hid hx
  have hb := (Below.refl w.heap.size w).alloc (Nat.le_refl _) (.cells #[.string r.name, .int .i64 r.width, .int .i64 r.height, .slice (some ⟨g, off, none⟩) n cp, vs, .bool r.falls, .bool r.keeps, ve, .int .i64 r.blocked, .int .i64 r.quiet, .int .i64 r.rep] 26)
  have c1 := cell_keeps hb (Nat.le_refl _) c0
  have hc1 := @conv_one x.letter (by omega) (by omega)
  have hc2 := @conv_one (x.letter + 32) (by omega) (by omega)
  unfold RulesV
  clear hcap hr hx h0 h1 hd h6 hn c0 hb
  go_enter Tryd.func23, Tryd.ntmps23
  go_wp2_with fail
  · rename_i hm
    go_ret
    refine ⟨?_, ((Below.refl _ _).alloc (Nat.le_refl _) _).alloc (by simp) _⟩
    have e1 : cellB r.pieces ((d : Int) + 1) = UInt8.ofNat (x.letter + 32).toNat := by
      have e2 : ((d : Int) + 1 - 1) / 2 = ((d / 2 : Nat) : Int) := by omega
      rw [cellB, if_neg (by omega), e2, Int.toNat_natCast, HX.out]
      simp only
      rw [if_neg (by have := beq_iff_eq.1 hm; omega)]
      have e3 : (x.letter + 32).toNat = x.letter.toNat + 32 := by omega
      rw [e3]
    rw [e1]; rfl
  · rename_i hm
    go_ret
    refine ⟨?_, ((Below.refl _ _).alloc (Nat.le_refl _) _).alloc (by simp) _⟩
    have e1 : cellB r.pieces ((d : Int) + 1) = UInt8.ofNat x.letter.toNat := by
      have e2 : ((d : Int) + 1 - 1) / 2 = ((d / 2 : Nat) : Int) := by omega
      rw [cellB, if_neg (by omega), e2, Int.toNat_natCast, HX.out]
      simp only
      rw [if_pos (by have := beq_eq_false_iff_ne.1 hm; omega)]
    rw [e1]; rfl
end Go.Proofs.YtakekeljndofcaaDoor
