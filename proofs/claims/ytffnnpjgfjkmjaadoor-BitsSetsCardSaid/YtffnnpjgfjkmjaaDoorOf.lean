/- bits.Of and bits.First: what they return. -/
import Derived.Test.YtffnnpjgfjkmjaaDoorSame
namespace Go.Proofs.YtffnnpjgfjkmjaaDoor
open Go.RowKit Go.Shelf
attribute [local go_sem] Oper.semAt_some

/-- Of, square by square: the set so far, and the error. -/
def ofGo : List Int → BitVec 64 → BitVec 64 × Int
  | [], acc => (acc, 0)
  | x :: r, acc => if 0 ≤ x ∧ x < 64 then (if acc.getLsbD x.toNat then (0#64, 7) else ofGo r (acc ||| bitW x.toNat)) else (0#64, 4)
theorem and_bitW_no (a : BitVec 64) (s : Nat) (hs : s < 64) (h : a.getLsbD s = false) : a &&& bitW s = 0#64 := by
  apply BitVec.eq_of_getLsbD_eq
  intro t ht
  rw [BitVec.getLsbD_and, bitW_at _ _ hs]
  by_cases e : t = s
  · subst e; simp [h]
  · simp [e]
theorem and_bitW_yes (a : BitVec 64) (s : Nat) (hs : s < 64) (h : a.getLsbD s = true) : a &&& bitW s ≠ 0#64 := by
  intro e
  have h2 : (a &&& bitW s).getLsbD s = (0#64).getLsbD s := by rw [e]
  rw [BitVec.getLsbD_and, bitW_at _ _ hs, h] at h2; simp at h2

set_option maxHeartbeats 1000000 in
theorem of_any (zs : List Int) (v : Value) (w : World) (hv : Row w v (vals zs)) (hb : zs.length ≤ 140737488355328) :
    Calls Tryd.prog 9 #[v] w fun e w' => e = .returned (.tuple #[.int .u64 ((ofGo zs 0#64).1.toNat : Int), .int .i64 (ofGo zs 0#64).2]) ∧ w = w' := by
  obtain ⟨n, hn⟩ : ∃ n : Nat, n = zs.length := ⟨_, rfl⟩
  obtain ⟨a, cap, rfl, hcell⟩ : ∃ a cap, v = .slice a n cap ∧ ∀ k, k < n → ∃ g off, a = some ⟨g, off, none⟩ ∧ w.cell? ⟨g, off + k, none⟩ = some (.int .i64 (zs[k]?.getD 0)) := by
    rcases hv with ⟨e1, a1, cap1, rfl⟩ | ⟨g1, off1, cap1, rfl, n1, l1, m1, c1⟩
    · obtain rfl : zs = [] := by simpa [vals] using e1
      exact ⟨a1, cap1, by rw [hn]; rfl, fun k hk => by rw [hn] at hk; simp at hk⟩
    · exact ⟨_, _, by rw [vals_length, hn], fun k hk => ⟨g1, off1, rfl, c1 k _ (vals_at zs k (by omega))⟩⟩
  rw [← hn] at hb
  have HN : Hid _ := Lib.hid hn
  have HC : Hid _ := Lib.hid hcell
  have HB : Hid (Below w.heap.size w w) := Lib.hid (Below.refl _ _)
  clear hn hcell hv
  go_enter Tryd.func9, Tryd.ntmps9
  go_wp2
  go_loopg [4, 9] n (fun m s i wr => ∃ (k : Nat) (acc : BitVec 64), k + m = n ∧ i = .int .i64 (k : Int) ∧ s = .int .u64 (acc.toNat : Int) ∧ Hid (ofGo (zs.drop k) acc = ofGo zs 0#64) ∧ wr = w)
  case atStart => exact ⟨0, 0#64, by omega, rfl, rfl, Lib.hid rfl, rfl⟩
  case round =>
    obtain ⟨k, acc, hk, rfl, rfl, hgo, rfl⟩ := hrel
    by_cases hlt : k < n
    · obtain ⟨g, off, rfl, hc⟩ := HC.out k hlt
      obtain ⟨x, hx⟩ : ∃ x : Int, x = zs[k]?.getD 0 := ⟨_, rfl⟩
      have hdrop : zs.drop k = x :: zs.drop (k + 1) := by
        have hk' : k < zs.length := by have := HN.out; omega
        rw [List.drop_eq_getElem_cons hk', hx]; simp [hk']
      rw [← hx] at hc
      by_cases hin : 0 ≤ x ∧ x < 64
      · obtain ⟨s, rfl⟩ : ∃ s : Nat, x = (s : Int) := ⟨x.toNat, by omega⟩
        have hs : s < 64 := by omega
        have hor : Hid (bits BinOp.or IntKind.u64 (acc.toNat : Int) ((bitW s).toNat : Int) = ((acc ||| bitW s).toNat : Int)) := Lib.hid (b_or _ _)
        cases hbit : acc.getLsbD s
        · have h1 : (bits BinOp.and IntKind.u64 (acc.toNat : Int) ((bitW s).toNat : Int) != 0) = false := by
            rw [b_and]; exact (int_zero (and_bitW_no acc s hs hbit)).2
          have hnext : Hid (ofGo (zs.drop (k + 1)) (acc ||| bitW s) = ofGo zs 0#64) := Lib.hid (by
            rw [← hgo.out, hdrop, ofGo, if_pos hin, Int.toNat_natCast, hbit]; simp)
          clear hdrop hbit hin hx
          go_wp2_with (first
            | (go_at_call 20; refine (turned (isSquare_yes (s : Int) _ (by omega) (by omega))).mono ?_; rintro e w' ⟨rfl, rfl⟩)
            | (go_at_call 21; refine (turned (single_any s _ hs)).mono ?_; rintro e w' ⟨rfl, rfl⟩))
          go_roundg (gk - 1)
          case measure => omega
          case rel => exact ⟨k + 1, acc ||| bitW s, by omega, by go_num, by rw [hor.out], hnext, rfl⟩
        · have h1 : (bits BinOp.and IntKind.u64 (acc.toNat : Int) ((bitW s).toNat : Int) != 0) = true := by
            rw [b_and]; exact (int_ne_zero (and_bitW_yes acc s hs hbit)).2
          have hres : Hid (ofGo zs 0#64 = (0#64, 7)) := Lib.hid (by
            rw [← hgo.out, hdrop, ofGo, if_pos hin, Int.toNat_natCast, hbit]; simp)
          clear hdrop hbit hin hx
          go_wp2_with (first
            | (go_at_call 20; refine (turned (isSquare_yes (s : Int) _ (by omega) (by omega))).mono ?_; rintro e w' ⟨rfl, rfl⟩)
            | (go_at_call 21; refine (turned (single_any s _ hs)).mono ?_; rintro e w' ⟨rfl, rfl⟩))
          go_ret2
          rw [hres.out]
          exact ⟨rfl, rfl⟩
      · have hres : Hid (ofGo zs 0#64 = (0#64, 4)) := Lib.hid (by rw [← hgo.out, hdrop, ofGo, if_neg hin])
        have HI : Hid _ := Lib.hid hin
        clear hdrop hin hx
        go_wp2_with (go_at_call 20; refine (turned (isSquare_no x _ HI.out)).mono ?_; rintro e w' ⟨rfl, rfl⟩)
        go_ret2
        rw [hres.out]
        exact ⟨rfl, rfl⟩
    · have hres : Hid (ofGo zs 0#64 = (acc, 0)) := Lib.hid (by
        have hkn : k = zs.length := by have := HN.out; omega
        rw [← hgo.out, hkn, List.drop_length, ofGo])
      go_wp2
      go_ret2
      rw [hres.out]
      exact ⟨rfl, rfl⟩
end Go.Proofs.YtffnnpjgfjkmjaaDoor
