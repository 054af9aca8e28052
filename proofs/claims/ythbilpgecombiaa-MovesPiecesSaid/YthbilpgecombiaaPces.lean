/- gamehallkeep1.pieces: the number of all pieces of a position. -/
import Derived.Test.YthbilpgecombiaaLost
import Derived.Test.YthbilpgecombiaaPChk
set_option maxRecDepth 100000
namespace Go.Proofs.Ythbilpgecombiaa
open Go.ChangeShapes Go.WideShapes Go.ChangeAt Go.RowKit

theorem idx2_0 (a b : Option Addr) (n c m d : Nat) : ∀ w, Sem.run Try.prog (Instr.index 27 (.agg #[.slice a n c, .slice b m d]) (.int .i64 0)) w = .ok (.slice a n c) w := fun _ => by kernel_rfl
theorem idx2_1 (a b : Option Addr) (n c m d : Nat) : ∀ w, Sem.run Try.prog (Instr.index 27 (.agg #[.slice a n c, .slice b m d]) (.int .i64 1)) w = .ok (.slice b m d) w := fun _ => by kernel_rfl
theorem take_in {l : List Int} {M : Int} (h : ∀ c ∈ l, 0 ≤ c ∧ c ≤ M) (k : Nat) : ∀ c ∈ l.take k, 0 ≤ c ∧ c ≤ M := fun c hc => h c (List.mem_of_mem_take hc)
theorem sumI_pre {l : List Int} (h : ∀ c ∈ l, 0 ≤ c ∧ c ≤ 1000) (hl : l.length ≤ 6) (k : Nat) : 0 ≤ sumI (l.take k) ∧ sumI (l.take k) ≤ 6000 := by
  obtain ⟨h1, h2⟩ := sumI_bound (M := 1000) (by omega) (l.take k) (take_in h k)
  rw [List.length_take] at h2
  omega
theorem cntI_pre {l : List Int} (hl : l.length ≤ 64) (k : Nat) : 0 ≤ cntI (l.take k) ∧ cntI (l.take k) ≤ 64 := by
  unfold cntI
  obtain ⟨h1, h2⟩ := sumI_bound (M := 1) (by omega) ((l.take k).map posI) (by
    intro c hc
    obtain ⟨x, _, rfl⟩ := List.mem_map.1 hc
    unfold posI; split <;> omega)
  rw [List.length_map, List.length_take] at h2
  omega
set_option maxHeartbeats 4000000 in
theorem pieces_any (p : PlaceD) (vc v0 v1 : Value) (w : World) (hp : PlaceIn w p vc v0 v1) (hlc : p.cells.length ≤ 64) (hl0 : p.h0.length ≤ 6) (hl1 : p.h1.length ≤ 6) (n0 : ∀ c ∈ p.h0, 0 ≤ c ∧ c ≤ 1000) (n1 : ∀ c ∈ p.h1, 0 ≤ c ∧ c ≤ 1000) :
    Calls Try.prog 16 #[PlaceV p vc v0 v1] w (BelPost (.int .i64 (piecesD p)) w) := by
  obtain ⟨m, hm⟩ : ∃ m : Nat, m = p.cells.length := ⟨_, rfl⟩
  obtain ⟨k0, hk0⟩ : ∃ m : Nat, m = p.h0.length := ⟨_, rfl⟩
  obtain ⟨k1, hk1⟩ : ∃ m : Nat, m = p.h1.length := ⟨_, rfl⟩
  have hm64 : m ≤ 64 := by omega
  have hk06 : k0 ≤ 6 := by omega
  have hk16 : k1 ≤ 6 := by omega
  have HPC := Lib.hid (fun k => cntI_pre hlc k)
  have HP0 := Lib.hid (fun k => sumI_pre n0 hl0 k)
  have HP1 := Lib.hid (fun k => sumI_pre n1 hl1 k)
  have HEC : Hid (p.cells.take m = p.cells) := Lib.hid (by rw [hm, List.take_length])
  have HE0 : Hid (p.h0.take k0 = p.h0) := Lib.hid (by rw [hk0, List.take_length])
  have HE1 : Hid (p.h1.take k1 = p.h1) := Lib.hid (by rw [hk1, List.take_length])
  have HPD : Hid (piecesD p = cntI p.cells + sumI p.h0 + sumI p.h1) := Lib.hid rfl
  obtain ⟨ac, cc, rfl, hcp, hac⟩ := hp.c.shape hm
  obtain ⟨a0, c0', rfl, hcp0, ha0⟩ := hp.a.shape hk0
  obtain ⟨a1, c1', rfl, hcp1, ha1⟩ := hp.b.shape hk1
  have hgen : ∀ {a : Option Addr} {N : Nat} {xs : List Int} (hat : ∀ j, j < N → ∃ g off x, a = some ⟨g, off, none⟩ ∧ xs[j]? = some x ∧ IntAt w g (off + j * 1) x), ∀ k, k < N → ∃ g off x, a = some ⟨g, off, none⟩ ∧ xs[k]? = some x ∧ ∀ V, Below w.heap.size w V → V.cell? ⟨g, off + k, none⟩ = some (.int .i64 x) := by
    intro a N xs hat k hk
    obtain ⟨g, off, x, e, hx, hq⟩ := hat k hk
    refine ⟨g, off, x, e, hx, fun V hV => ?_⟩
    have := cell_keeps hV (Nat.le_refl _) hq
    rwa [Nat.mul_one] at this
  have HAC := Lib.hid (hgen hac)
  have HA0 := Lib.hid (hgen ha0)
  have HA1 := Lib.hid (hgen ha1)
  have hX := boxP_new w p (.slice ac m cc) (.slice a0 k0 c0') (.slice a1 k1 c1') 29
  have hB := (Below.refl w.heap.size w).alloc (Nat.le_refl _) (.cells (PlaceCells p (.slice ac m cc) (.slice a0 k0 c0') (.slice a1 k1 c1')) 29)
  obtain ⟨W1, hW1⟩ : ∃ W1, W1 = w.alloc (.cells (PlaceCells p (.slice ac m cc) (.slice a0 k0 c0') (.slice a1 k1 c1')) 29) := ⟨_, rfl⟩
  rw [← hW1] at hX hB
  have HB := Lib.hid hB
  obtain ⟨x0, x1, x2, x3, x4⟩ := hX
  obtain ⟨P, hP⟩ : ∃ P, P = piecesD p := ⟨_, rfl⟩
  rw [← hP] at HPD ⊢
  unfold PlaceV
  unfold PlaceCells at hW1 ⊢
  clear hP hp hlc hl0 hl1 n0 n1 hm hk0 hk1 hac ha0 ha1 hgen hB
  go_enter Try.func16, Try.ntmps16
  go_wp2_with fail
  rw [← hW1]
  clear hW1
  go_wp2_with fail
  go_loopw [3, 5, 13] (fun t _ j V => ∃ (k : Nat) (T : Int), k ≤ m ∧ j = .int .i64 (k : Int) ∧ t = .int .i64 T ∧ Hid (T = cntI (p.cells.take k)) ∧ W1 = V) (fun _ _ j _ => m - (intOf j).toNat)
  case atStart => exact ⟨0, 0, by omega, rfl, rfl, Lib.hid (by simp [cntI, sumI]), by first | rfl | trivial⟩
  case round =>
    obtain ⟨k, T, hk, rfl, rfl, hT, rfl⟩ := hrel
    have hTb := HPC.out k
    rw [← hT.out] at hTb
    by_cases hlt : k < m
    · obtain ⟨g, o, x, rfl, hx, hcx⟩ := HAC.out k hlt
      have c0 := hcx _ HB.out
      have HXX := Lib.hid hx
      have hw : IntKind.i64.wrap (T + 1) = T + 1 := IntWalk.i64_in _ (by omega)
      clear hx hcx
      by_cases hpos : 0 < x
      · have hd : decide (0 < x) = true := by simpa using hpos
        have HS : Hid (T + 1 = cntI (p.cells.take (k + 1))) := Lib.hid (by rw [cntI_take HXX.out, ← hT.out, posI, if_pos hpos])
        clear hpos
        go_wp2_with fail
        go_roundw
        case rel => exact ⟨k + 1, T + 1, by omega, by go_num, rfl, HS, by first | rfl | trivial⟩
        case measure => simp [intOf]; omega
      · have hd : decide (0 < x) = false := by simpa using hpos
        have HS : Hid (T = cntI (p.cells.take (k + 1))) := Lib.hid (by rw [cntI_take HXX.out, ← hT.out, posI, if_neg hpos, Int.add_zero])
        clear hpos
        go_wp2_with fail
        go_roundw
        case rel => exact ⟨k + 1, T, by omega, by go_num, rfl, HS, by first | rfl | trivial⟩
        case measure => simp [intOf]; omega
    · obtain rfl : k = m := by omega
      have HTC : Hid (T = cntI p.cells) := Lib.hid (by rw [hT.out, HEC.out])
      clear hT
      go_wp2_with fail
      go_loopw [3, 7, 9, 24] (fun t _ _ j V => ∃ (i : Nat) (S : Int), i ≤ 2 ∧ j = .int .i64 (i : Int) ∧ t = .int .i64 S ∧ Hid (S = (if i = 0 then T else if i = 1 then T + sumI p.h0 else T + sumI p.h0 + sumI p.h1)) ∧ W1 = V) (fun _ _ _ j _ => 2 - (intOf j).toNat)
      case atStart => exact ⟨0, T, by omega, rfl, rfl, Lib.hid rfl, by first | rfl | trivial⟩
      case round =>
        obtain ⟨i, S, hi, rfl, rfl, hS, rfl⟩ := hrel
        obtain rfl | rfl | rfl : i = 0 ∨ i = 1 ∨ i = 2 := by omega
        · have hS : Hid (S = T) := hS
          have hix := idx2_0 a0 a1 k0 c0' k1 c1'
          go_wp2_with fail
          go_loopw [3, 9, 29] (fun t _ j V => ∃ (q : Nat) (U : Int), q ≤ k0 ∧ j = .int .i64 (q : Int) ∧ t = .int .i64 U ∧ Hid (U = T + sumI (p.h0.take q)) ∧ W1 = V) (fun _ _ j _ => k0 - (intOf j).toNat)
          case atStart => exact ⟨0, S, by omega, rfl, rfl, Lib.hid (by rw [hS.out]; simp [sumI]), by first | rfl | trivial⟩
          case round =>
            obtain ⟨q, U, hq, rfl, rfl, hU, rfl⟩ := hrel
            have hUb := HP0.out q
            have hU2 := hU.out
            by_cases hlt : q < k0
            · obtain ⟨g, o, x, rfl, hx, hcx⟩ := HA0.out q hlt
              have c0 := hcx _ HB.out
              have hnx := HP0.out (q + 1)
              rw [sumI_take hx] at hnx
              have HS : Hid (U + x = T + sumI (p.h0.take (q + 1))) := Lib.hid (by rw [sumI_take hx, hU2]; omega)
              have hw : IntKind.i64.wrap (U + x) = U + x := IntWalk.i64_in _ (by omega)
              clear hx hcx hU2 hnx hUb
              go_wp2_with fail
              go_roundw
              case rel => exact ⟨q + 1, U + x, by omega, by go_num, rfl, HS, by first | rfl | trivial⟩
              case measure => simp [intOf]; omega
            · obtain rfl : q = k0 := by omega
              have HS : Hid (U = T + sumI p.h0) := Lib.hid (by rw [hU2, HE0.out])
              clear hU2 hUb hU
              go_wp2_with fail
              go_roundw
              case rel => exact ⟨1, U, by omega, by go_num, rfl, Lib.hid (by rw [HS.out]; rfl), by first | rfl | trivial⟩
              case measure => simp [intOf]
        · have HS1 : Hid (S = T + sumI p.h0) := Lib.hid hS.out
          clear hS
          have hh0 := HP0.out k0
          rw [HE0.out] at hh0
          have hix := idx2_1 a0 a1 k0 c0' k1 c1'
          obtain ⟨h0s, hh0s⟩ : ∃ s, s = sumI p.h0 := ⟨_, rfl⟩
          rw [← hh0s] at hh0
          have HH0 := Lib.hid hh0s
          clear hh0s
          go_wp2_with fail
          go_loopw [3, 9, 29] (fun t _ j V => ∃ (q : Nat) (U : Int), q ≤ k1 ∧ j = .int .i64 (q : Int) ∧ t = .int .i64 U ∧ Hid (U = T + h0s + sumI (p.h1.take q)) ∧ W1 = V) (fun _ _ j _ => k1 - (intOf j).toNat)
          case atStart => exact ⟨0, S, by omega, rfl, rfl, Lib.hid (by have h1 := HH0.out; have h2 := HS1.out; rw [List.take_zero]; simp only [sumI]; omega), by first | rfl | trivial⟩
          case round =>
            obtain ⟨q, U, hq, rfl, rfl, hU, rfl⟩ := hrel
            have hUb := HP1.out q
            have hU2 := hU.out
            by_cases hlt : q < k1
            · obtain ⟨g, o, x, rfl, hx, hcx⟩ := HA1.out q hlt
              have c0 := hcx _ HB.out
              have hnx := HP1.out (q + 1)
              rw [sumI_take hx] at hnx
              have HS : Hid (U + x = T + h0s + sumI (p.h1.take (q + 1))) := Lib.hid (by rw [sumI_take hx, hU2]; omega)
              have hw : IntKind.i64.wrap (U + x) = U + x := IntWalk.i64_in _ (by omega)
              clear hx hcx hU2 hnx hUb
              go_wp2_with fail
              go_roundw
              case rel => exact ⟨q + 1, U + x, by omega, by go_num, rfl, HS, by first | rfl | trivial⟩
              case measure => simp [intOf]; omega
            · obtain rfl : q = k1 := by omega
              have HS : Hid (U = T + sumI p.h0 + sumI p.h1) := Lib.hid (by rw [hU2, HE1.out, HH0.out])
              clear hU2 hUb hU
              go_wp2_with fail
              go_roundw
              case rel => exact ⟨2, U, by omega, by go_num, rfl, Lib.hid (by rw [HS.out]; rfl), by first | rfl | trivial⟩
              case measure => simp [intOf]
        · have hS : Hid (S = T + sumI p.h0 + sumI p.h1) := hS
          have K : Hid (S = P) := Lib.hid (by rw [hS.out, HPD.out, HTC.out])
          clear hS
          go_wp2_with fail
          go_ret
          exact ⟨ret_i64 K.out, HB.out⟩
end Go.Proofs.Ythbilpgecombiaa
