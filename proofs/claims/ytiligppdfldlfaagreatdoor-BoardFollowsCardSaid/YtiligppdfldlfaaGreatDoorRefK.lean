/- The reference's Mixed and Key. -/
import Derived.Test.YtiligppdfldlfaaGreatDoorZobK
set_option maxRecDepth 100000
namespace Go.Proofs.YtiligppdfldlfaaGreatDoor
open Go.ChangeShapes Go.WideShapes Go.ChangeAt Go.RowKit

theorem mixed_any (x : Int) (w : World) :
    Calls Tryz.prog 67 #[.int .i64 x] w fun e w' => e = .returned (.int .u64 ((mixZ x).toNat : Int)) ∧ w' = w := by
  obtain ⟨b, hb⟩ : ∃ b, b = BitVec.ofInt 64 x := ⟨_, rfl⟩
  obtain ⟨m, hm⟩ : ∃ m, m = b * kA := ⟨_, rfl⟩
  obtain ⟨c, hc⟩ : ∃ c, c = m + kA := ⟨_, rfl⟩
  obtain ⟨c1, hc1⟩ : ∃ c1, c1 = c ^^^ (c >>> 30) := ⟨_, rfl⟩
  obtain ⟨d, hd⟩ : ∃ d, d = c1 * kB := ⟨_, rfl⟩
  obtain ⟨d1, hd1⟩ : ∃ d1, d1 = d ^^^ (d >>> 27) := ⟨_, rfl⟩
  obtain ⟨f, hf⟩ : ∃ f, f = d1 * kC := ⟨_, rfl⟩
  obtain ⟨g, hg⟩ : ∃ g, g = f ^^^ (f >>> 31) := ⟨_, rfl⟩
  have K : Hid ((g.toNat : Int) = ((mixZ x).toNat : Int)) := Lib.hid (by
    have h : (BitVec.ofInt 64 x + 1#64) * kA = c := by rw [hc, hm, hb, BitVec.add_mul, BitVec.one_mul]
    rw [hg, hf, hd1, hd, hc1, mixZ, h]; rfl)
  have e0 : IntKind.u64.wrap x = (b.toNat : Int) := by rw [hb, b_of]
  have e1 : IntKind.u64.wrap ((b.toNat : Int) * 11400714819323198485) = (m.toNat : Int) := by
    have h2 := b_mul b kA
    rw [show (kA.toNat : Int) = 11400714819323198485 from rfl] at h2
    rw [h2, hm]
  have e2 : IntKind.u64.wrap ((m.toNat : Int) + 11400714819323198485) = (c.toNat : Int) := by
    have h2 := b_add m kA
    rw [show (kA.toNat : Int) = 11400714819323198485 from rfl] at h2
    rw [h2, hc]
  have e3 : bits .xor .u64 (c.toNat : Int) ((c.toNat : Int) / 1073741824) = (c1.toNat : Int) := by rw [hc1]; exact last_int c 30
  have e4 : IntKind.u64.wrap ((c1.toNat : Int) * 13787848793156543929) = (d.toNat : Int) := by
    have h2 := b_mul c1 kB
    rw [show (kB.toNat : Int) = 13787848793156543929 from rfl] at h2
    rw [h2, hd]
  have e5 : bits .xor .u64 (d.toNat : Int) ((d.toNat : Int) / 134217728) = (d1.toNat : Int) := by rw [hd1]; exact last_int d 27
  have e6 : IntKind.u64.wrap ((d1.toNat : Int) * 10723151780598845931) = (f.toNat : Int) := by
    have h2 := b_mul d1 kC
    rw [show (kC.toNat : Int) = 10723151780598845931 from rfl] at h2
    rw [h2, hf]
  have e7 : bits .xor .u64 (f.toNat : Int) ((f.toNat : Int) / 2147483648) = (g.toNat : Int) := by rw [hg]; exact last_int f 31
  clear hb hm hc hc1 hd hd1 hf hg
  go_enter Tryz.func67, Tryz.ntmps67
  go_wp2_with fail
  go_ret
  exact ⟨retW K.out, rfl⟩
/-- A number of equal words, added up. -/
def timesK (M : BitVec 64) : Nat → BitVec 64
  | 0 => 0#64
  | k + 1 => timesK M k + M
theorem timesK_mul (M : BitVec 64) : ∀ n : Nat, timesK M n = M * BitVec.ofInt 64 (n : Int)
  | 0 => by simp [timesK]
  | n + 1 => by
    rw [timesK, timesK_mul M n]
    have h : BitVec.ofInt 64 ((n + 1 : Nat) : Int) = BitVec.ofInt 64 (n : Int) + 1#64 := by
      rw [Int.natCast_add, BitVec.ofInt_add]; rfl
    rw [h, BitVec.mul_add, BitVec.mul_one]
set_option maxHeartbeats 8000000 in
theorem refKey_any (p : PlaceD) (vc v0 v1 : Value) (w : World) (hp : PlaceIn w p vc v0 v1) (hf : KFit p) :
    Calls Tryz.prog 35 #[PlaceV p vc v0 v1] w (BelPost (.int .u64 ((keyZ p).toNat : Int)) w) := by
  obtain ⟨V, hV⟩ : ∃ V, V = w.alloc (.cells (PlaceCells p vc v0 v1) 29) := ⟨_, rfl⟩
  have hB : Below w.heap.size w V := by rw [hV]; exact (Below.refl _ _).alloc (Nat.le_refl _) _
  have hX : BoxP V w.heap.size p vc v0 v1 := by rw [hV]; exact boxP_new w p vc v0 v1 _
  have HB := Lib.hid hB
  obtain ⟨ca, cn, cc, rfl, hcn, hcc, hcs⟩ := hp.c.parts
  obtain ⟨a0, n0, c0, rfl, hn0, hc0, hcs0⟩ := hp.a.parts
  obtain ⟨a1, n1, c1, rfl, hn1, hc1, hcs1⟩ := hp.b.parts
  have HC := Lib.hid (hcs V hB)
  have HH : Hid (∀ j : Nat, j < 2 → ∃ a n c, V.cell? ⟨w.heap.size, 1 + j, none⟩ = some (.slice a n c) ∧ n = (handL p j).length ∧ n ≤ c ∧ n ≤ 100 ∧ ∀ k, k < n → ∃ g o x, a = some ⟨g, o, none⟩ ∧ (handL p j)[k]? = some x ∧ (0 ≤ x ∧ x ≤ 1000) ∧ V.cell? ⟨g, o + k, none⟩ = some (.int .i64 x)) := Lib.hid (fun j hj => by
    obtain rfl | rfl : j = 0 ∨ j = 1 := by omega
    · refine ⟨a0, n0, c0, hX.2.1, hn0, hc0, by rw [hn0]; exact hf.s.a, fun k hk => ?_⟩
      obtain ⟨g, o, x, e1, e2, e3⟩ := hcs0 V hB k hk
      exact ⟨g, o, x, e1, e2, hf.n0 x (List.mem_of_getElem? e2), e3⟩
    · refine ⟨a1, n1, c1, hX.2.2.1, hn1, hc1, by rw [hn1]; exact hf.s.b, fun k hk => ?_⟩
      obtain ⟨g, o, x, e1, e2, e3⟩ := hcs1 V hB k hk
      exact ⟨g, o, x, e1, e2, hf.n1 x (List.mem_of_getElem? e2), e3⟩)
  have HR : Hid (∀ (k : Nat) (x : Int), p.cells[k]? = some x → 0 ≤ x ∧ x ≤ 1000) := Lib.hid (fun k x h => hf.cs x (List.mem_of_getElem? h))
  have hcn1 : cn ≤ 100 := by rw [hcn]; exact hf.s.c
  have HCN := Lib.hid hcn
  obtain ⟨x0, x1, x2, x3, x4⟩ := hX
  have hV' := hV
  unfold PlaceCells at hV'
  unfold PlaceV PlaceCells
  clear hp hf hB hcs hcs0 hcs1 hn0 hn1 hc0 hc1 hV hcn
  go_enter Tryz.func35, Tryz.ntmps35
  go_wp2_with fail
  rw [← hV']
  clear hV'
  go_loopw [3, 4, 11] (fun s _ i V2 => ∃ (k : Nat) (K : BitVec 64), k ≤ cn ∧ i = .int .i64 (k : Int) ∧ s = .int .u64 (K.toNat : Int) ∧ Hid (K = cellsK p.cells k) ∧ V = V2) (fun _ _ i _ => cn - (intOf i).toNat)
  case atStart => exact ⟨0, 0#64, by omega, rfl, rfl, Lib.hid rfl, by first | rfl | trivial⟩
  case round =>
    obtain ⟨k, K, hk, rfl, rfl, hK, rfl⟩ := hrel
    by_cases hlt : k < cn
    · obtain ⟨g, o, x, rfl, hx, c0⟩ := HC.out k hlt
      obtain ⟨r0, r1⟩ := HR.out k x hx
      obtain ⟨S, hS⟩ : ∃ S, S = cellsK p.cells (k + 1) := ⟨_, rfl⟩
      have hS2 : S = K + cellW k x := by rw [hS, cellsK, hx, hK.out]; rfl
      have HS := Lib.hid hS
      by_cases hz : x = 0
      · subst hz
        have e : K = S := by rw [hS2, cellW, if_pos rfl, BitVec.add_zero]
        subst e
        clear hS2 hS hx HC
        go_wp2_with fail
        go_roundw
        case rel => exact ⟨k + 1, K, by omega, by go_num, rfl, HS, by first | rfl | trivial⟩
        case measure => simp [intOf]; omega
      · obtain ⟨M, hM⟩ : ∃ M, M = mixZ ((k : Int) * 16 + x) := ⟨_, rfl⟩
        have HM : Hid (∀ W, Calls Tryz.prog 67 #[.int .i64 ((k : Int) * 16 + x)] W fun e w' => e = .returned (.int .u64 (M.toNat : Int)) ∧ W = w') := Lib.hid (fun W => by rw [hM]; exact turned (mixed_any _ W))
        have e1 : IntKind.u64.wrap ((K.toNat : Int) + (M.toNat : Int)) = (S.toNat : Int) := by rw [b_add, hS2, cellW, if_neg hz, hM, Int.mul_comm 16]
        have hgt : decide (x > 0) = true := by simp; omega
        clear hS2 hS hx HC hM
        go_wp2_with fail
        go_at_call 67; refine (HM.out _).mono ?_; rintro e w' ⟨rfl, rfl⟩
        go_wp2_with fail
        go_roundw
        case rel => exact ⟨k + 1, S, by omega, by go_num, rfl, HS, by first | rfl | trivial⟩
        case measure => simp [intOf]; omega
    · have hE : Hid (K = handsK p 0) := Lib.hid (by rw [hK.out, show k = cn by omega, HCN.out]; rfl)
      clear hK HC HR HCN
      go_wp2_with fail
      go_loopw [3, 5, 6, 7, 32, 40, 46] (fun s _ _ _ i _ _ V2 => ∃ (j : Nat) (K : BitVec 64), j ≤ 2 ∧ i = .int .i64 (j : Int) ∧ s = .int .u64 (K.toNat : Int) ∧ Hid (K = handsK p j) ∧ V = V2) (fun _ _ _ _ i _ _ _ => 2 - (intOf i).toNat)
      case atStart => exact ⟨0, K, by omega, rfl, rfl, hE, by first | rfl | trivial⟩
      case round =>
        clear hE hlt hk
        obtain ⟨j, K, hj, rfl, rfl, hK, rfl⟩ := hrel
        by_cases hjlt : j < 2
        · obtain ⟨ha, hn, hc, hix, hnn, hnc, hn100, hcell⟩ := HH.out j hjlt
          have hdj : decide ((j : Int) < 2) = true := by simp; omega
          have HCE := Lib.hid hcell
          have HNN := Lib.hid hnn
          clear hcell hnn
          go_wp2_with fail
          go_loopw [3, 6, 7, 40, 46] (fun s _ _ i _ V2 => ∃ (k : Nat) (L : BitVec 64), k ≤ hn ∧ i = .int .i64 (k : Int) ∧ s = .int .u64 (L.toNat : Int) ∧ Hid (L = K + handK (2000 + 8 * (j : Int)) (handL p j) k) ∧ V = V2) (fun _ _ _ i _ _ => hn - (intOf i).toNat)
          case atStart => exact ⟨0, K, by omega, rfl, rfl, Lib.hid (by rw [handK, BitVec.add_zero]), by first | rfl | trivial⟩
          case round =>
            obtain ⟨k, L, hk, rfl, rfl, hL, rfl⟩ := hrel
            by_cases hlt : k < hn
            · obtain ⟨g, o, x, rfl, hx, ⟨r0, r1⟩, c0⟩ := HCE.out k hlt
              obtain ⟨y, rfl⟩ : ∃ y : Nat, x = (y : Int) := ⟨x.toNat, by omega⟩
              obtain ⟨M, hM⟩ : ∃ M, M = mixZ ((j : Int) * 8 + (k : Int) + 2000) := ⟨_, rfl⟩
              have HM : Hid (∀ W, Calls Tryz.prog 67 #[.int .i64 ((j : Int) * 8 + (k : Int) + 2000)] W fun e w' => e = .returned (.int .u64 (M.toNat : Int)) ∧ W = w') := Lib.hid (fun W => by rw [hM]; exact turned (mixed_any _ W))
              have HS : Hid (L + timesK M y = K + handK (2000 + 8 * (j : Int)) (handL p j) (k + 1)) := Lib.hid (by
                rw [hL.out, handK, hx, timesK_mul, hM, BitVec.add_assoc, show (j : Int) * 8 + (k : Int) + 2000 = 2000 + 8 * (j : Int) + (k : Int) by omega]; rfl)
              clear hM hx
              go_wp2_with fail
              go_loopw [3, 46] (fun s i V2 => ∃ (t : Nat) (T : BitVec 64), t ≤ y ∧ i = .int .i64 (t : Int) ∧ s = .int .u64 (T.toNat : Int) ∧ Hid (T = L + timesK M t) ∧ V = V2) (fun _ i _ => y - (intOf i).toNat)
              case atStart => exact ⟨0, L, by omega, rfl, rfl, Lib.hid (by rw [timesK, BitVec.add_zero]), by first | rfl | trivial⟩
              case round =>
                obtain ⟨t, T, ht, rfl, rfl, hT, rfl⟩ := hrel
                by_cases htl : t < y
                · obtain ⟨S, hS⟩ : ∃ S, S = T + M := ⟨_, rfl⟩
                  have e1 : IntKind.u64.wrap ((T.toNat : Int) + (M.toNat : Int)) = (S.toNat : Int) := by rw [b_add, hS]
                  have HT : Hid (S = L + timesK M (t + 1)) := Lib.hid (by rw [hS, hT.out, timesK, BitVec.add_assoc])
                  have hdt : decide ((t : Int) < (y : Int)) = true := by simp; omega
                  clear hS hT
                  go_wp2_with fail
                  go_at_call 67; refine (HM.out _).mono ?_; rintro e w' ⟨rfl, rfl⟩
                  go_wp2_with fail
                  go_roundw
                  case rel => exact ⟨t + 1, S, by omega, by go_num, rfl, HT, by first | rfl | trivial⟩
                  case measure => simp [intOf]; omega
                · have HE : Hid (T = K + handK (2000 + 8 * (j : Int)) (handL p j) (k + 1)) := Lib.hid (by rw [hT.out, show t = y by omega, HS.out])
                  have hdt : decide ((t : Int) < (y : Int)) = false := by simp; omega
                  clear hT HS
                  go_wp2_with fail
                  go_roundw
                  case rel => first | exact ⟨k + 1, T, by omega, by go_num, rfl, HE, by first | rfl | trivial⟩ | ((repeat apply Exists.intro); exact ⟨⟨k + 1, T, by omega, by go_num, rfl, HE, by first | rfl | trivial⟩, rfl⟩)
                  case measure => simp [intOf]; omega
            · have hE : Hid (L = handsK p (j + 1)) := Lib.hid (by rw [hL.out, handsK_succ p hjlt, hK.out, show k = hn by omega, HNN.out])
              clear hL HCE HNN
              go_wp2_with fail
              go_roundw
              case rel => first | exact ⟨j + 1, L, by omega, by go_num, rfl, hE, by first | rfl | trivial⟩ | ((repeat apply Exists.intro); exact ⟨⟨j + 1, L, by omega, by go_num, rfl, hE, by first | rfl | trivial⟩, rfl⟩)
              case measure => simp [intOf]; omega
        · have hE : Hid (K = handsK p 2) := Lib.hid (by rw [hK.out, show j = 2 by omega])
          have hdj : decide ((j : Int) < 2) = false := by simp; omega
          clear hK HH
          by_cases ht : p.turn = 1
          · obtain ⟨M, hM⟩ : ∃ M, M = mixZ 3000 := ⟨_, rfl⟩
            obtain ⟨S, hS⟩ : ∃ S, S = keyZ p := ⟨_, rfl⟩
            have HM : Hid (∀ W, Calls Tryz.prog 67 #[.int .i64 3000] W fun e w' => e = .returned (.int .u64 (M.toNat : Int)) ∧ W = w') := Lib.hid (fun W => by rw [hM]; exact turned (mixed_any _ W))
            have e1 : IntKind.u64.wrap ((K.toNat : Int) + (M.toNat : Int)) = (S.toNat : Int) := by rw [b_add, hS, keyZ, turnK, if_pos ht, hE.out, hM]
            have hte : (p.turn == 1) = true := by simpa using ht
            have KS : Hid ((S.toNat : Int) = ((keyZ p).toNat : Int)) := Lib.hid (by rw [hS])
            clear hS hM ht
            go_wp2_with fail
            go_at_call 67; refine (HM.out _).mono ?_; rintro e w' ⟨rfl, rfl⟩
            go_wp2_with fail
            go_ret
            exact ⟨retW KS.out, HB.out⟩
          · have hS : keyZ p = K := by rw [keyZ, turnK, if_neg ht, BitVec.add_zero, hE.out]
            have hte : (p.turn == 1) = false := by simpa using ht
            have KS : Hid ((K.toNat : Int) = ((keyZ p).toNat : Int)) := Lib.hid (by rw [hS])
            clear hS ht
            go_wp2_with fail
            go_ret
            exact ⟨retW KS.out, HB.out⟩
end Go.Proofs.YtiligppdfldlfaaGreatDoor
