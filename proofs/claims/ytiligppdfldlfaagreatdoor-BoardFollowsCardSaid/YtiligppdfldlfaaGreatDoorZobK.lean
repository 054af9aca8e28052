/- The key of a position, and the walk of zob.keyOf. -/
import Derived.Test.YtiligppdfldlfaaGreatDoorZobD
import Derived.Test.YtiligppdfldlfaaGreatDoorPlcA
set_option maxRecDepth 100000
namespace Go.Proofs.YtiligppdfldlfaaGreatDoor
open Go.ChangeShapes Go.WideShapes Go.ChangeAt Go.RowKit

def cellW (k : Nat) (c : Int) : BitVec 64 := if c = 0 then 0#64 else mixZ (16 * (k : Int) + c)
def cellsK (cs : List Int) : Nat → BitVec 64
  | 0 => 0#64
  | k + 1 => cellsK cs k + cellW k (cs[k]?.getD 0)
def handK (b : Int) (h : List Int) : Nat → BitVec 64
  | 0 => 0#64
  | k + 1 => handK b h k + mixZ (b + (k : Int)) * BitVec.ofInt 64 (h[k]?.getD 0)
def turnK (t : Int) : BitVec 64 := if t = 1 then mixZ 3000 else 0#64
def handsK (p : PlaceD) : Nat → BitVec 64
  | 0 => cellsK p.cells p.cells.length
  | 1 => cellsK p.cells p.cells.length + handK 2000 p.h0 p.h0.length
  | _ => cellsK p.cells p.cells.length + handK 2000 p.h0 p.h0.length + handK 2008 p.h1 p.h1.length
/-- The key of a position. -/
def keyZ (p : PlaceD) : BitVec 64 := handsK p 2 + turnK p.turn
/-- What the walk of a key wants of a position's numbers. -/
structure KFit (p : PlaceD) : Prop where
  s : Short p
  cs : ∀ c ∈ p.cells, 0 ≤ c ∧ c ≤ 1000
  n0 : ∀ c ∈ p.h0, 0 ≤ c ∧ c ≤ 1000
  n1 : ∀ c ∈ p.h1, 0 ≤ c ∧ c ≤ 1000
theorem POkay.kfit {r : RulesD} {p : PlaceD} (h : POkay r p) : KFit p :=
  ⟨h.short, fun c hc => by
    obtain ⟨_, _, _, hps, _⟩ := rulesE_ok h.e
    have := (piecesE_ok hps).2
    have := h.cs c hc
    omega, h.n0, h.n1⟩
/-- The hand of a player, as a list. -/
def handL (p : PlaceD) (j : Nat) : List Int := if j = 0 then p.h0 else p.h1
theorem handsK_succ (p : PlaceD) {j : Nat} (h : j < 2) : handsK p (j + 1) = handsK p j + handK (2000 + 8 * (j : Int)) (handL p j) (handL p j).length := by
  obtain rfl | rfl : j = 0 ∨ j = 1 := by omega
  · rfl
  · rfl
theorem IsSl.parts {xs : List Int} {w : World} {v : Value} (h : IsSl IntAt 1 w v xs) : ∃ a n c, v = .slice a n c ∧ n = xs.length ∧ n ≤ c ∧ ∀ W, Below w.heap.size w W → ∀ k, k < n → ∃ g o x, a = some ⟨g, o, none⟩ ∧ xs[k]? = some x ∧ W.cell? ⟨g, o + k, none⟩ = some (.int .i64 x) := by
  obtain ⟨n, hn⟩ : ∃ n, n = xs.length := ⟨_, rfl⟩
  obtain ⟨a, c, rfl, hc, hcell⟩ := h.shape hn
  refine ⟨a, n, c, rfl, hn, hc, fun W hb k hk => ?_⟩
  obtain ⟨g, o, x, e1, e2, e3⟩ := hcell k hk
  have h3 := int_keeps _ _ _ _ _ _ hb (Nat.le_refl _) e3
  rw [Nat.mul_one] at h3
  exact ⟨g, o, x, e1, e2, h3⟩
theorem idx_hand {a0 a1 : Option Addr} {n0 c0 n1 c1 j : Nat} (h : j < 2) : ∃ a n c, (∀ w, Sem.run Tryz.prog (Instr.index 27 (.agg #[.slice a0 n0 c0, .slice a1 n1 c1]) (.int .i64 (j : Int))) w = .ok (.slice a n c) w) ∧ (if j = 0 then (a = a0 ∧ n = n0 ∧ c = c0) else (a = a1 ∧ n = n1 ∧ c = c1)) := by
  obtain rfl | rfl : j = 0 ∨ j = 1 := by omega
  · exact ⟨a0, n0, c0, fun _ => by kernel_rfl, rfl, rfl, rfl⟩
  · exact ⟨a1, n1, c1, fun _ => by kernel_rfl, rfl, rfl, rfl⟩
set_option maxHeartbeats 4000000 in
theorem keyOf_any (p : PlaceD) (vc v0 v1 : Value) (w : World) (hp : PlaceIn w p vc v0 v1) (hf : KFit p) :
    Calls Tryz.prog 53 #[PlaceV p vc v0 v1] w (BelPost (.int .u64 ((keyZ p).toNat : Int)) w) := by
  obtain ⟨V, hV⟩ : ∃ V, V = w.alloc (.cells (PlaceCells p vc v0 v1) 29) := ⟨_, rfl⟩
  have hB : Below w.heap.size w V := by rw [hV]; exact (Below.refl _ _).alloc (Nat.le_refl _) _
  have hX : BoxP V w.heap.size p vc v0 v1 := by rw [hV]; exact boxP_new w p vc v0 v1 _
  have HB := Lib.hid hB
  obtain ⟨ca, cn, cc, rfl, hcn, hcc, hcs⟩ := hp.c.parts
  obtain ⟨a0, n0, c0, rfl, hn0, hc0, hcs0⟩ := hp.a.parts
  obtain ⟨a1, n1, c1, rfl, hn1, hc1, hcs1⟩ := hp.b.parts
  have HC := Lib.hid (hcs V hB)
  have HH : Hid (∀ j : Nat, j < 2 → ∃ a n c, (∀ w, Sem.run Tryz.prog (Instr.index 27 (.agg #[.slice a0 n0 c0, .slice a1 n1 c1]) (.int .i64 (j : Int))) w = .ok (.slice a n c) w) ∧ n = (handL p j).length ∧ n ≤ c ∧ n ≤ 100 ∧ ∀ k, k < n → ∃ g o x, a = some ⟨g, o, none⟩ ∧ (handL p j)[k]? = some x ∧ (0 ≤ x ∧ x ≤ 1000) ∧ V.cell? ⟨g, o + k, none⟩ = some (.int .i64 x)) := Lib.hid (fun j hj => by
    obtain ⟨a, n, c, hi, he⟩ := idx_hand (a0 := a0) (a1 := a1) (n0 := n0) (c0 := c0) (n1 := n1) (c1 := c1) hj
    refine ⟨a, n, c, hi, ?_⟩
    obtain rfl | rfl : j = 0 ∨ j = 1 := by omega
    · obtain ⟨rfl, rfl, rfl⟩ := he
      refine ⟨hn0, hc0, by rw [hn0]; exact hf.s.a, fun k hk => ?_⟩
      obtain ⟨g, o, x, e1, e2, e3⟩ := hcs0 V hB k hk
      exact ⟨g, o, x, e1, e2, hf.n0 x (List.mem_of_getElem? e2), e3⟩
    · obtain ⟨rfl, rfl, rfl⟩ := he
      refine ⟨hn1, hc1, by rw [hn1]; exact hf.s.b, fun k hk => ?_⟩
      obtain ⟨g, o, x, e1, e2, e3⟩ := hcs1 V hB k hk
      exact ⟨g, o, x, e1, e2, hf.n1 x (List.mem_of_getElem? e2), e3⟩)
  have HR : Hid (∀ (k : Nat) (x : Int), p.cells[k]? = some x → 0 ≤ x ∧ x ≤ 1000) := Lib.hid (fun k x h => hf.cs x (List.mem_of_getElem? h))
  have hcn1 : cn ≤ 100 := by rw [hcn]; exact hf.s.c
  have HCN := Lib.hid hcn
  obtain ⟨x0, x1, x2, x3, x4⟩ := hX
  have hV' := hV
  unfold PlaceCells at hV'
  unfold PlaceV PlaceCells
  clear hp hf hB hcs hcs0 hcs1 hn0 hn1 hc0 hc1 hV hcn
  go_enter Tryz.func53, Tryz.ntmps53
  go_wp2_with fail
  rw [← hV']
  clear hV'
  go_loopw [3, 4, 5, 13] (fun s _ _ i V2 => ∃ (k : Nat) (K : BitVec 64), k ≤ cn ∧ i = .int .i64 (k : Int) ∧ s = .int .u64 (K.toNat : Int) ∧ Hid (K = cellsK p.cells k) ∧ V = V2) (fun _ _ _ i _ => cn - (intOf i).toNat)
  case atStart => exact ⟨0, 0#64, by omega, rfl, rfl, Lib.hid rfl, by first | rfl | trivial⟩
  case round =>
    obtain ⟨k, K, hk, rfl, rfl, hK, rfl⟩ := hrel
    by_cases hlt : k < cn
    · obtain ⟨g, o, x, rfl, hx, c0⟩ := HC.out k hlt
      obtain ⟨r0, r1⟩ := HR.out k x hx
      obtain ⟨S, hS⟩ : ∃ S, S = cellsK p.cells (k + 1) := ⟨_, rfl⟩
      have hS2 : S = K + cellW k x := by rw [hS, cellsK, hx, hK.out]; rfl
      have HS := Lib.hid hS
      by_cases hz : x = 0
      · subst hz
        have e : K = S := by rw [hS2, cellW, if_pos rfl, BitVec.add_zero]
        subst e
        clear hS2 hS hx HC
        go_wp2_with fail
        go_roundw
        case rel => exact ⟨k + 1, K, by omega, by go_num, rfl, HS, by first | rfl | trivial⟩
        case measure => simp [intOf]; omega
      · obtain ⟨M, hM⟩ : ∃ M, M = mixZ (16 * (k : Int) + x) := ⟨_, rfl⟩
        have HM : Hid (∀ W, Calls Tryz.prog 40 #[.int .i64 (16 * (k : Int) + x)] W fun e w' => e = .returned (.int .u64 (M.toNat : Int)) ∧ W = w') := Lib.hid (fun W => by rw [hM]; exact turned (mix_any _ W))
        have e1 : IntKind.u64.wrap ((K.toNat : Int) + (M.toNat : Int)) = (S.toNat : Int) := by rw [b_add, hS2, cellW, if_neg hz, hM]
        have hne : (x != 0) = true := by simpa using hz
        clear hS2 hS hx HC hM
        go_wp2_with fail
        go_at_call 40; refine (HM.out _).mono ?_; rintro e w' ⟨rfl, rfl⟩
        go_wp2_with fail
        go_roundw
        case rel => exact ⟨k + 1, S, by omega, by go_num, rfl, HS, by first | rfl | trivial⟩
        case measure => simp [intOf]; omega
    · have hE : Hid (K = handsK p 0) := Lib.hid (by rw [hK.out, show k = cn by omega, HCN.out]; rfl)
      clear hK HC HR HCN
      go_wp2_with fail
      go_loopw [3, 6, 7, 8, 9, 30, 36] (fun s _ _ _ _ i _ V2 => ∃ (j : Nat) (K : BitVec 64), j ≤ 2 ∧ i = .int .i64 (j : Int) ∧ s = .int .u64 (K.toNat : Int) ∧ Hid (K = handsK p j) ∧ V = V2) (fun _ _ _ _ _ i _ _ => 2 - (intOf i).toNat)
      case atStart => exact ⟨0, K, by omega, rfl, rfl, hE, by first | rfl | trivial⟩
      case round =>
        clear hE hlt hk
        obtain ⟨j, K, hj, rfl, rfl, hK, rfl⟩ := hrel
        by_cases hjlt : j < 2
        · obtain ⟨ha, hn, hc, hix, hnn, hnc, hn100, hcell⟩ := HH.out j hjlt
          have hdj : decide ((j : Int) < 2) = true := by simp; omega
          have HCE := Lib.hid hcell
          have HNN := Lib.hid hnn
          obtain ⟨B, hBB⟩ : ∃ B : Int, B = 2000 + 8 * (j : Int) := ⟨_, rfl⟩
          have hB0 : 2000 ≤ B ∧ B ≤ 2008 := by omega
          obtain ⟨hB1, hB2⟩ := hB0
          have p1 : IntKind.i64.wrap (8 * (j : Int)) = 8 * (j : Int) := IntWalk.i64_in _ (by omega)
          have p2 : IntKind.i64.wrap (2000 + 8 * (j : Int)) = B := by rw [IntWalk.i64_in _ (by omega), hBB]
          have HBB : Hid (B = 2000 + 8 * (j : Int)) := Lib.hid hBB
          clear hcell hnn hBB
          go_wp2_with fail
          go_loopw [3, 8, 9, 36] (fun s _ _ i V2 => ∃ (k : Nat) (L : BitVec 64), k ≤ hn ∧ i = .int .i64 (k : Int) ∧ s = .int .u64 (L.toNat : Int) ∧ Hid (L = K + handK B (handL p j) k) ∧ V = V2) (fun _ _ _ i _ => hn - (intOf i).toNat)
          case atStart => exact ⟨0, K, by omega, rfl, rfl, Lib.hid (by rw [handK, BitVec.add_zero]), by first | rfl | trivial⟩
          case round =>
            obtain ⟨k, L, hk, rfl, rfl, hL, rfl⟩ := hrel
            by_cases hlt : k < hn
            · obtain ⟨g, o, x, rfl, hx, ⟨r0, r1⟩, c0⟩ := HCE.out k hlt
              obtain ⟨S, hS⟩ : ∃ S, S = K + handK B (handL p j) (k + 1) := ⟨_, rfl⟩
              obtain ⟨M, hM⟩ : ∃ M, M = mixZ (B + (k : Int)) := ⟨_, rfl⟩
              obtain ⟨N, hN⟩ : ∃ N, N = BitVec.ofInt 64 x := ⟨_, rfl⟩
              obtain ⟨P, hP⟩ : ∃ P, P = M * N := ⟨_, rfl⟩
              have HM : Hid (∀ W, Calls Tryz.prog 40 #[.int .i64 (B + (k : Int))] W fun e w' => e = .returned (.int .u64 (M.toNat : Int)) ∧ W = w') := Lib.hid (fun W => by rw [hM]; exact turned (mix_any _ W))
              have e0 : IntKind.u64.wrap x = (N.toNat : Int) := by rw [b_of, hN]
              have e1 : IntKind.u64.wrap ((M.toNat : Int) * (N.toNat : Int)) = (P.toNat : Int) := by rw [b_mul, hP]
              have e2 : IntKind.u64.wrap ((L.toNat : Int) + (P.toNat : Int)) = (S.toNat : Int) := by rw [b_add, hS, hL.out, handK, hx, hP, hM, hN, BitVec.add_assoc]; rfl
              have HS := Lib.hid hS
              clear hS hM hN hP hx
              go_wp2_with fail
              go_at_call 40; refine (HM.out _).mono ?_; rintro e w' ⟨rfl, rfl⟩
              go_wp2_with fail
              go_roundw
              case rel => exact ⟨k + 1, S, by omega, by go_num, rfl, HS, by first | rfl | trivial⟩
              case measure => simp [intOf]; omega
            · have hE : Hid (L = handsK p (j + 1)) := Lib.hid (by rw [hL.out, handsK_succ p hjlt, hK.out, show k = hn by omega, HNN.out, HBB.out])
              clear hL HCE HNN
              go_wp2_with fail
              go_roundw
              case rel => first | exact ⟨j + 1, L, by omega, by go_num, rfl, hE, by first | rfl | trivial⟩ | ((repeat apply Exists.intro); exact ⟨⟨j + 1, L, by omega, by go_num, rfl, hE, by first | rfl | trivial⟩, rfl⟩)
              case measure => simp [intOf]; omega
        · have hE : Hid (K = handsK p 2) := Lib.hid (by rw [hK.out, show j = 2 by omega])
          have hdj : decide ((j : Int) < 2) = false := by simp; omega
          clear hK HH
          by_cases ht : p.turn = 1
          · obtain ⟨M, hM⟩ : ∃ M, M = mixZ 3000 := ⟨_, rfl⟩
            obtain ⟨S, hS⟩ : ∃ S, S = keyZ p := ⟨_, rfl⟩
            have HM : Hid (∀ W, Calls Tryz.prog 40 #[.int .i64 3000] W fun e w' => e = .returned (.int .u64 (M.toNat : Int)) ∧ W = w') := Lib.hid (fun W => by rw [hM]; exact turned (mix_any _ W))
            have e1 : IntKind.u64.wrap ((K.toNat : Int) + (M.toNat : Int)) = (S.toNat : Int) := by rw [b_add, hS, keyZ, turnK, if_pos ht, hE.out, hM]
            have hte : (p.turn == 1) = true := by simpa using ht
            have KS : Hid ((S.toNat : Int) = ((keyZ p).toNat : Int)) := Lib.hid (by rw [hS])
            clear hS hM ht
            go_wp2_with fail
            go_at_call 40; refine (HM.out _).mono ?_; rintro e w' ⟨rfl, rfl⟩
            go_wp2_with fail
            go_ret
            exact ⟨retW KS.out, HB.out⟩
          · have hS : keyZ p = K := by rw [keyZ, turnK, if_neg ht, BitVec.add_zero, hE.out]
            have hte : (p.turn == 1) = false := by simpa using ht
            have KS : Hid ((K.toNat : Int) = ((keyZ p).toNat : Int)) := Lib.hid (by rw [hS])
            clear hS ht
            go_wp2_with fail
            go_ret
            exact ⟨retW KS.out, HB.out⟩
end Go.Proofs.YtiligppdfldlfaaGreatDoor
