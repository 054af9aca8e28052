/- bits.Subsets: the iterator's contract: it hands out the subsets one after the other, whatever the loop's body does, as long as the body leaves its box alone. -/
import Derived.RangeFuncNested
import Derived.RangeFuncBound
import Derived.RangeFuncCalls
import Derived.RangeFuncLeaves
import Derived.RangeFuncFrom
import Derived.Shelf.Abstract
import Derived.Shelf.RegionOpen
import Derived.WalkKit
import Derived.OwnWalkIn
import Derived.TacticsInMore
import Derived.LoopNIn
import Derived.LoopIn
import Derived.Test.YtffnnpjgfjkmjaaRay
import Derived.Test.YtffnnpjgfjkmjaaSubs
namespace Go.Proofs.Ytffnnpjgfjkmjaa
open Go.RowKit Go.Shelf
attribute [local go_sem] Oper.semAt_some

/-- What has come when k rounds are over: f 0, .., f (k - 1). -/
def upto {α : Type} (f : Nat → α) (k : Nat) : List α := (List.range k).map f
theorem upto_succ {α : Type} (f : Nat → α) (k : Nat) : upto f (k + 1) = upto f k ++ [f k] := by simp [upto, List.range_succ]
theorem upto_length {α : Type} (f : Nat → α) (k : Nat) : (upto f k).length = k := by simp [upto]
theorem upto_zero {α : Type} (f : Nat → α) : upto f 0 = [] := rfl
theorem c_new (W : World) (v : Value) (t : TypeId) : (W.alloc (.cells #[v] t)).cell? ⟨W.heap.size, 0, none⟩ = some v := by simp [go_sem]
theorem c_more {W : World} {a : Addr} {v : Value} (o : Obj) (h : W.cell? a = some v) : (W.alloc o).cell? a = some v := cell_kept h (World.grownBy_alloc W o none) (fun r e => by cases e)
theorem f_more {W : World} {a : Addr} {v : Value} (o : Obj) (h : W.cell? a = some v) (hf : W.frozen? a = false) : (W.alloc o).frozen? a = false :=
  (frozen_kept h (World.grownBy_alloc W o none) (fun r e => by cases e)).trans hf
theorem f_new (W : World) (v : Value) (t : TypeId) : (W.alloc (.cells #[v] t)).frozen? ⟨W.heap.size, 0, none⟩ = false := by simp [go_sem]
/-- The box Bs holds what it held. -/
def KeepsBox (Bs : Nat) (A B : World) : Prop := ∀ v, A.cell? ⟨Bs, 0, none⟩ = some v → B.cell? ⟨Bs, 0, none⟩ = some v
theorem keepsBox_t {Bs : Nat} {A B C : World} (h : KeepsBox Bs A B) (k : KeepsBox Bs B C) : KeepsBox Bs A C := fun v e => k v (h v e)
theorem keepsBox_b {Bs : Nat} (W : World) (l : Nat) (o o' : Obj) (h : W.heap[l]? = some o) (hc : o.isCells = false) : KeepsBox Bs W (W.putObj l o') :=
  fun _ e => cell_kept e (grownBy_putObj' W l o') (fun r e' => by cases e'; exact ⟨_, h, hc⟩)

set_option maxRecDepth 100000 in
set_option maxHeartbeats 2000000 in
theorem subsets1_in (n : Nat) (hn : 1 ≤ n) (l Bs M : Nat) (b : BitVec 64) (hM : Hid (M = many b)) (J Jx : List (BitVec 64) → World → Prop)
    (hY : ∀ pre x W, J pre W → pre.length < M → YieldAt Fence.wide (n - 1) Try.prog l #[.int .u64 (x.toNat : Int)] W fun e W' =>
      (e = .returned (.bool true) ∧ J (pre ++ [x]) W' ∧ KeepsBox Bs W W') ∨ (e = .returned (.bool false) ∧ Jx (pre ++ [x]) W'))
    (W : World) (hBs : W.cell? ⟨Bs, 0, none⟩ = some (.int .u64 (b.toNat : Int))) (h0 : J [] W) :
    CallsIn Fence.wide n Try.prog 19 #[.func (.yield l) #[] #[], .pointer (some ⟨Bs, 0, none⟩)] W fun e W' => (∃ v, e = .returned v) ∧
      ((∃ ys, ys = upto (subW b) M ∧ J ys W') ∨ (∃ pre, (∃ k, k ≤ M ∧ pre = upto (subW b) k) ∧ Jx pre W')) := by
  refine callsIn_of_wp Try.func19 rfl trivial ?_ rfl
  simp only [Try.ntmps19, List.size_toArray, List.length_cons, List.length_nil, Nat.reduceAdd, Nat.reduceSub, Array.replicate_succ, Array.replicate_zero, List.push_toArray, List.append_toArray, List.nil_append, List.cons_append]
  have hpos : 0 < M := by rw [hM.out]; exact many_pos b
  gi_wp2
  gi_loopw [3] (fun s wr => ∃ k : Nat, k < M ∧ s = .int .u64 ((subW b k).toNat : Int) ∧ J (upto (subW b) k) wr ∧ wr.cell? ⟨Bs, 0, none⟩ = some (.int .u64 (b.toNat : Int)))
    (fun s _ => b.toNat - (intOf s).toNat)
  case atStart => exact ⟨0, hpos, by rw [subW_zero]; rfl, h0, hBs⟩
  case round =>
    obtain ⟨k, hk, rfl, hJs, hbx⟩ := hrel
    obtain ⟨fn, tmps, assign, body, hy, hR⟩ := hY _ (subW b k) wr hJs (by rw [upto_length]; exact hk)
    by_cases hlast : k + 1 < M
    · have hne : (((subW b k).toNat : Int) != (b.toNat : Int)) = true := by
        have := subW_ne b k (hM.out ▸ hlast)
        simp only [bne_iff_ne, ne_eq]; exact fun e => this (toNat_inj_int.1 e)
      have hnext : Hid (bits BinOp.and IntKind.u64 (IntKind.u64.wrap (((subW b k).toNat : Int) - (b.toNat : Int))) (b.toNat : Int) = ((subW b (k + 1)).toNat : Int)) :=
        Lib.hid (by rw [b_sub, b_and, subW_next b k (hM.out ▸ hlast)])
      have hlt : Hid ((subW b k).toNat < (subW b (k + 1)).toNat ∧ (subW b (k + 1)).toNat ≤ b.toNat) :=
        Lib.hid ⟨subW_lt b k (k + 1) (by omega) (hM.out ▸ hlast), by rw [subW_nat]; exact dep_le _ _ _⟩
      gi_wp2
      refine hR.mono ?_
      rintro e W3 (⟨rfl, hJ3, hk3⟩ | ⟨rfl, hJx3⟩)
      · have hb3 := hk3 _ hbx
        gi_wp2
        go_roundw
        case rel => exact ⟨k + 1, hlast, by rw [hnext.out], by rw [upto_succ]; exact hJ3, hb3⟩
        case measure => rw [hnext.out]; simp only [intOf, Int.toNat_natCast]; have := hlt.out; omega
      · gi_wp2
        go_end0
        exact ⟨⟨_, rfl⟩, .inr ⟨_, ⟨k + 1, by omega, (upto_succ _ _).symm⟩, hJx3⟩⟩
    · have he : (((subW b k).toNat : Int) != (b.toNat : Int)) = false := by
        have hl := subW_last b
        rw [← hM.out, show M - 1 = k by omega] at hl
        rw [hl]; simp
      have hkM : M = k + 1 := by omega
      have HK : Hid _ := Lib.hid hkM
      clear hkM hlast
      gi_wp2
      refine hR.mono ?_
      rintro e W3 (⟨rfl, hJ3, hk3⟩ | ⟨rfl, hJx3⟩)
      · have hb3 := hk3 _ hbx
        gi_wp2
        go_end0
        exact ⟨⟨_, rfl⟩, .inl ⟨_, rfl, by rw [HK.out, upto_succ]; exact hJ3⟩⟩
      · gi_wp2
        go_end0
        exact ⟨⟨_, rfl⟩, .inr ⟨_, ⟨k + 1, by have := HK.out; omega, (upto_succ _ _).symm⟩, hJx3⟩⟩
/-- The iterator that bits.Subsets hands back. -/
theorem subsets_stops (n : Nat) (hn : 1 ≤ n) (Bs M : Nat) (b : BitVec 64) (hM : Hid (M = many b)) (w : World) (hlt : Bs < w.heap.size) (hBs : w.cell? ⟨Bs, 0, none⟩ = some (.int .u64 (b.toNat : Int))) :
    SeqStopsK Fence.wide n Try.prog 19 #[.pointer (some ⟨Bs, 0, none⟩)] (fun x : BitVec 64 => #[Value.int .u64 (x.toNat : Int)]) (KeepsBox Bs)
      (fun ys => ys = upto (subW b) M) (fun pre => ∃ k, k ≤ M ∧ pre = upto (subW b) k) M w :=
  fun l J Jx W hW _ _ hY h0 => subsets1_in n hn l Bs M b hM J Jx hY W ((hW.cell (p := ⟨Bs, 0, none⟩) hlt).trans hBs) h0
theorem subsets_in (n : Nat) (b : BitVec 64) (w : World) :
    CallsIn Fence.wide n Try.prog 11 #[.int .u64 (b.toNat : Int)] w fun e w' =>
      e = .returned (.func (.func 19) #[] #[.pointer (some ⟨w.heap.size, 0, none⟩)]) ∧ w' = w.alloc (.cells #[.int .u64 (b.toNat : Int)] 22) := by
  refine callsIn_of_wp Try.func11 rfl trivial ?_ rfl
  simp only [Try.ntmps11, List.size_toArray, List.length_cons, List.length_nil, Nat.reduceAdd, Nat.reduceSub, Array.replicate_succ, Array.replicate_zero, List.push_toArray, List.append_toArray, List.nil_append, List.cons_append]
  gi_wp2
  go_ret
  exact ⟨rfl, rfl⟩
end Go.Proofs.Ytffnnpjgfjkmjaa
