/- bits.All: the iterator's contract (the squares in increasing order), with the contracts of the functions that it calls. -/
import Derived.RangeFuncNested
import Derived.RangeFuncBound
import Derived.RangeFuncCalls
import Derived.RangeFuncLeaves
import Derived.RangeFuncFrom
import Derived.Shelf.Abstract
import Derived.Shelf.RegionOpen
import Derived.WalkKit
import Derived.OwnWalkIn
import Derived.TacticsInMore
import Derived.LoopNIn
import Derived.LoopIn
import Derived.Test.YtffnnpjgfjkmjaaDoorSquares
namespace Go.Proofs.YtffnnpjgfjkmjaaDoor
open Go.RowKit Go.Shelf
attribute [local go_sem] Oper.semAt_some

/-- The library's table lies where the program's text lays it. -/
def Tab (w : World) : Prop := ∀ i : Nat, i < 64 → w.cell? ⟨0, i, none⟩ = some (.int .u8 ((Lib.deBruijn64tab.getD i 0 : Nat) : Int))
theorem Tab.below {n : Nat} {w w' : World} (h : Tab w) (hb : Below n w w') (hn : 0 < n) : Tab w' := fun i hi => (hb.cell (p := ⟨0, i, none⟩) hn).trans (h i hi)
theorem Tab.size {w : World} (h : Tab w) : 0 < w.heap.size := by
  have := World.block_lt_of_cell? _ _ (h 0 (by omega)); exact this

set_option maxRecDepth 100000 in
theorem tz_any (b : BitVec 64) (h0 : b ≠ 0#64) (w : World) (ht : Tab w) :
    Calls Tryd.prog 24 #[.int .u64 (b.toNat : Int)] w fun e w' => e = .returned (.int .i64 (tzW b : Int)) ∧ w' = w := by
  obtain ⟨k, hk⟩ : ∃ k : Nat, k = tzW b := ⟨_, rfl⟩
  have h64 : k < 64 := by rw [hk]; exact (leastW_bit b h0).2
  obtain ⟨n, hn⟩ : ∃ n : Nat, n = 2 ^ k * 285870213051353865 % 18446744073709551616 / 288230376151711744 := ⟨_, rfl⟩
  have hat := Lib.deBruijn64_at k h64
  rw [← hn] at hat
  have hc : w.cell? ⟨0, n, none⟩ = some (.int .u8 (k : Int)) := by rw [ht n hat.1, hat.2]
  have hexp : IntKind.u64.wrap (bits BinOp.and IntKind.u64 (b.toNat : Int) (IntKind.u64.wrap (-(b.toNat : Int))) * 285870213051353865) / 288230376151711744 = (n : Int) := by rw [table_at b h0, ← hk, ← hn]
  have hz := (int_ne_zero h0).1
  have hn64 : n < 64 := hat.1
  rw [← hk]
  clear hat hn hk ht h0
  go_enter Tryd.func24, Tryd.ntmps24
  go_wp2
  go_ret
  exact ⟨rfl, rfl⟩
theorem least_any (b : BitVec 64) (w : World) :
    Calls Tryd.prog 23 #[.int .u64 (b.toNat : Int)] w fun e w' => e = .returned (.int .u64 ((leastW b).toNat : Int)) ∧ w' = w := by
  have K : Hid (bits BinOp.and IntKind.u64 (b.toNat : Int) (IntKind.u64.wrap (-(b.toNat : Int))) = ((leastW b).toNat : Int)) := Lib.hid (by rw [b_neg, b_and, leastW])
  go_enter Tryd.func23, Tryd.ntmps23
  go_wp2
  go_ret
  exact ⟨ret_u64 K.out, rfl⟩

theorem c_new (W : World) (v : Value) (t : TypeId) : (W.alloc (.cells #[v] t)).cell? ⟨W.heap.size, 0, none⟩ = some v := by simp [go_sem]
theorem c_more {W : World} {a : Addr} {v : Value} (o : Obj) (h : W.cell? a = some v) : (W.alloc o).cell? a = some v := cell_kept h (World.grownBy_alloc W o none) (fun r e => by cases e)
theorem f_more {W : World} {a : Addr} {v : Value} (o : Obj) (h : W.cell? a = some v) (hf : W.frozen? a = false) : (W.alloc o).frozen? a = false :=
  (frozen_kept h (World.grownBy_alloc W o none) (fun r e => by cases e)).trans hf
theorem f_new (W : World) (v : Value) (t : TypeId) : (W.alloc (.cells #[v] t)).frozen? ⟨W.heap.size, 0, none⟩ = false := by simp [go_sem]

/-- The library's table holds what it held. -/
def KeepsTab (A B : World) : Prop := ∀ (i : Nat) v, A.cell? ⟨0, i, none⟩ = some v → B.cell? ⟨0, i, none⟩ = some v
theorem keepsTab_t {A B C : World} (h : KeepsTab A B) (k : KeepsTab B C) : KeepsTab A C := fun i v e => k i v (h i v e)
theorem keepsTab_b (W : World) (l : Nat) (o o' : Obj) (h : W.heap[l]? = some o) (hc : o.isCells = false) : KeepsTab W (W.putObj l o') :=
  fun _ _ e => cell_kept e (grownBy_putObj' W l o') (fun r e' => by cases e'; exact ⟨_, h, hc⟩)
theorem keepsTab_below {n : Nat} {A B : World} (h : Below n A B) (hn : 0 < n) : KeepsTab A B := fun i _ e => (h.cell (p := ⟨0, i, none⟩) hn).trans e
theorem Tab.keeps {A B : World} (h : Tab A) (k : KeepsTab A B) : Tab B := fun i hi => k i _ (h i hi)

set_option maxRecDepth 100000 in
set_option maxHeartbeats 2000000 in
theorem all1_in (n : Nat) (hn : 1 ≤ n) (l Bs N : Nat) (b : BitVec 64) (hN : Hid (N = (squares b).length)) (J Jx : List Nat → World → Prop)
    (hY : ∀ pre (x : Nat) W, J pre W → pre.length < N → YieldAt Fence.wide (n - 1) Tryd.prog l #[.int .i64 (x : Int)] W fun e W' =>
      (e = .returned (.bool true) ∧ J (pre ++ [x]) W' ∧ KeepsTab W W') ∨ (e = .returned (.bool false) ∧ Jx (pre ++ [x]) W'))
    (W : World) (hT : Tab W) (hBs : W.cell? ⟨Bs, 0, none⟩ = some (.int .u64 (b.toNat : Int))) (h0 : J [] W) :
    CallsIn Fence.wide n Tryd.prog 22 #[.func (.yield l) #[] #[], .pointer (some ⟨Bs, 0, none⟩)] W fun e W' => (∃ v, e = .returned v) ∧
      ((∃ ys, ys = squares b ∧ J ys W') ∨ (∃ pre, pre <+: squares b ∧ Jx pre W')) := by
  refine callsIn_of_wp Tryd.func22 rfl trivial ?_ rfl
  simp only [Tryd.ntmps22, List.size_toArray, List.length_cons, List.length_nil, Nat.reduceAdd, Nat.reduceSub, Array.replicate_succ, Array.replicate_zero, List.push_toArray, List.append_toArray, List.nil_append, List.cons_append]
  have HT : Hid (Tab W) := Lib.hid hT
  clear hT
  gi_wp2
  gi_loopw [3] (fun s wr => ∃ (r : BitVec 64) (pre : List Nat), s = .int .u64 (r.toNat : Int) ∧ Hid (pre ++ squares r = squares b) ∧ J pre wr ∧ Hid (Tab wr)) (fun s _ => (intOf s).toNat)
  case atStart => exact ⟨b, [], rfl, Lib.hid rfl, h0, HT⟩
  case round =>
    clear HT
    obtain ⟨r, pre, rfl, hpre, hJs, HT⟩ := hrel
    by_cases hr : r = 0#64
    · have hz := (int_zero hr).2
      have hend : Hid (pre = squares b) := Lib.hid (by have := hpre.out; rw [hr, squares_zero] at this; simpa using this)
      clear hr
      gi_wp2
      go_end0
      exact ⟨⟨_, rfl⟩, .inl ⟨_, hend.out, hJs⟩⟩
    · have hz := (int_ne_zero hr).2
      have hcons := squares_cons r hr
      have hlen : pre.length < N := by
        have h1 := hpre.out
        rw [hcons] at h1
        rw [hN.out, ← h1, List.length_append, List.length_cons]; omega
      have HR : Hid (r ≠ 0#64) := Lib.hid hr
      obtain ⟨fn, tmps, assign, body, hy, hR⟩ := hY _ (tzW r) wr hJs hlen
      have hnext : Hid ((pre ++ [tzW r]) ++ squares (dropW r) = squares b) := Lib.hid (by rw [← hpre.out, hcons, List.append_assoc]; rfl)
      have hdrop : Hid (bits BinOp.andNot IntKind.u64 (r.toNat : Int) ((leastW r).toNat : Int) = ((dropW r).toNat : Int)) := Lib.hid (by rw [b_andNot, dropW])
      have hlt : Hid ((dropW r).toNat < r.toNat) := Lib.hid (dropW_toNat r hr)
      clear hcons hr hlen
      gi_wp2_with (first
        | (refine ⟨trivial, ?_⟩; gi_at_call 24; refine (callsIn_wide.2 (tz_any r HR.out _ HT.out)).mono ?_; rintro e w' ⟨rfl, rfl⟩)
        | (refine ⟨trivial, ?_⟩; gi_at_call 23; refine (callsIn_wide.2 (least_any r _)).mono ?_; rintro e w' ⟨rfl, rfl⟩))
      refine hR.mono ?_
      rintro e W3 (⟨rfl, hJ3, hk3⟩ | ⟨rfl, hJx3⟩)
      · have HT3 : Hid (Tab W3) := Lib.hid (HT.out.keeps hk3)
        clear hk3
        gi_wp2_with (refine ⟨trivial, ?_⟩; gi_at_call 23; refine (callsIn_wide.2 (least_any r _)).mono ?_; rintro e w' ⟨rfl, rfl⟩)
        go_roundw
        case rel => exact ⟨dropW r, pre ++ [tzW r], by rw [hdrop.out], hnext, hJ3, HT3⟩
        case measure => rw [hdrop.out]; simp only [intOf, Int.toNat_natCast]; exact hlt.out
      · gi_wp2
        refine bodyPost_ret (results_none rfl _ _ _) rfl ?_
        exact ⟨⟨_, rfl⟩, .inr ⟨_, ⟨squares (dropW r), hnext.out⟩, hJx3⟩⟩
/-- The iterator that bits.All hands back. -/
theorem all_stops (n : Nat) (hn : 1 ≤ n) (Bs N : Nat) (b : BitVec 64) (hN : Hid (N = (squares b).length)) (w : World) (hT : Tab w) (hlt : Bs < w.heap.size) (hBs : w.cell? ⟨Bs, 0, none⟩ = some (.int .u64 (b.toNat : Int))) :
    SeqStopsK Fence.wide n Tryd.prog 22 #[.pointer (some ⟨Bs, 0, none⟩)] (fun x : Nat => #[Value.int .i64 (x : Int)]) KeepsTab
      (fun ys => ys = squares b) (fun pre => pre <+: squares b) N w :=
  fun l J Jx W hW _ _ hY h0 => all1_in n hn l Bs N b hN J Jx hY W (hT.below hW hT.size) ((hW.cell (p := ⟨Bs, 0, none⟩) hlt).trans hBs) h0
theorem all_in (n : Nat) (b : BitVec 64) (w : World) :
    CallsIn Fence.wide n Tryd.prog 10 #[.int .u64 (b.toNat : Int)] w fun e w' =>
      e = .returned (.func (.func 22) #[] #[.pointer (some ⟨w.heap.size, 0, none⟩)]) ∧ w' = w.alloc (.cells #[.int .u64 (b.toNat : Int)] 22) := by
  refine callsIn_of_wp Tryd.func10 rfl trivial ?_ rfl
  simp only [Tryd.ntmps10, List.size_toArray, List.length_cons, List.length_nil, Nat.reduceAdd, Nat.reduceSub, Array.replicate_succ, Array.replicate_zero, List.push_toArray, List.append_toArray, List.nil_append, List.cons_append]
  gi_wp2
  go_ret
  exact ⟨rfl, rfl⟩
end Go.Proofs.YtffnnpjgfjkmjaaDoor
