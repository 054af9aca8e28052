/- Merged by merge.py of the texts Mirror POther. -/
import Derived.Test.YtdhhdkbnlddnbaaGreatDoorRulB
import Derived.Laws.ResultCell
import Derived.Test.YtdhhdkbnlddnbaaGreatDoorPlcA
namespace Go.Proofs.YtdhhdkbnlddnbaaGreatDoor
open Go.ChangeShapes Go.WideShapes Go.ChangeAt Go.RowKit

theorem results_row_tmp {P : Program} {fn : Func} {p u : Tmp} {ty : TypeId} (h : fn.results = #[.cell p ty, .tmp u]) (tmps : Array Value) (w : World) (g : Nat) (t : TypeId) (cs : Array Value) (fr : Nat × Nat) (d : TypeDesc)
    (hp : tmps.getD p undef = .pointer (some ⟨g, 0, none⟩)) (hg : w.heap[g]? = some (.cells cs t fr))
    (hu : P.underlying ty = some d) (hd : (match d with | .struct _ | .array _ _ => true | _ => false) = true) (hi : (P.info? ty).map (·.size) = some cs.size) :
    (results fn tmps).run P w = .ok (.tuple #[.agg cs, tmps.getD u undef]) w := by
  rw [results_cell_tmp h, hp]
  simp [asAddr, run_loadVar_row w g t ty cs fr d hg hu hd hi, Result.andThen]
def MirBad (r : RulesD) (w : World) (e : Ending) (w' : World) : Prop := e = .returned (.tuple #[RulesV zero0 (.slice none 0 0) (.slice none 0 0) (.slice none 0 0), .int .i64 (rulesE r)]) ∧ Below w.heap.size w w'

def MirOk (r : RulesD) (w : World) (e : Ending) (w' : World) : Prop := ∃ vp vs ve, e = .returned (.tuple #[RulesV (mirD r) vp vs ve, .int .i64 0]) ∧ RulesIn w' (mirD r) vp vs ve ∧ Below w.heap.size w w'
/-- The same; and the cells lie in a block of their own. -/
def MirOkB (r : RulesD) (w : World) (e : Ending) (w' : World) : Prop := ∃ vp vs ve, e = .returned (.tuple #[RulesV (mirD r) vp vs ve, .int .i64 0]) ∧ RulesIn w' (mirD r) vp vs ve ∧ Below w.heap.size w w' ∧ ∃ g n c, vs = .slice (some ⟨g, 0, none⟩) n c ∧ w.heap.size ≤ g
/-- Neither the new start's block nor the result's own. -/
def Off (w : World) (gs k : Nat) : Prop := k ≠ gs ∧ k ≠ w.heap.size + 1
def MInv (r : RulesD) (W H : Nat) (w : World) (b3 gs A cs : Nat) (vp vs ve vp' ve' : Value) (k : Nat) (V : World) : Prop :=
  (RBox V w.heap.size 26 r vp vs ve ∧ RBox V (w.heap.size + 1) 26 zero0 (.slice none 0 0) (.slice none 0 0) (.slice none 0 0) ∧ RBox V b3 26 r vp' (.slice (some ⟨gs, 0, none⟩) A cs) ve') ∧
    V.ownsRow (w.heap.size + 2) 3 1 (.slice (some ⟨gs, 0, none⟩) A cs) A ((mirTo W H r.start k).map (.int .i64)) ∧ IsSl (Blk (Off w gs) (PieceIn (Off w gs))) 4 V vp' r.pieces ∧ IsSl (Blk (Off w gs) EndAt) 4 V ve' r.ends ∧ Below w.heap.size w V
theorem MInv.below {r : RulesD} {W H : Nat} {w : World} {b3 gs A cs : Nat} {vp vs ve vp' ve' : Value} {k : Nat} {V V' : World} (h : MInv r W H w b3 gs A cs vp vs ve vp' ve' k V) (hb : Below V.heap.size V V') : MInv r W H w b3 gs A cs vp vs ve vp' ve' k V' := by
  obtain ⟨⟨h1, h2, h3⟩, h4, h5, h6, h7⟩ := h
  exact ⟨⟨h1.below hb (Array.getElem?_eq_some_iff.1 h1).1, h2.below hb (Array.getElem?_eq_some_iff.1 h2).1, h3.below hb (Array.getElem?_eq_some_iff.1 h3).1⟩, own_below h4 hb, h5.mono fun g o x h => ⟨h.1, pieceIn_keeps _ _ _ _ _ _ _ hb (Nat.le_refl _) h.2⟩, h6.mono fun g o x h => ⟨h.1, end_keeps _ _ _ _ _ _ hb (Nat.le_refl _) h.2⟩, h7.trans (hb.mono h7.size)⟩
theorem MInv.put {r : RulesD} {W H : Nat} {w : World} {b3 gs A cs : Nat} {vp vs ve vp' ve' : Value} {k m : Nat} {x : Int} {V : World} (h : MInv r W H w b3 gs A cs vp vs ve vp' ve' k V) (hgs : w.heap.size + 2 ≤ gs) (hb3 : gs < b3) (hW : 0 < W) (hk : k < W * H) (hx : r.start[k]? = some x) (hm : mirSq W H k = m) :
    MInv r W H w b3 gs A cs vp vs ve vp' ve' (k + 1) (V.setCell ⟨gs, m, none⟩ (.int .i64 (exch x))) := by
  obtain ⟨⟨h1, h2, h3⟩, h4, h5, h6, h7⟩ := h
  have hs : Stays (fun b => b ≠ gs) V (V.setCell ⟨gs, m, none⟩ (.int .i64 (exch x))) := (Stays.of (Below.refl _ V)).set (by simp) _
  refine ⟨⟨h1.other (by simp; omega) _, h2.other (by simp; omega) _, h3.other (by simp; omega) _⟩, ?_, h5.mono fun g o y h => ⟨h.1, hs.piece (fun b hb => hb.1) h.1.1 h.2⟩, h6.mono fun g o y h => hs.endd (fun b hb => hb.1) h, h7.setCell (by simp; omega) _⟩
  have h8 := (h4.stored m (.int .i64 (exch x))).1
  have h9 := mirTo_set (W := W) (H := H) hW (st := r.start) hk
  rw [hx, hm] at h9
  rw [show (some x).getD 0 = x from rfl] at h9
  rw [← h9]
  exact h8
theorem ints_of_own {W : World} {B : Nat} {e : TypeId} {g n cap : Nat} {st : List Int} (h : W.ownsRow B e 1 (.slice (some ⟨g, 0, none⟩) n cap) n (st.map (.int .i64))) (hn : n = st.length) : IsSl IntAt 1 W (.slice (some ⟨g, 0, none⟩) n cap) st := by
  by_cases h0 : st = []
  · exact .inl ⟨h0, _, _, by rw [hn, h0]; rfl⟩
  · refine .inr ⟨g, 0, cap, by rw [hn], h0, by rw [← hn]; exact own_cap h, own_max h, fun i x hx => ?_⟩
    have hi := (List.getElem?_eq_some_iff.1 hx).1
    have h2 := h.cellAt i (by omega)
    rw [List.getElem?_map, hx] at h2
    rw [IntAt, Nat.zero_add, Nat.mul_one]
    exact h2
end Go.Proofs.YtdhhdkbnlddnbaaGreatDoor

set_option maxRecDepth 100000
namespace Go.Proofs.YtdhhdkbnlddnbaaGreatDoor
open Go.ChangeShapes Go.WideShapes Go.ChangeAt Go.RowKit

theorem two_facts {W : World} {b : Nat} {x y : Value} {t : TypeId} (h : W.heap[b]? = some (.cells #[x, y] t (0, 0))) : W.cell? ⟨b, 0, none⟩ = some x ∧ W.cell? ⟨b, 1, none⟩ = some y ∧ W.frozen? ⟨b, 0, none⟩ = false ∧ W.frozen? ⟨b, 1, none⟩ = false := by
  have hc : ∀ i, W.cell? ⟨b, i, none⟩ = (#[x, y] : Array Value)[i]? := fun i => cell_of_row W b i _ t (0, 0) h
  have hf : ∀ i, W.frozen? ⟨b, i, none⟩ = false := fun i => frozen_of_row W b i _ t h
  exact ⟨hc 0, hc 1, hf 0, hf 1⟩
theorem hA_of {w6 w7 : World} {o : Obj} (hb : Below (w6.alloc o).heap.size (w6.alloc o) w7) : w7.heap[w6.heap.size]? = some o := (hb.block _ (by simp)).trans (heap_alloc_new w6 o)
theorem hA_on {b : Nat} {W W' : World} {o : Obj} (h : W.heap[b]? = some o) (hb : Below W.heap.size W W') : W'.heap[b]? = some o := (hb.block _ (Array.getElem?_eq_some_iff.1 h).1).trans h
theorem off_of {g b : Nat} (h : b < g) (V : World) (o i : Nat) (z : Value) : (V.setCell ⟨g, o, none⟩ z).cell? ⟨b, i, none⟩ = V.cell? ⟨b, i, none⟩ := World.cell?_setCell_other _ _ _ _ (fun e => by rw [Addr.mk.injEq] at e; omega)
theorem hA_dr {w5 w6 : World} {o : Obj} (hb : Below (w5.alloc o).drew.heap.size (w5.alloc o).drew w6) : w6.heap[w5.heap.size]? = some o := (hb.block _ (show w5.heap.size < (w5.alloc o).heap.size by simp)).trans (heap_alloc_new w5 o)
/-- What is there behind two slices and a block that holds them. -/
structure TwoEnd (w5 W : World) (b : Nat) (s6 s7 : Value) (xs ys : List Int) : Prop where
  bel : Below w5.heap.size w5 W
  arr : W.heap[b]? = some (.cells #[s6, s7] 27 (0, 0))
  x6 : IsSl (Blk (fun k => w5.heap.size ≤ k) IntAt) 1 W s6 xs
  x7 : IsSl (Blk (fun k => w5.heap.size ≤ k) IntAt) 1 W s7 ys
theorem set2_heap (W : World) (b : Nat) (x y : Value) : (∀ k, k ≠ b → ((W.setCell ⟨b, 0, none⟩ x).setCell ⟨b, 1, none⟩ y).heap[k]? = W.heap[k]?) ∧ ((W.setCell ⟨b, 0, none⟩ x).setCell ⟨b, 1, none⟩ y).heap.size = W.heap.size :=
  ⟨fun k hk => by rw [heap_setCell_other _ _ _ _ hk, heap_setCell_other _ _ _ _ hk], by simp⟩
theorem set2_at {W : World} {b : Nat} {x y u v : Value} {t : TypeId} (h : W.heap[b]? = some (.cells #[u, v] t (0, 0))) : ((W.setCell ⟨b, 0, none⟩ x).setCell ⟨b, 1, none⟩ y).heap[b]? = some (.cells #[x, y] t (0, 0)) := by
  have h0 : (W.setCell ⟨b, 0, none⟩ x).heap[b]? = some (.cells #[x, v] t (0, 0)) := heap_setCell_same _ b 0 _ t x h
  exact heap_setCell_same _ b 1 _ t y h0
theorem twoEnd7 {w5 w6 w7 : World} {s6 s7 : Value} {xs ys : List Int} (hb6 : Below w5.drew.heap.size w5.drew w6) (hb7 : Below w6.heap.size w6 w7) (h6 : IsSl (Blk (fun k => w5.drew.heap.size ≤ k) IntAt) 1 w6 s6 xs) (h7 : IsSl (Blk (fun k => w6.heap.size ≤ k) IntAt) 1 w7 s7 ys) :
    TwoEnd w5 (w7.alloc (.cells #[s6, s7] 27)) w7.heap.size s6 s7 xs ys := by
  have hB6 : Below w5.heap.size w5 w6 := (Below.refl w5.heap.size w5).drew.trans hb6
  have hal := (Below.refl w7.heap.size w7).alloc (Nat.le_refl _) (.cells #[s6, s7] 27)
  have h67 := hb7.trans (hal.mono hb7.size)
  refine ⟨hB6.trans (h67.mono hB6.size), heap_alloc_new w7 _, intBlk_on (fun k _ hk => h67.block k hk) h6, blk_weak (fun k hk => Nat.le_trans hB6.size hk) (intBlk_on (fun k _ hk => hal.block k hk) h7)⟩
theorem twoEnd6 {w5 w6 w7 : World} {s6 s7 : Value} {xs ys : List Int} (hb6 : Below w5.drew.heap.size w5.drew w6) (hb7 : Below (w6.alloc (.cells #[.slice none 0 0, .slice none 0 0] 27)).heap.size (w6.alloc (.cells #[.slice none 0 0, .slice none 0 0] 27)) w7)
    (h6 : IsSl (Blk (fun k => w5.drew.heap.size ≤ k) IntAt) 1 w6 s6 xs) (h7 : IsSl (Blk (fun k => (w6.alloc (.cells #[.slice none 0 0, .slice none 0 0] 27)).heap.size ≤ k) IntAt) 1 w7 s7 ys) :
    TwoEnd w5 ((w7.setCell ⟨w6.heap.size, 0, none⟩ s6).setCell ⟨w6.heap.size, 1, none⟩ s7) w6.heap.size s6 s7 xs ys := by
  have hB6 : Below w5.heap.size w5 w6 := (Below.refl w5.heap.size w5).drew.trans hb6
  have hb67 : Below w6.heap.size w6 w7 := ((Below.refl w6.heap.size w6).alloc (Nat.le_refl _) _).trans (hb7.mono (by simp))
  have hs := set2_heap w7 w6.heap.size s6 s7
  have h67 : Below w6.heap.size w6 ((w7.setCell ⟨w6.heap.size, 0, none⟩ s6).setCell ⟨w6.heap.size, 1, none⟩ s7) := (hb67.setCell (p := ⟨w6.heap.size, 0, none⟩) (Nat.le_refl _) s6).setCell (p := ⟨w6.heap.size, 1, none⟩) (Nat.le_refl _) s7
  refine ⟨hB6.trans (h67.mono hB6.size), set2_at (hA_of hb7), intBlk_on (fun k _ hk => h67.block k hk) h6, blk_weak (fun k hk => ?_) (intBlk_on (fun k hk _ => hs.1 k ?_) h7)⟩
  · rw [World.size_alloc] at hk; have := hB6.size; omega
  · rw [World.size_alloc] at hk; omega
theorem twoEnd5 {w5 w6 w7 : World} {s6 s7 : Value} {xs ys : List Int} (hb6 : Below (w5.alloc (.cells #[.slice none 0 0, .slice none 0 0] 27)).drew.heap.size (w5.alloc (.cells #[.slice none 0 0, .slice none 0 0] 27)).drew w6) (hb7 : Below w6.heap.size w6 w7)
    (h6 : IsSl (Blk (fun k => (w5.alloc (.cells #[.slice none 0 0, .slice none 0 0] 27)).drew.heap.size ≤ k) IntAt) 1 w6 s6 xs) (h7 : IsSl (Blk (fun k => w6.heap.size ≤ k) IntAt) 1 w7 s7 ys) :
    TwoEnd w5 ((w7.setCell ⟨w5.heap.size, 0, none⟩ s6).setCell ⟨w5.heap.size, 1, none⟩ s7) w5.heap.size s6 s7 xs ys := by
  have hB6 : Below w5.heap.size w5 w6 := ((Below.refl w5.heap.size w5).alloc (Nat.le_refl _) _).drew.trans (hb6.mono (show w5.heap.size ≤ (w5.alloc (.cells #[.slice none 0 0, .slice none 0 0] 27)).heap.size by simp))
  have hlt : w5.heap.size < w6.heap.size := by have h : (w5.alloc (.cells #[.slice none 0 0, .slice none 0 0] 27)).heap.size ≤ w6.heap.size := hb6.size; simp at h; omega
  have hs := set2_heap w7 w5.heap.size s6 s7
  have hB7 := hB6.trans (hb7.mono hB6.size)
  refine ⟨(hB7.setCell (p := ⟨w5.heap.size, 0, none⟩) (Nat.le_refl _) s6).setCell (p := ⟨w5.heap.size, 1, none⟩) (Nat.le_refl _) s7, set2_at (hA_on (hA_dr hb6) hb7), blk_weak (fun k hk => ?_) (intBlk_on (fun k hk hl => (hs.1 k ?_).trans (hb7.block k hl)) h6), blk_weak (fun k hk => ?_) (intBlk_on (fun k hk _ => hs.1 k ?_) h7)⟩
  · have h : (w5.alloc (.cells #[.slice none 0 0, .slice none 0 0] 27)).heap.size ≤ k := hk; simp at h; omega
  · have h : (w5.alloc (.cells #[.slice none 0 0, .slice none 0 0] 27)).heap.size ≤ k := hk; simp at h; omega
  · have := hB6.size; omega
  · omega

def OtherOk (r : RulesD) (p : PlaceD) (w : World) (e : Ending) (w' : World) : Prop := ∃ vc v0 v1, e = .returned (.tuple #[PlaceV (otherD r p) vc v0 v1, .int .i64 0]) ∧ PlaceIn w' (otherD r p) vc v0 v1 ∧ Below w.heap.size w w'
end Go.Proofs.YtdhhdkbnlddnbaaGreatDoor
