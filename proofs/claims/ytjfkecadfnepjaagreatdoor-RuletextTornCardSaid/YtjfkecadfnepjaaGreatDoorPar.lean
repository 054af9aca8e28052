/- ruletext's parser in memory; its methods begins and line. -/
import Derived.Test.YtjfkecadfnepjaaGreatDoorPTop
import Derived.Test.YtjfkecadfnepjaaGreatDoorSmT
set_option maxRecDepth 100000
namespace Go.Proofs.YtjfkecadfnepjaaGreatDoor
open Go.ChangeShapes Go.WideShapes Go.ChangeAt Go.RowKit

/-- Every block but b is as it was, and so is all below B. -/
def Fr (B b : Nat) (W W' : World) : Prop := Below B W W' ∧ ∀ k, k < W.heap.size → k ≠ b → W'.heap[k]? = W.heap[k]?
theorem Fr.refl (B b : Nat) (W : World) : Fr B b W W := ⟨Below.refl _ _, fun _ _ _ => rfl⟩
theorem Fr.trans {B b : Nat} {W W1 W2 : World} (h : Fr B b W W1) (k : Fr B b W1 W2) : Fr B b W W2 :=
  ⟨h.1.trans k.1, fun i hi hb => (k.2 i (Nat.lt_of_lt_of_le hi h.1.size) hb).trans (h.2 i hi hb)⟩
theorem Fr.of {B b : Nat} {W W' : World} (h : Below W.heap.size W W') (hB : B ≤ W.heap.size) : Fr B b W W' := ⟨h.mono hB, fun k hk _ => h.block k hk⟩
theorem Fr.set {B b : Nat} {W W' : World} (h : Fr B b W W') (hb : B ≤ b) (i : Nat) (u : Value) : Fr B b W (W'.setCell ⟨b, i, none⟩ u) :=
  ⟨h.1.setCell (p := ⟨b, i, none⟩) hb u, fun k hk hkb => (Below.heap_setCell W' ⟨b, i, none⟩ u k hkb).trans (h.2 k hk hkb)⟩
theorem Fr.cell {B b : Nat} {W W' : World} (h : Fr B b W W') {a : Addr} {v : Value} (ha : a.block ≠ b) (hc : W.cell? a = some v) : W'.cell? a = some v :=
  (World.cell?_of_block (w := W) (h.2 a.block (World.block_lt_of_cell? _ _ hc) ha)).trans hc
theorem Fr.heap {B b : Nat} {W W' : World} (h : Fr B b W W') {k : Nat} {o : Obj} (hk : k ≠ b) (hc : W.heap[k]? = some o) : W'.heap[k]? = some o :=
  (h.2 k (Array.getElem?_eq_some_iff.1 hc).1 hk).trans hc

/-- A parser's variable. -/
def ParBox (W : World) (b : Nat) (v : Value) (bad : Bool) : Prop := W.heap[b]? = some (.cells #[v, .bool bad] 64 (0, 0))
theorem ParBox.facts {W : World} {b : Nat} {v : Value} {bad : Bool} (h : ParBox W b v bad) : W.cell? ⟨b, 0, none⟩ = some v ∧ W.cell? ⟨b, 1, none⟩ = some (.bool bad) ∧ W.frozen? ⟨b, 0, none⟩ = false ∧ W.frozen? ⟨b, 1, none⟩ = false := by
  have hc : ∀ i, W.cell? ⟨b, i, none⟩ = (#[v, .bool bad] : Array Value)[i]? := fun i => cell_of_row W b i _ _ (0, 0) h
  have hf : ∀ i, W.frozen? ⟨b, i, none⟩ = false := fun i => frozen_of_row W b i _ _ h
  exact ⟨hc 0, hc 1, hf 0, hf 1⟩
theorem ParBox.set0 {W : World} {b : Nat} {v : Value} {bad : Bool} (h : ParBox W b v bad) (u : Value) : ParBox (W.setCell ⟨b, 0, none⟩ u) b u bad := heap_setCell_same W b 0 _ _ u h
theorem ParBox.set1 {W : World} {b : Nat} {v : Value} {bad : Bool} (h : ParBox W b v bad) (c : Bool) : ParBox (W.setCell ⟨b, 1, none⟩ (.bool c)) b v c := heap_setCell_same W b 1 _ _ (.bool c) h
/-- Words or lines in a slice, in a block of a certain kind. -/
def StrBlk (W : World) (g : Nat) : Prop := ∃ cs fr, W.heap[g]? = some (.cells cs 9 fr)
def Strs (W : World) (ok : Nat → Prop) (ls : List (List UInt8)) (a : Option Addr) (c : Nat) : Prop :=
  ls.length ≤ c ∧ c ≤ 9000 ∧ (ls ≠ [] → ∃ g o, a = some ⟨g, o, none⟩ ∧ ok g ∧ StrBlk W g ∧ ∀ i x, ls[i]? = some x → W.cell? ⟨g, o + i, none⟩ = some (.string (str x))) ∧ ∀ x ∈ ls, x.length ≤ 8192
theorem Strs.keep {B b : Nat} {W W' : World} {ok : Nat → Prop} {ls : List (List UInt8)} {a : Option Addr} {c : Nat} (h : Strs W ok ls a c) (hok : ∀ g, ok g → g ≠ b) (hf : Fr B b W W') : Strs W' ok ls a c := by
  obtain ⟨h1, h2, h3, h4⟩ := h
  refine ⟨h1, h2, fun hn => ?_, h4⟩
  obtain ⟨g, o, e, hg, ⟨cs, fr, ht⟩, hc⟩ := h3 hn
  exact ⟨g, o, e, hg, ⟨cs, fr, hf.heap (hok g hg) ht⟩, fun i x hx => hf.cell (hok g hg) (hc i x hx)⟩
/-- What a parser's variable holds. -/
def PAt (W : World) (b : Nat) (s : PS) : Prop := ∃ a c, ParBox W b (.slice a s.ls.length c) s.bad ∧ Strs W (fun g => g < b) s.ls a c
theorem lt_ne {b : Nat} : ∀ g, g < b → g ≠ b := fun _ h => Nat.ne_of_lt h
theorem PAt.lt {W : World} {b : Nat} {s : PS} (h : PAt W b s) : b < W.heap.size := by
  obtain ⟨a, c, h1, _⟩ := h
  exact (Array.getElem?_eq_some_iff.1 h1).1
theorem PAt.below {W W' : World} {b : Nat} {s : PS} (h : PAt W b s) (hb : Below W.heap.size W W') : PAt W' b s := by
  have hlt := h.lt
  obtain ⟨a, c, h1, h2⟩ := h
  exact ⟨a, c, (hb.block b hlt).trans h1, h2.keep lt_ne (Fr.of (B := 0) hb (Nat.zero_le _))⟩
theorem PAt.fail {W : World} {b : Nat} {s : PS} (h : PAt W b s) : PAt (W.setCell ⟨b, 1, none⟩ (.bool true)) b (failS s) := by
  obtain ⟨a, c, h1, h2⟩ := h
  exact ⟨a, c, h1.set1 true, h2.keep lt_ne ((Fr.refl 0 b W).set (Nat.zero_le _) 1 _)⟩
/-- What a method of a parser leaves. -/
def ParPost (B b : Nat) (v : Value) (s : PS) (W : World) (e : Ending) (w' : World) : Prop := e = .returned v ∧ PAt w' b s ∧ Fr B b W w'

theorem begM_bad {k : List UInt8} {s : PS} (h : s.bad = true) : begM k s = false := by simp [begM, h]
theorem begM_none {k : List UInt8} {s : PS} (h : s.ls = []) : begM k s = false := by simp [begM, h]
theorem begM_cons {k l : List UInt8} {r : List (List UInt8)} {s : PS} (h : s.bad = false) (hl : s.ls = l :: r) : begM k s = Lib.hasPrefix (l ++ [32]) (k ++ [32]) := by simp [begM, h, hl]
set_option maxHeartbeats 1000000 in
theorem begins_any (b : Nat) (k : List UInt8) (s : PS) (w : World) (h : PAt w b s) (hk : k.length ≤ 100) :
    Calls Tryz.prog 68 #[.pointer (some ⟨b, 0, none⟩), .string (str k)] w fun e w' => e = .returned (.bool (begM k s)) ∧ w' = w := by
  obtain ⟨a, c, hbx, h1, h2, h3, h4⟩ := h
  obtain ⟨c0, c1, -, -⟩ := hbx.facts
  clear hbx
  cases hbad : s.bad with
  | true =>
    have K : Hid (begM k s = false) := Lib.hid (begM_bad hbad)
    rw [hbad] at c1
    clear h1 h2 h3 h4 hbad c0
    go_enter Tryz.func68, Tryz.ntmps68
    go_wp2_with fail
    go_ret
    exact ⟨ret_bool K.out.symm, rfl⟩
  | false =>
    rw [hbad] at c1
    cases hls : s.ls with
    | nil =>
      have K : Hid (begM k s = false) := Lib.hid (begM_none hls)
      rw [hls, List.length_nil] at c0
      clear h1 h2 h3 h4 hbad hls
      go_enter Tryz.func68, Tryz.ntmps68
      go_wp2_with fail
      go_ret
      exact ⟨ret_bool K.out.symm, rfl⟩
    | cons l r =>
      have K : Hid (begM k s = Lib.hasPrefix (l ++ [32]) (k ++ [32])) := Lib.hid (begM_cons hbad hls)
      obtain ⟨g, o, rfl, -, -, hat⟩ := h3 (by rw [hls]; simp)
      have cl := hat 0 l (by rw [hls]; rfl)
      rw [Nat.add_zero] at cl
      have hl8 : l.length ≤ 8192 := h4 l (by rw [hls]; simp)
      obtain ⟨n, hn⟩ : ∃ n, n = r.length := ⟨_, rfl⟩
      rw [hls, List.length_cons, ← hn] at c0 h1
      obtain ⟨L, hL⟩ : ∃ L, L = str l := ⟨_, rfl⟩
      obtain ⟨S, hS⟩ : ∃ S, S = str k := ⟨_, rfl⟩
      have z1 : L.size ≤ 8192 := by rw [hL, str_size]; exact hl8
      have z2 : S.size ≤ 100 := by rw [hS, str_size]; exact hk
      have HS := Lib.hid hS
      have HL := Lib.hid hL
      rw [← hS]
      rw [← hL] at cl
      clear h3 h4 hat hls hbad hn hL hS hl8 hk
      go_enter Tryz.func68, Tryz.ntmps68
      go_wp2_with fail
      go_at_call 9; refine (turned (Tryz.strings_HasPrefix _ _ _)).mono ?_; rintro e w' ⟨rfl, rfl⟩
      go_wp2_with fail
      go_ret
      refine ⟨ret_bool ?_, rfl⟩
      rw [K.out, HS.out, HL.out]
      simp [str]
end Go.Proofs.YtjfkecadfnepjaaGreatDoor
