/- Merged by merge.py of the texts Par ParL ParN ParC ParD ParO ParW. -/
import Derived.Test.YtomclohfppbegaaGreatDoorCutA
import Derived.Test.YtomclohfppbegaaGreatDoorSmT
import Derived.Deep.AppendLies
import Derived.Deep.DrawnRows
import Derived.OwnWalk
set_option maxRecDepth 100000
namespace Go.Proofs.YtomclohfppbegaaGreatDoor
open Go.ChangeShapes Go.WideShapes Go.ChangeAt Go.RowKit

/-- Every block but b is as it was, and so is all below B. -/
def Fr (B b : Nat) (W W' : World) : Prop := Below B W W' ∧ ∀ k, k < W.heap.size → k ≠ b → W'.heap[k]? = W.heap[k]?
theorem Fr.refl (B b : Nat) (W : World) : Fr B b W W := ⟨Below.refl _ _, fun _ _ _ => rfl⟩
theorem Fr.trans {B b : Nat} {W W1 W2 : World} (h : Fr B b W W1) (k : Fr B b W1 W2) : Fr B b W W2 :=
  ⟨h.1.trans k.1, fun i hi hb => (k.2 i (Nat.lt_of_lt_of_le hi h.1.size) hb).trans (h.2 i hi hb)⟩
theorem Fr.of {B b : Nat} {W W' : World} (h : Below W.heap.size W W') (hB : B ≤ W.heap.size) : Fr B b W W' := ⟨h.mono hB, fun k hk _ => h.block k hk⟩
theorem Fr.set {B b : Nat} {W W' : World} (h : Fr B b W W') (hb : B ≤ b) (i : Nat) (u : Value) : Fr B b W (W'.setCell ⟨b, i, none⟩ u) :=
  ⟨h.1.setCell (p := ⟨b, i, none⟩) hb u, fun k hk hkb => (Below.heap_setCell W' ⟨b, i, none⟩ u k hkb).trans (h.2 k hk hkb)⟩
theorem Fr.cell {B b : Nat} {W W' : World} (h : Fr B b W W') {a : Addr} {v : Value} (ha : a.block ≠ b) (hc : W.cell? a = some v) : W'.cell? a = some v :=
  (World.cell?_of_block (w := W) (h.2 a.block (World.block_lt_of_cell? _ _ hc) ha)).trans hc
theorem Fr.heap {B b : Nat} {W W' : World} (h : Fr B b W W') {k : Nat} {o : Obj} (hk : k ≠ b) (hc : W.heap[k]? = some o) : W'.heap[k]? = some o :=
  (h.2 k (Array.getElem?_eq_some_iff.1 hc).1 hk).trans hc

/-- A parser's variable. -/
def ParBox (W : World) (b : Nat) (v : Value) (bad : Bool) : Prop := W.heap[b]? = some (.cells #[v, .bool bad] 75 (0, 0))
theorem ParBox.facts {W : World} {b : Nat} {v : Value} {bad : Bool} (h : ParBox W b v bad) : W.cell? ⟨b, 0, none⟩ = some v ∧ W.cell? ⟨b, 1, none⟩ = some (.bool bad) ∧ W.frozen? ⟨b, 0, none⟩ = false ∧ W.frozen? ⟨b, 1, none⟩ = false := by
  have hc : ∀ i, W.cell? ⟨b, i, none⟩ = (#[v, .bool bad] : Array Value)[i]? := fun i => cell_of_row W b i _ _ (0, 0) h
  have hf : ∀ i, W.frozen? ⟨b, i, none⟩ = false := fun i => frozen_of_row W b i _ _ h
  exact ⟨hc 0, hc 1, hf 0, hf 1⟩
theorem ParBox.set0 {W : World} {b : Nat} {v : Value} {bad : Bool} (h : ParBox W b v bad) (u : Value) : ParBox (W.setCell ⟨b, 0, none⟩ u) b u bad := heap_setCell_same W b 0 _ _ u h
theorem ParBox.set1 {W : World} {b : Nat} {v : Value} {bad : Bool} (h : ParBox W b v bad) (c : Bool) : ParBox (W.setCell ⟨b, 1, none⟩ (.bool c)) b v c := heap_setCell_same W b 1 _ _ (.bool c) h
/-- Words or lines in a slice, in a block of a certain kind. -/
def StrBlk (W : World) (g : Nat) : Prop := ∃ cs fr, W.heap[g]? = some (.cells cs 9 fr)
def Strs (W : World) (ok : Nat → Prop) (ls : List (List UInt8)) (a : Option Addr) (c : Nat) : Prop :=
  ls.length ≤ c ∧ c ≤ 9000 ∧ (ls ≠ [] → ∃ g o, a = some ⟨g, o, none⟩ ∧ ok g ∧ StrBlk W g ∧ ∀ i x, ls[i]? = some x → W.cell? ⟨g, o + i, none⟩ = some (.string (str x))) ∧ ∀ x ∈ ls, x.length ≤ 8192
theorem Strs.keep {B b : Nat} {W W' : World} {ok : Nat → Prop} {ls : List (List UInt8)} {a : Option Addr} {c : Nat} (h : Strs W ok ls a c) (hok : ∀ g, ok g → g ≠ b) (hf : Fr B b W W') : Strs W' ok ls a c := by
  obtain ⟨h1, h2, h3, h4⟩ := h
  refine ⟨h1, h2, fun hn => ?_, h4⟩
  obtain ⟨g, o, e, hg, ⟨cs, fr, ht⟩, hc⟩ := h3 hn
  exact ⟨g, o, e, hg, ⟨cs, fr, hf.heap (hok g hg) ht⟩, fun i x hx => hf.cell (hok g hg) (hc i x hx)⟩
/-- What a parser's variable holds. -/
def PAt (W : World) (b : Nat) (s : PS) : Prop := ∃ a c, ParBox W b (.slice a s.ls.length c) s.bad ∧ Strs W (fun g => g < b) s.ls a c
theorem lt_ne {b : Nat} : ∀ g, g < b → g ≠ b := fun _ h => Nat.ne_of_lt h
theorem PAt.lt {W : World} {b : Nat} {s : PS} (h : PAt W b s) : b < W.heap.size := by
  obtain ⟨a, c, h1, _⟩ := h
  exact (Array.getElem?_eq_some_iff.1 h1).1
theorem PAt.below {W W' : World} {b : Nat} {s : PS} (h : PAt W b s) (hb : Below W.heap.size W W') : PAt W' b s := by
  have hlt := h.lt
  obtain ⟨a, c, h1, h2⟩ := h
  exact ⟨a, c, (hb.block b hlt).trans h1, h2.keep lt_ne (Fr.of (B := 0) hb (Nat.zero_le _))⟩
theorem PAt.fail {W : World} {b : Nat} {s : PS} (h : PAt W b s) : PAt (W.setCell ⟨b, 1, none⟩ (.bool true)) b (failS s) := by
  obtain ⟨a, c, h1, h2⟩ := h
  exact ⟨a, c, h1.set1 true, h2.keep lt_ne ((Fr.refl 0 b W).set (Nat.zero_le _) 1 _)⟩
/-- What a method of a parser leaves. -/
def ParPost (B b : Nat) (v : Value) (s : PS) (W : World) (e : Ending) (w' : World) : Prop := e = .returned v ∧ PAt w' b s ∧ Fr B b W w'

theorem begM_bad {k : List UInt8} {s : PS} (h : s.bad = true) : begM k s = false := by simp [begM, h]
theorem begM_none {k : List UInt8} {s : PS} (h : s.ls = []) : begM k s = false := by simp [begM, h]
theorem begM_cons {k l : List UInt8} {r : List (List UInt8)} {s : PS} (h : s.bad = false) (hl : s.ls = l :: r) : begM k s = Lib.hasPrefix (l ++ [32]) (k ++ [32]) := by simp [begM, h, hl]
set_option maxHeartbeats 1000000 in
theorem begins_any (b : Nat) (k : List UInt8) (s : PS) (w : World) (h : PAt w b s) (hk : k.length ≤ 100) :
    Calls Tryz.prog 98 #[.pointer (some ⟨b, 0, none⟩), .string (str k)] w fun e w' => e = .returned (.bool (begM k s)) ∧ w' = w := by
  obtain ⟨a, c, hbx, h1, h2, h3, h4⟩ := h
  obtain ⟨c0, c1, -, -⟩ := hbx.facts
  clear hbx
  cases hbad : s.bad with
  | true =>
    have K : Hid (begM k s = false) := Lib.hid (begM_bad hbad)
    rw [hbad] at c1
    clear h1 h2 h3 h4 hbad c0
    go_enter Tryz.func98, Tryz.ntmps98
    go_wp2_with fail
    go_ret
    exact ⟨ret_bool K.out.symm, rfl⟩
  | false =>
    rw [hbad] at c1
    cases hls : s.ls with
    | nil =>
      have K : Hid (begM k s = false) := Lib.hid (begM_none hls)
      rw [hls, List.length_nil] at c0
      clear h1 h2 h3 h4 hbad hls
      go_enter Tryz.func98, Tryz.ntmps98
      go_wp2_with fail
      go_ret
      exact ⟨ret_bool K.out.symm, rfl⟩
    | cons l r =>
      have K : Hid (begM k s = Lib.hasPrefix (l ++ [32]) (k ++ [32])) := Lib.hid (begM_cons hbad hls)
      obtain ⟨g, o, rfl, -, -, hat⟩ := h3 (by rw [hls]; simp)
      have cl := hat 0 l (by rw [hls]; rfl)
      rw [Nat.add_zero] at cl
      have hl8 : l.length ≤ 8192 := h4 l (by rw [hls]; simp)
      obtain ⟨n, hn⟩ : ∃ n, n = r.length := ⟨_, rfl⟩
      rw [hls, List.length_cons, ← hn] at c0 h1
      obtain ⟨L, hL⟩ : ∃ L, L = str l := ⟨_, rfl⟩
      obtain ⟨S, hS⟩ : ∃ S, S = str k := ⟨_, rfl⟩
      have z1 : L.size ≤ 8192 := by rw [hL, str_size]; exact hl8
      have z2 : S.size ≤ 100 := by rw [hS, str_size]; exact hk
      have HS := Lib.hid hS
      have HL := Lib.hid hL
      rw [← hS]
      rw [← hL] at cl
      clear h3 h4 hat hls hbad hn hL hS hl8 hk
      go_enter Tryz.func98, Tryz.ntmps98
      go_wp2_with fail
      go_at_call 142; refine (turned (Tryz.strings_HasPrefix _ _ _)).mono ?_; rintro e w' ⟨rfl, rfl⟩
      go_wp2_with fail
      go_ret
      refine ⟨ret_bool ?_, rfl⟩
      rw [K.out, HS.out, HL.out]
      simp [str]
end Go.Proofs.YtomclohfppbegaaGreatDoor

set_option maxRecDepth 100000
namespace Go.Proofs.YtomclohfppbegaaGreatDoor
open Go.ChangeShapes Go.WideShapes Go.ChangeAt Go.RowKit

/-- A package's variable that lies below B, of a known value. -/
def Glo (B g : Nat) (v : Value) (w : World) : Prop := g < B ∧ w.cell? ⟨g, 0, none⟩ = some v
theorem Glo.below {B g : Nat} {v : Value} {w w' : World} (h : Glo B g v w) (hb : Below B w w') : Glo B g v w' := ⟨h.1, (hb.cell (p := ⟨g, 0, none⟩) h.1).trans h.2⟩
theorem Glo.up {B B' g : Nat} {v : Value} {w w' : World} (h : Glo B g v w) (hb : Below B w w') (hB : B ≤ B') : Glo B' g v w' := ⟨Nat.lt_of_lt_of_le h.1 hB, (h.below hb).2⟩
/-- What the library's functions here read. -/
def Env (B : Nat) (w : World) : Prop := Tb B w ∧ (∃ m, Glo B 2 (.int .i64 m) w) ∧ (∃ t p, Glo B 5 (.iface t p) w) ∧ ∃ t p, Glo B 6 (.iface t p) w
theorem Env.below {B : Nat} {w w' : World} (h : Env B w) (hb : Below B w w') : Env B w' := by
  obtain ⟨h1, ⟨m, h2⟩, ⟨t, p, h3⟩, t2, p2, h4⟩ := h
  exact ⟨h1.below hb, ⟨m, h2.below hb⟩, ⟨t, p, h3.below hb⟩, t2, p2, h4.below hb⟩
theorem Tb.upP {B B' : Nat} {w w' : World} (h : Tb B w) (hb : Below B w w') (hB : B ≤ B') : Tb B' w' := fun w2 h2 => h w2 (hb.trans (h2.mono hB))
theorem Env.up {B B' : Nat} {w w' : World} (h : Env B w) (hb : Below B w w') (hB : B ≤ B') : Env B' w' := by
  obtain ⟨h1, ⟨m, h2⟩, ⟨t, p, h3⟩, t2, p2, h4⟩ := h
  exact ⟨h1.upP hb hB, ⟨m, h2.up hb hB⟩, ⟨t, p, h3.up hb hB⟩, t2, p2, h4.up hb hB⟩

theorem str_data (x : ByteArray) : str x.data.toList = x := Lib.mk_data x
theorem strs_cells (ls : List (List UInt8)) (xs : List ByteArray) (h : xs.map (·.data.toList) = ls) : xs.map Value.string = ls.map fun x => Value.string (str x) := by
  subst h
  rw [List.map_map]
  apply List.map_congr_left
  intro x _
  simp only [Function.comp_apply, str_data]
theorem split_any {B : Nat} (c : UInt8) (X : ByteArray) (w : World) (hX : X.size ≤ 100000) (hE : Env B w) :
    Calls Tryz.prog 25 #[.string X, .string ⟨#[c]⟩] w fun e w' => e = .returned (.slice (some ⟨w.heap.size, 0, none⟩) (cutB c X.data.toList).length (cutB c X.data.toList).length) ∧ w' = w.alloc (.cells ((cutB c X.data.toList).map fun x => Value.string (str x)).toArray 9) := by
  obtain ⟨_, ⟨m, _, hm⟩, _⟩ := hE
  have h1 : 1 ≤ (⟨#[c]⟩ : ByteArray).size := Nat.le_refl 1
  have e0 : Lib.countB X ⟨#[c]⟩ = Lib.count X.data.toList [c] := rfl
  have e1 : (Lib.splitB ⟨#[c]⟩ 0 (Lib.countB X ⟨#[c]⟩) X).map (·.data.toList) = cutB c X.data.toList := by
    rw [Lib.splitB_data]
    exact lib_splitK c _ _ (Nat.le_refl _) _ e0.symm
  have e2 : Lib.countB X ⟨#[c]⟩ + 1 = (cutB c X.data.toList).length := by
    rw [← e1, List.length_map, Lib.splitB_all _ h1 0 _ X rfl]
  have h := Tryz.strings_Split X ⟨#[c]⟩ m w (by omega) hm h1
  rw [e2, strs_cells _ _ e1] at h
  exact h
theorem make_strs (n : Nat) (hn : n ≤ 4) : ∀ w : World, Sem.run Tryz.prog (Instr.makeSlice 63 (.int .i64 n) (.int .i64 n)) w = .ok (.slice (some ⟨w.heap.size, 0, none⟩) n n) (w.alloc (.cells (Array.replicate n (.string ⟨#[]⟩)) 9)) := by
  intro w
  obtain rfl | rfl | rfl | rfl | rfl : n = 0 ∨ n = 1 ∨ n = 2 ∨ n = 3 ∨ n = 4 := by omega
  all_goals kernel_rfl
theorem slice_tail (g o n c : Nat) (h : n + 1 ≤ c) (h2 : c ≤ 9000) : ∃ A : Option Addr, (n ≠ 0 → A = some ⟨g, o + 1, none⟩) ∧ ∀ w, Sem.run Tryz.prog (Instr.slice 63 (.slice (some ⟨g, o, none⟩) (n + 1) c) (some (.int .i64 1)) none none) w = .ok (.slice A n (c - 1)) w := by
  by_cases hc : c = 1
  · obtain rfl : n = 0 := by omega
    subst hc
    refine ⟨some ⟨g, o, none⟩, fun h => absurd rfl h, fun w => ?_⟩
    go_simp
  · refine ⟨some ⟨g, o + 1, none⟩, fun _ => rfl, fun w => ?_⟩
    go_simp
    intro hx
    omega
/-- What line leaves. -/
def WordsP (B b : Nat) (ws : List (List UInt8)) (s : PS) (W : World) (e : Ending) (w' : World) : Prop := ∃ a c, e = .returned (.slice a ws.length c) ∧ Strs w' (fun g => g ≠ b) ws a c ∧ PAt w' b s ∧ Fr B b W w'
theorem cut_small {c : UInt8} {n : Nat} : ∀ {l : List UInt8}, l.length ≤ n → ∀ w ∈ cutB c l, w.length ≤ n
  | [], _, w, h => by simp only [cutB, List.mem_singleton] at h; subst h; simp
  | x :: l, hl, w, h => by
    rw [List.length_cons] at hl
    unfold cutB at h
    split at h
    · rcases List.mem_cons.1 h with rfl | h
      · simp
      · exact cut_small (by omega) w h
    · rcases List.mem_cons.1 h with rfl | h
      · have : ((cutB c l).headD []).length ≤ n - 1 := cut_small (c := c) (n := n - 1) (l := l) (by omega) _ (by rw [cut_split c l]; simp)
        rw [List.length_cons]; omega
      · exact cut_small (c := c) (l := l) (by omega) w (List.mem_of_mem_tail h)
theorem rest_small {k l : List UInt8} (hl : l.length ≤ 8192) : (∀ w ∈ restW k l, w.length ≤ 8192) ∧ (restW k l).length ≤ 8193 := by
  have h1 : (l.drop k.length).length ≤ 8192 := by rw [List.length_drop]; omega
  refine ⟨fun w h => cut_small h1 w (List.mem_of_mem_tail h), ?_⟩
  have := cut_len 32 (l.drop k.length)
  rw [restW, List.length_tail]; omega
theorem beg_cases {k : List UInt8} {s : PS} (h : begM k s = true) : ∃ l r, s.ls = l :: r ∧ s.bad = false ∧ k.length ≤ l.length := by
  cases hb : s.bad with
  | true => rw [begM_bad hb] at h; cases h
  | false =>
    cases hl : s.ls with
    | nil => rw [begM_none hl] at h; cases h
    | cons l r =>
      rw [begM_cons hb hl, Lib.hasPrefix, List.isPrefixOf_iff_prefix] at h
      have := h.length_le
      simp at this
      exact ⟨l, r, rfl, rfl, this⟩
theorem lineM_no {k : List UInt8} {n : Nat} {s : PS} (h : begM k s = false) : lineM k n s = (List.replicate n [], failS s) := by
  rw [lineM, if_neg (by rw [h]; decide)]; rfl
theorem lineM_yes {k l : List UInt8} {r : List (List UInt8)} {n : Nat} {s : PS} (h : begM k s = true) (hl : s.ls = l :: r) (hn : (restW k l).length = n) : lineM k n s = (restW k l, ⟨r, s.bad⟩) := by
  have e : (restW k (s.ls.headD [])).length = n := by rw [hl]; exact hn
  rw [lineM, if_pos h, if_pos e, hl]; rfl
theorem lineM_len {k l : List UInt8} {r : List (List UInt8)} {n : Nat} {s : PS} (h : begM k s = true) (hl : s.ls = l :: r) (hn : (restW k l).length ≠ n) : lineM k n s = (List.replicate n [], ⟨r, true⟩) := by
  have e : ¬ (restW k (s.ls.headD [])).length = n := by rw [hl]; exact hn
  rw [lineM, if_pos h, if_neg e, hl]; rfl
theorem strs_new (W : World) (b n : Nat) (hn : n ≤ 4) (hb : b < W.heap.size) : Strs (W.alloc (.cells (Array.replicate n (.string ⟨#[]⟩)) 9)) (fun g => g ≠ b) (List.replicate n []) (some ⟨W.heap.size, 0, none⟩) n := by
  refine ⟨by simp, by omega, fun _ => ⟨W.heap.size, 0, rfl, by omega, ⟨_, _, heap_alloc_new W _⟩, fun i x hx => ?_⟩, fun x hx => by rw [List.eq_of_mem_replicate hx]; simp⟩
  rw [cell_of_row _ W.heap.size (0 + i) _ _ (0, 0) (heap_alloc_new W _)]
  obtain ⟨h1, h2⟩ := List.getElem?_eq_some_iff.1 hx
  rw [List.length_replicate] at h1
  rw [List.getElem_replicate] at h2
  subst h2
  simp only [Nat.zero_add, Array.getElem?_replicate, if_pos h1]
  rfl
theorem line_left {B b g o m c c2 : Nat} {r : List (List UInt8)} {bad : Bool} {a2 : Option Addr} {w w1 : World} (hB : B ≤ b) (hbx : ParBox w1 b (.slice (some ⟨g, o, none⟩) (m + 1) c) bad) (hf : Fr B b w w1) (hm : m = r.length) (h1 : m + 1 ≤ c) (h2 : c ≤ 9000) (hc2 : c2 = c - 1) (ha : m ≠ 0 → a2 = some ⟨g, o + 1, none⟩)
    (hat : r ≠ [] → ∃ g' o', (some ⟨g, o + 1, none⟩ : Option Addr) = some ⟨g', o', none⟩ ∧ g' < b ∧ StrBlk w g' ∧ ∀ i x, r[i]? = some x → w.cell? ⟨g', o' + i, none⟩ = some (.string (str x))) (h4 : ∀ x ∈ r, x.length ≤ 8192) :
    PAt (w1.setCell ⟨b, 0, none⟩ (.slice a2 m c2)) b ⟨r, bad⟩ ∧ Fr B b w (w1.setCell ⟨b, 0, none⟩ (.slice a2 m c2)) := by
  have hF := hf.set hB 0 (.slice a2 m c2)
  refine ⟨⟨a2, c2, ?_, ?_⟩, hF⟩
  · have := hbx.set0 (.slice a2 m c2)
    rw [hm] at this ⊢; exact this
  · refine ⟨by show r.length ≤ c2; omega, by omega, fun hn => ?_, h4⟩
    have hm0 : m ≠ 0 := by rw [hm]; intro e; exact hn (List.length_eq_zero_iff.1 e)
    obtain ⟨g', o', e, hg, ⟨cs, fr, ht⟩, hc⟩ := hat hn
    exact ⟨g', o', (ha hm0).trans e, hg, ⟨cs, fr, hF.heap (lt_ne _ hg) ht⟩, fun i x hx => hF.cell (lt_ne _ hg) (hc i x hx)⟩
theorem strs_zero {W : World} {ok : Nat → Prop} {ls : List (List UInt8)} {a : Option Addr} {c : Nat} (h : ls.length = 0) (hc : c ≤ 9000) : Strs W ok ls a c := by
  have := List.length_eq_zero_iff.1 h
  subst this
  exact ⟨Nat.zero_le _, hc, fun h => absurd rfl h, fun x hx => by cases hx⟩
/-- What is left where a line did not have the form. -/
theorem par_new {B b n N : Nat} {s : PS} {W W1 : World} (hn : n ≤ 4) (h : PAt W1 b s ∧ Fr B b W W1) (hN : N = W1.heap.size) (hB : B ≤ b) : WordsP B b (List.replicate n []) (failS s) W (.returned (.slice (some ⟨N, 0, none⟩) n n)) ((W1.setCell ⟨b, 1, none⟩ (.bool true)).alloc (.cells (Array.replicate n (.string ⟨#[]⟩)) 9)) := by
  have hlt := h.1.lt
  have hsz : (W1.setCell ⟨b, 1, none⟩ (.bool true)).heap.size = W1.heap.size := by simp
  refine ⟨_, _, by rw [List.length_replicate], ?_, ?_, ?_⟩
  · have := strs_new (W1.setCell ⟨b, 1, none⟩ (.bool true)) b n hn (by rw [hsz]; exact hlt)
    rw [hsz, ← hN] at this
    exact this
  · exact h.1.fail.below ((Below.refl _ _).alloc (Nat.le_refl _) _)
  · exact (h.2.set hB 1 _).trans (Fr.of ((Below.refl _ _).alloc (Nat.le_refl _) _) (by rw [hsz]; omega))
set_option maxHeartbeats 2000000 in
theorem line_par (B b : Nat) (k : List UInt8) (n : Nat) (s : PS) (w : World) (h : PAt w b s) (hk : k.length ≤ 100) (hn : n ≤ 4) (hB : B ≤ b) (hE : Env B w) :
    Calls Tryz.prog 57 #[.pointer (some ⟨b, 0, none⟩), .string (str k), .int .i64 n] w (WordsP B b (lineM k n s).1 (lineM k n s).2 w) := by
  have hlt := h.lt
  have HBG : Hid (Calls Tryz.prog 98 #[.pointer (some ⟨b, 0, none⟩), .string (str k)] w fun e w' => e = .returned (.bool (begM k s)) ∧ w = w') := Lib.hid (turned (begins_any b k s w h hk))
  have hmk := make_strs n hn
  have HS : Hid _ := Lib.hid h
  cases hb : begM k s with
  | false =>
    rw [lineM_no hb]
    rw [hb] at HBG
    obtain ⟨a, c, hbx, -⟩ := h
    obtain ⟨-, c1, -, f1⟩ := hbx.facts
    clear hbx hE hb
    go_enter Tryz.func57, Tryz.ntmps57
    go_wp2_with fail
    go_at_call 98; refine HBG.out.mono ?_; rintro e w' ⟨rfl, rfl⟩
    go_wp2_with fail
    go_ret
    exact par_new hn ⟨HS.out, Fr.refl B b w⟩ rfl hB
  | true =>
    obtain ⟨l, r, hl, hbad, hkl⟩ := beg_cases hb
    obtain ⟨a, c, hbx, h1, h2, h3, h4⟩ := h
    rw [hl] at h1 h3 h4
    obtain ⟨g, o, rfl, hgb, hsb, hat⟩ := h3 (by simp)
    have cl := hat 0 l rfl
    rw [Nat.add_zero] at cl
    have hl8 : l.length ≤ 8192 := h4 l (by simp)
    obtain ⟨m, hm⟩ : ∃ m, m = r.length := ⟨_, rfl⟩
    rw [hl, hbad, List.length_cons, ← hm] at hbx
    rw [List.length_cons, ← hm] at h1
    obtain ⟨c0, c1, f0, f1⟩ := hbx.facts
    rw [hb] at HBG
    obtain ⟨L, hL⟩ : ∃ L, L = str l := ⟨_, rfl⟩
    obtain ⟨S, hS⟩ : ∃ S, S = str k := ⟨_, rfl⟩
    have z1 : L.size ≤ 8192 := by rw [hL, str_size]; exact hl8
    have z2 : S.size ≤ L.size := by rw [hS, hL, str_size, str_size]; exact hkl
    rw [← hS] at HBG ⊢
    rw [← hL] at cl
    have HSS := Lib.hid hS
    have HLL := Lib.hid hL
    have HMM := Lib.hid hm
    have HHL := Lib.hid hl
    have HH4 := Lib.hid h4
    have HAT := Lib.hid hat
    have HBB := Lib.hid hb
    have HBD := Lib.hid hbad
    have HBX := Lib.hid hbx
    have HEE := Lib.hid hE
    obtain ⟨q, hq⟩ : ∃ q, q = (restW k l).length := ⟨_, rfl⟩
    obtain ⟨w1, hw1⟩ : ∃ w1, w1 = w.alloc (.cells ((cutB 32 (l.drop k.length)).map fun x => Value.string (str x)).toArray 9) := ⟨_, rfl⟩
    have HQ := Lib.hid hq
    have hX : (L.extract S.size L.size).data.toList = l.drop k.length := by
      rw [Lib.extract_data, hS, hL, str_size, str_size]
      show (l.drop k.length).take _ = _
      rw [List.take_of_length_le (by rw [List.length_drop]; omega)]
    have hql : (cutB 32 (l.drop k.length)).length = q + 1 := by rw [cut_split, List.length_cons, hq, restW]
    have hq8 : q ≤ 8193 := by rw [hq]; exact (rest_small hl8).2
    have HSP : Hid (Calls Tryz.prog 25 #[.string (L.extract S.size L.size), .string ⟨#[32]⟩] w fun e w' => e = .returned (.slice (some ⟨w.heap.size, 0, none⟩) (q + 1) (q + 1)) ∧ w1 = w') := Lib.hid (by
      have h1 := split_any 32 (L.extract S.size L.size) w (by rw [ByteArray.size_extract]; omega) hE
      rw [hX, hql, ← hw1] at h1
      exact h1.mono (fun e w' h => ⟨h.1, h.2.symm⟩))
    have hb1 : Below w.heap.size w w1 := by rw [hw1]; exact (Below.refl _ _).alloc (Nat.le_refl _) _
    have hwb : ∀ i x, (restW k l)[i]? = some x → w1.cell? ⟨w.heap.size, 1 + i, none⟩ = some (.string (str x)) := by
      intro i x hx
      rw [hw1, cell_of_row _ w.heap.size (1 + i) _ _ (0, 0) (heap_alloc_new w _)]
      rw [List.getElem?_toArray, List.getElem?_map, cut_split, Nat.add_comm, List.getElem?_cons_succ]
      rw [restW] at hx
      rw [hx]; rfl
    have HRS : Hid (Strs w1 (fun g => g ≠ b) (restW k l) (some ⟨w.heap.size, 1, none⟩) q) := Lib.hid ⟨by omega, by omega, fun _ => ⟨_, _, rfl, by omega, ⟨_, _, by rw [hw1]; exact heap_alloc_new w _⟩, hwb⟩, (rest_small hl8).1⟩
    have HF1 : Hid (Fr B b w w1) := Lib.hid (Fr.of hb1 (by omega))
    have hbx1 : ParBox w1 b (.slice (some ⟨g, o, none⟩) (m + 1) c) false := (hb1.block b hlt).trans hbx
    have HBX1 := Lib.hid hbx1
    obtain ⟨d0, d1, k0, k1⟩ := hbx1.facts
    have HW1 : Hid (w.heap.size ≤ w1.heap.size) := Lib.hid hb1.size
    have HAT1 : Hid (r ≠ [] → ∃ g' o', (some ⟨g, o + 1, none⟩ : Option Addr) = some ⟨g', o', none⟩ ∧ g' < b ∧ StrBlk w g' ∧ ∀ i x, r[i]? = some x → w.cell? ⟨g', o' + i, none⟩ = some (.string (str x))) := Lib.hid (fun _ => ⟨g, o + 1, rfl, hgb, hsb, fun i x hx => by
      have := hat (i + 1) x (by simpa using hx)
      rwa [show o + (i + 1) = o + 1 + i by omega] at this⟩)
    clear hk hS hL hm hl h4 h3 hat hb hbad hbx hE hl8 hkl hX hql hw1 hwb hb1 hbx1 hq
    go_enter Tryz.func57, Tryz.ntmps57
    go_wp2_with fail
    go_at_call 98; refine HBG.out.mono ?_; rintro e w' ⟨rfl, rfl⟩
    go_wp2_with fail
    obtain ⟨A1, hA1, hs1⟩ := slice_tail w.heap.size 0 q (q + 1) (Nat.le_refl _) (by omega)
    obtain ⟨A2, hA2, hs2⟩ := slice_tail g o m c h1 h2
    have HA1 := Lib.hid hA1
    clear hA1
    have HL4 : Hid (∀ x ∈ r, x.length ≤ 8192) := Lib.hid (fun x hx => HH4.out x (List.mem_cons_of_mem _ hx))
    have HFL : Hid (PAt (w1.setCell ⟨b, 0, none⟩ (.slice A2 m (c - 1))) b ⟨r, false⟩ ∧ Fr B b w (w1.setCell ⟨b, 0, none⟩ (.slice A2 m (c - 1)))) := Lib.hid (line_left hB HBX1.out HF1.out HMM.out h1 h2 rfl hA2 HAT1.out HL4.out)
    have HWD : Hid (Strs (w1.setCell ⟨b, 0, none⟩ (.slice A2 m (c - 1))) (fun g => g ≠ b) (restW k l) A1 q) := Lib.hid (by
      refine Strs.keep (B := 0) ?_ (fun _ h => h) ((Fr.refl 0 b w1).set (Nat.zero_le _) 0 _)
      by_cases h0 : q = 0
      · exact strs_zero (by rw [← HQ.out]; exact h0) (by omega)
      · rw [HA1.out h0]; exact HRS.out)
    clear hA2
    go_at_call 25; refine HSP.out.mono ?_; rintro e w' ⟨rfl, rfl⟩
    rcases Bool.eq_false_or_eq_true ((q : Int) == (n : Int)) with hqn | hqn
    · have hqn2 : (restW k l).length = n := by rw [← HQ.out]; have := beq_iff_eq.1 hqn; omega
      have HLM : Hid (lineM k n s = (restW k l, ⟨r, false⟩)) := Lib.hid (by rw [lineM_yes HBB.out HHL.out hqn2, HBD.out])
      clear hqn2
      go_wp2_with fail
      go_ret
      rw [HLM.out]
      exact ⟨_, _, by rw [← HQ.out]; rfl, HWD.out, HFL.out⟩
    · have hqn2 : (restW k l).length ≠ n := by rw [← HQ.out]; have := beq_eq_false_iff_ne.1 hqn; omega
      have HLM : Hid (lineM k n s = (List.replicate n [], ⟨r, true⟩)) := Lib.hid (lineM_len HBB.out HHL.out hqn2)
      clear hqn2
      go_wp2_with fail
      go_ret
      rw [HLM.out]
      exact par_new (s := ⟨r, false⟩) hn HFL.out (by simp) hB
end Go.Proofs.YtomclohfppbegaaGreatDoor

set_option maxRecDepth 100000
namespace Go.Proofs.YtomclohfppbegaaGreatDoor
open Go.ChangeShapes Go.WideShapes Go.ChangeAt Go.RowKit

theorem data_str (x : List UInt8) : (str x).data.toList = x := by simp [str]
def AtoiP (n : Int) (W : World) (e : Ending) (w' : World) : Prop := e = .returned (.tuple #[.int .i64 n, .nilIface]) ∧ Below W.heap.size W w'
def AtoiB (W : World) (e : Ending) (w' : World) : Prop := ∃ z t p, e = .returned (.tuple #[.int .i64 z, .iface t p]) ∧ Below W.heap.size W w'
theorem atoi_ok {x : List UInt8} {v : Int} (hx : x.length ≤ 8192) (h : Lib.atoiAll x = .ok v) (w : World) : Calls Tryz.prog 104 #[.string (str x)] w (AtoiP v w) := by
  refine (Tryz.strconv_Atoi_ok (str x) (by rw [str_size]; omega) v (by rw [data_str]; exact h) w).mono ?_
  rintro e w' ⟨rfl, rfl | ⟨t, rfl⟩⟩
  · exact ⟨rfl, Below.refl _ _⟩
  · exact ⟨rfl, Lib.bytesWorld_below _ _ _⟩
theorem atoi_bad {B : Nat} {x : List UInt8} (hx : x.length ≤ 8192) (h : ∀ v, Lib.atoiAll x ≠ .ok v) (w : World) (hE : Env B w) : Calls Tryz.prog 104 #[.string (str x)] w (AtoiB w) := by
  obtain ⟨_, _, ⟨t1, p1, _, h1⟩, t2, p2, _, h2⟩ := hE
  cases hq : Lib.atoiAll x
  · exact absurd hq (h _)
  · refine (Tryz.strconv_Atoi_syntax (str x) (by rw [str_size]; omega) (by rw [data_str]; exact hq) _ w h1 (.inr ⟨t1, p1, rfl⟩)).mono ?_
    rintro e w' ⟨N, rfl, _, _, hb⟩
    exact ⟨_, _, _, rfl, hb⟩
  · refine (Tryz.strconv_Atoi_range (str x) (by rw [str_size]; omega) (by rw [data_str]; exact hq) _ w h2 (.inr ⟨t2, p2, rfl⟩)).mono ?_
    rintro e w' ⟨N, rfl, _, _, hb⟩
    exact ⟨_, _, _, rfl, hb⟩
theorem itoa_all {B : Nat} (n : Int) (h0 : -9223372036854775808 ≤ n) (h1 : n ≤ 9223372036854775807) (w : World) (hE : Env B w) :
    Calls Tryz.prog 18 #[.int .i64 n] w fun e w' => e = .returned (.string (numS n)) ∧ Below w.heap.size w w' := by
  refine (Tryz.strconv_Itoa n h0 h1 w hE.1.here).mono ?_
  rintro e w' ⟨rfl, k, os, rfl⟩
  exact ⟨rfl, Lib.below_grow _ _ (Nat.le_refl _) k os⟩
theorem PAt.keepB {B b : Nat} {s : PS} {W W' : World} (h : PAt W b s) (hB : B ≤ b) (hb : Below W.heap.size W W') : PAt W' b s ∧ Fr B b W W' := ⟨h.below hb, Fr.of hb (by have := h.lt; omega)⟩
/-- Behind a failure. -/
theorem par_fail {B b : Nat} {s : PS} {W W1 : World} {v : Value} (hB : B ≤ b) (h : PAt W1 b s) (hf : Fr B b W W1) : ParPost B b v (failS s) W (.returned v) (W1.setCell ⟨b, 1, none⟩ (.bool true)) := ⟨rfl, h.fail, hf.set hB 1 _⟩
theorem bad_at {W : World} {b : Nat} {s : PS} (h : PAt W b s) : ∃ u bad, W.cell? ⟨b, 0, none⟩ = some u ∧ W.cell? ⟨b, 1, none⟩ = some (.bool bad) ∧ W.frozen? ⟨b, 1, none⟩ = false := by
  obtain ⟨a, c, h1, _⟩ := h
  obtain ⟨c0, c1, _, f1⟩ := h1.facts
  exact ⟨_, _, c0, c1, f1⟩
theorem numV_ok {x : List UInt8} {v : Int} (h : Lib.atoiAll x = .ok v) : numV x = if num v = x then some v else none := by rw [numV, h]
theorem numV_bad {x : List UInt8} (h : ∀ v, Lib.atoiAll x ≠ .ok v) : numV x = none := by
  unfold numV
  split
  · rename_i v hv; exact absurd hv (h v)
  · rfl
theorem str_inj {x y : List UInt8} (h : str x = str y) : x = y := by rw [← data_str x, h, data_str]
set_option maxHeartbeats 1000000 in
theorem number_par (B b : Nat) (x : List UInt8) (s : PS) (w : World) (h : PAt w b s) (hx : x.length ≤ 8192) (hB : B ≤ b) (hE : Env B w) :
    Calls Tryz.prog 64 #[.pointer (some ⟨b, 0, none⟩), .string (str x)] w (ParPost B b (.int .i64 (numM x s).1) (numM x s).2 w) := by
  have HP := Lib.hid h
  have HE := Lib.hid hE
  obtain ⟨X, hX⟩ : ∃ X, X = str x := ⟨_, rfl⟩
  by_cases hv : ∃ v, Lib.atoiAll x = .ok v
  · obtain ⟨v, hv⟩ := hv
    obtain ⟨v0, v1⟩ := Lib.atoiAll_bounds hv
    have HA : Hid (Calls Tryz.prog 104 #[.string X] w (AtoiP v w)) := Lib.hid (by rw [hX]; exact atoi_ok hx hv w)
    have HN := Lib.hid (numV_ok hv)
    have HX := Lib.hid hX
    rw [← hX]
    obtain ⟨V, hV⟩ : ∃ V, V = numS v := ⟨_, rfl⟩
    have HV := Lib.hid hV
    have HI : Hid (∀ W, Below w.heap.size w W → Calls Tryz.prog 18 #[.int .i64 v] W fun e w' => e = .returned (.string V) ∧ Below W.heap.size W w') := Lib.hid (fun W hb => by
      rw [hV]; exact itoa_all v v0 v1 W (HE.out.below (hb.mono (by have := h.lt; omega))))
    clear hX hv h hx hE hV
    go_enter Tryz.func64, Tryz.ntmps64
    go_wp2_with fail
    go_at_call 104; refine HA.out.mono ?_; rintro e w1 ⟨rfl, hb1⟩
    have HB1 := Lib.hid hb1
    clear hb1
    go_wp2_with fail
    go_at_call 18; refine (HI.out _ HB1.out).mono ?_; rintro e w2 ⟨rfl, hb2⟩
    have HB2 : Hid (Below w.heap.size w w2) := Lib.hid (HB1.out.trans (hb2.mono HB1.out.size))
    clear hb2
    have HP2 := Lib.hid (HP.out.keepB hB HB2.out)
    obtain ⟨u, bad, c0, c1, f1⟩ := bad_at HP2.out.1
    rcases Bool.eq_false_or_eq_true (V.toList == X.toList) with hne | hne
    · have HM : Hid (numM x s = (v, s)) := Lib.hid (by
        have e : num v = x := by
          have e := beq_iff_eq.1 hne
          rw [HV.out, HX.out, Lib.toList_data, Lib.toList_data, numS, data_str, data_str] at e
          exact e
        rw [numM, HN.out, if_pos e]; rfl)
      go_wp2_with fail
      go_ret
      rw [HM.out]
      exact ⟨rfl, HP2.out.1, HP2.out.2⟩
    · have HM : Hid (numM x s = (0, failS s)) := Lib.hid (by
        have e : num v ≠ x := fun e => by
          refine beq_eq_false_iff_ne.1 hne ?_
          rw [HV.out, HX.out, numS, e]
        rw [numM, HN.out, if_neg e]; rfl)
      go_wp2_with fail
      go_ret
      rw [HM.out]
      exact par_fail hB HP2.out.1 HP2.out.2
  · have hv2 : ∀ v, Lib.atoiAll x ≠ .ok v := fun v e => hv ⟨v, e⟩
    have HA : Hid (Calls Tryz.prog 104 #[.string X] w (AtoiB w)) := Lib.hid (by rw [hX]; exact atoi_bad hx hv2 w hE)
    have HM : Hid (numM x s = (0, failS s)) := Lib.hid (by rw [numM, numV_bad hv2]; rfl)
    rw [← hX]
    clear hX hv hv2 h hx hE
    go_enter Tryz.func64, Tryz.ntmps64
    go_wp2_with fail
    go_at_call 104; refine HA.out.mono ?_; rintro e w1 ⟨z, t, p, rfl, hb1⟩
    have HP2 := Lib.hid (HP.out.keepB hB hb1)
    clear hb1
    obtain ⟨u, bad, c0, c1, f1⟩ := bad_at HP2.out.1
    go_wp2_with fail
    go_ret
    rw [HM.out]
    exact par_fail hB HP2.out.1 HP2.out.2
set_option maxHeartbeats 1000000 in
theorem side_par (B b : Nat) (x : List UInt8) (s : PS) (w : World) (h : PAt w b s) (hx : x.length ≤ 8192) (hB : B ≤ b) (hE : Env B w) :
    Calls Tryz.prog 58 #[.pointer (some ⟨b, 0, none⟩), .string (str x)] w (ParPost B b (.int .i64 (sideM x s).1) (sideM x s).2 w) := by
  have HN : Hid (Calls Tryz.prog 64 #[.pointer (some ⟨b, 0, none⟩), .string (str x)] w (ParPost B b (.int .i64 (numM x s).1) (numM x s).2 w)) := Lib.hid (number_par B b x s w h hx hB hE)
  have HM : Hid (sideM x s = if inB (numM x s).1 1 8 = true then numM x s else (0, failS (numM x s).2)) := Lib.hid rfl
  obtain ⟨n, hn⟩ : ∃ n, n = (numM x s).1 := ⟨_, rfl⟩
  have HQ := Lib.hid hn
  obtain ⟨X, hX⟩ : ∃ X, X = str x := ⟨_, rfl⟩
  rw [← hn, ← hX] at HN
  rw [← hX]
  clear h hx hE hn hX
  go_enter Tryz.func58, Tryz.ntmps58
  go_wp2_with fail
  go_at_call 64; refine HN.out.mono ?_; rintro e w1 ⟨rfl, hp1, hf1⟩
  have HP := Lib.hid hp1
  have HF := Lib.hid hf1
  obtain ⟨u, bad, c0, c1, f1⟩ := bad_at hp1
  clear hp1 hf1
  rcases hc : inB n 1 8 with _ | _
  · have HM2 : Hid (sideM x s = (0, failS (numM x s).2)) := Lib.hid (by rw [HM.out, ← HQ.out, if_neg (by rw [hc]; decide)])
    rw [inB_no] at hc
    go_wp2_with fail
    all_goals
      go_ret
      rw [HM2.out]
      exact par_fail hB HP.out HF.out
  · have HM2 : Hid (sideM x s = numM x s) := Lib.hid (by rw [HM.out, ← HQ.out, if_pos hc])
    rw [inB_iff] at hc
    obtain ⟨hc1, hc2⟩ := hc
    go_wp2_with fail
    go_ret
    rw [HM2.out, ← HQ.out]
    exact ⟨rfl, HP.out, HF.out⟩
set_option maxHeartbeats 1000000 in
theorem flag_par (B b : Nat) (k : List UInt8) (s : PS) (w : World) (h : PAt w b s) (hk : k.length ≤ 100) (hB : B ≤ b) (hE : Env B w) :
    Calls Tryz.prog 61 #[.pointer (some ⟨b, 0, none⟩), .string (str k)] w (ParPost B b (.bool (flagM k s).1) (flagM k s).2 w) := by
  have HBG : Hid (Calls Tryz.prog 98 #[.pointer (some ⟨b, 0, none⟩), .string (str k)] w fun e w' => e = .returned (.bool (begM k s)) ∧ w = w') := Lib.hid (turned (begins_any b k s w h hk))
  have HL : Hid (Calls Tryz.prog 57 #[.pointer (some ⟨b, 0, none⟩), .string (str k), .int .i64 (0 : Nat)] w (WordsP B b (lineM k 0 s).1 (lineM k 0 s).2 w)) := Lib.hid (line_par B b k 0 s w h hk (by decide) hB hE)
  have HP := Lib.hid h
  obtain ⟨X, hX⟩ : ∃ X, X = str k := ⟨_, rfl⟩
  rw [← hX] at HBG HL ⊢
  cases hb : begM k s with
  | false =>
    have HM : Hid (flagM k s = (false, s)) := Lib.hid (by rw [flagM, if_neg (by rw [hb]; decide)])
    rw [hb] at HBG
    clear h hk hE hX hb
    go_enter Tryz.func61, Tryz.ntmps61
    go_wp2_with fail
    go_at_call 98; refine HBG.out.mono ?_; rintro e w' ⟨rfl, rfl⟩
    go_wp2_with fail
    go_ret
    rw [HM.out]
    exact ⟨rfl, HP.out, Fr.refl _ _ _⟩
  | true =>
    have HM : Hid (flagM k s = (true, (lineM k 0 s).2)) := Lib.hid (by rw [flagM, if_pos hb])
    rw [hb] at HBG
    clear h hk hE hX hb
    go_enter Tryz.func61, Tryz.ntmps61
    go_wp2_with fail
    go_at_call 98; refine HBG.out.mono ?_; rintro e w' ⟨rfl, rfl⟩
    go_wp2_with fail
    go_at_call 57; refine HL.out.mono ?_; rintro e w1 ⟨a, c, rfl, -, hp1, hf1⟩
    go_wp2_with fail
    go_ret
    rw [HM.out]
    exact ⟨rfl, hp1, hf1⟩
end Go.Proofs.YtomclohfppbegaaGreatDoor

set_option maxRecDepth 100000
namespace Go.Proofs.YtomclohfppbegaaGreatDoor
open Go.ChangeShapes Go.WideShapes Go.ChangeAt Go.RowKit

def optI (o : Option Int) : Int := o.getD (-1)
theorem optI_ge {α : Type} (p : α → Bool) (l : List α) : -1 ≤ optI (idxV p l) ∧ optI (idxV p l) ≤ l.length := by
  cases h : idxV p l with
  | none => simp [optI]
  | some v =>
    obtain ⟨i, x, h1, h2, _⟩ := idxV_some h
    have := (List.getElem?_eq_some_iff.1 h2).1
    simp [optI]; omega
theorem optI_lt {α : Type} {p : α → Bool} {l : List α} (h : optI (idxV p l) < 0) : idxV p l = none := by
  cases hq : idxV p l with
  | none => rfl
  | some v =>
    obtain ⟨i, x, h1, _, _⟩ := idxV_some hq
    rw [hq] at h; simp [optI] at h; omega
theorem optI_nn {α : Type} {p : α → Bool} {l : List α} (h : 0 ≤ optI (idxV p l)) : idxV p l = some (optI (idxV p l)) := by
  cases hq : idxV p l with
  | none => rw [hq] at h; simp [optI] at h
  | some v => rfl
theorem idxV_none {α : Type} {p : α → Bool} {l : List α} (h : ∀ (i : Nat) y, l[i]? = some y → p y = false) : idxV p l = none := by
  cases hq : idxV p l with
  | none => rfl
  | some v =>
    obtain ⟨i, x, _, h2, h3⟩ := idxV_some hq
    rw [h i x h2] at h3; cases h3
theorem idx_strs (ws : List (List UInt8)) (x : List UInt8) : Lib.idxOfS (ws.map str) (str x) = optI (idxV (fun y => y == x) ws) := by
  by_cases h : ∃ v, idxV (fun y => y == x) ws = some v
  · obtain ⟨v, hv⟩ := h
    have hv2 := hv
    unfold idxV at hv2
    rw [Option.map_eq_some_iff] at hv2
    obtain ⟨i, hi, rfl⟩ := hv2
    rw [List.findIdx?_eq_some_iff_getElem] at hi
    obtain ⟨h1, h2, h3⟩ := hi
    rw [hv]
    have e : ws[i] = x := beq_iff_eq.1 h2
    refine (Lib.idxFromS_hit (str x) (ws.map str) i 0 (by simpa using h1) ?_ ?_).trans (by simp [optI])
    · rw [List.getD, List.getElem?_map, List.getElem?_eq_getElem h1, e]; rfl
    · intro j hj
      rw [List.getD, List.getElem?_map, List.getElem?_eq_getElem (by omega)]
      intro e2
      have := h3 j hj
      have e3 : ws[j] = x := str_inj e2
      simp [e3] at this
  · have hn : idxV (fun y => y == x) ws = none := by
      cases hq : idxV (fun y => y == x) ws with
      | none => rfl
      | some v => exact absurd ⟨v, hq⟩ h
    rw [hn]
    have hm : ∀ y ∈ ws, y ≠ x := by
      intro y hy e
      have h2 : ws.findIdx? (fun y => y == x) = none := by
        unfold idxV at hn; simpa using hn
      rw [List.findIdx?_eq_none_iff] at h2
      have := h2 y hy
      simp [e] at this
    have key : ∀ (zs : List (List UInt8)) (i : Nat), (∀ y ∈ zs, y ≠ x) → Lib.idxFromS (zs.map str) (str x) i = -1 := by
      intro zs
      induction zs with
      | nil => intro i _; rfl
      | cons z zs ih =>
        intro i hz
        have h1 : str z ≠ str x := fun e => hz z (by simp) (str_inj e)
        rw [List.map_cons, Lib.idxFromS, if_neg (by simpa using h1)]
        exact ih (i + 1) (fun y hy => hz y (List.mem_cons_of_mem _ hy))
    exact key ws 0 hm
theorem optM_none {o : Option Int} (h : o = none) (s : PS) : optM o s = (0, failS s) := by rw [h]; rfl
theorem optM_some {o : Option Int} {v : Int} (h : o = some v) (s : PS) : optM o s = (v, s) := by rw [h]; rfl
set_option maxHeartbeats 1000000 in
theorem choice_par (B b g : Nat) (x : List UInt8) (ws : List (List UInt8)) (s : PS) (w : World) (h : PAt w b s) (hw : WBlk w g ws) (hB : B ≤ b) (hl : ws.length ≤ 9000) :
    Calls Tryz.prog 63 #[.pointer (some ⟨b, 0, none⟩), .string (str x), .slice (some ⟨g, 0, none⟩) ws.length ws.length] w (ParPost B b (.int .i64 (choiceM x ws s).1) (choiceM x ws s).2 w) := by
  obtain ⟨i, hi⟩ : ∃ i, i = optI (idxV (fun y => y == x) ws) := ⟨_, rfl⟩
  obtain ⟨X, hX⟩ : ∃ X, X = str x := ⟨_, rfl⟩
  obtain ⟨n, hn⟩ : ∃ n, n = ws.length := ⟨_, rfl⟩
  have HI : Hid (Calls Tryz.prog 103 #[.slice (some ⟨g, 0, none⟩) n n, .string X] w fun e w' => e = .returned (.int .i64 i) ∧ w = w') := Lib.hid (by
    have h1 := Tryz.slices_Index_string g 0 n n (ws.map str) X w (by simp; omega) (by omega) (fun j hj => by
      have hj2 : j < ws.length := by simpa using hj
      rw [Nat.zero_add, hw.words j ws[j] (List.getElem?_eq_getElem hj2), List.getD, List.getElem?_map, List.getElem?_eq_getElem hj2]; rfl)
    rw [List.take_of_length_le (by simp; omega), hX, idx_strs, ← hi, ← hX] at h1
    exact turned h1)
  have HP := Lib.hid h
  obtain ⟨u, bad, c0, c1, f1⟩ := bad_at h
  obtain ⟨k0, k1⟩ := optI_ge (fun y => y == x) ws
  rw [← hi] at k0 k1
  have HQ := Lib.hid hi
  have k2 : i ≤ 9000 := by omega
  rw [← hX, ← hn]
  clear h hw hX hi k1 hn hl
  rcases Int.lt_or_le i 0 with hneg | hpos
  · have HM : Hid (choiceM x ws s = (0, failS s)) := Lib.hid (optM_none (optI_lt (by rw [← HQ.out]; exact hneg)) s)
    go_enter Tryz.func63, Tryz.ntmps63
    go_wp2_with fail
    go_at_call 103; refine HI.out.mono ?_; rintro e w' ⟨rfl, rfl⟩
    go_wp2_with fail
    go_ret
    rw [HM.out]
    exact par_fail hB HP.out (Fr.refl _ _ _)
  · have HM : Hid (choiceM x ws s = (i, s)) := Lib.hid (by rw [HQ.out]; exact optM_some (optI_nn (by rw [← HQ.out]; exact hpos)) s)
    go_enter Tryz.func63, Tryz.ntmps63
    go_wp2_with fail
    go_at_call 103; refine HI.out.mono ?_; rintro e w' ⟨rfl, rfl⟩
    go_wp2_with fail
    go_ret
    rw [HM.out]
    exact ⟨rfl, HP.out, Fr.refl _ _ _⟩
set_option maxHeartbeats 1000000 in
theorem pieceFn_any (x : PieceD) (u : Value) (y : List UInt8) (g : Nat) (w : World) (h0 : 0 ≤ x.letter) (h1 : x.letter ≤ 255) (hb : w.cell? ⟨g, 0, none⟩ = some (.string (str y))) :
    Calls Tryz.prog 144 #[.agg #[.int .u8 x.letter, .int .i64 x.hand, .int .i64 x.promote, u], .pointer (some ⟨g, 0, none⟩)] w (BelPost (.bool (lettB x == y)) w) := by
  have hg := World.block_lt_of_cell? _ _ hb
  obtain ⟨Y, hY⟩ : ∃ Y, Y = str y := ⟨_, rfl⟩
  obtain ⟨L, hL⟩ : ∃ L, L = str (lettB x) := ⟨_, rfl⟩
  have HK : Hid ((L.toList == Y.toList) = (lettB x == y)) := Lib.hid (by rw [hL, hY, Lib.toList_data, Lib.toList_data, data_str, data_str])
  have HL : Hid (∀ W, Calls Tryz.prog 51 #[.agg #[.int .u8 x.letter, .int .i64 x.hand, .int .i64 x.promote, u]] W fun e w' => e = .returned (.string L) ∧ Below W.heap.size W w') := Lib.hid (fun W => by rw [hL]; exact letterT_any x u h0 h1 W)
  have hb1 := (Below.refl w.heap.size w).alloc (Nat.le_refl _) (.cells #[.int .u8 x.letter, .int .i64 x.hand, .int .i64 x.promote, u] 68)
  have hn1 := heap_alloc_new w (.cells #[.int .u8 x.letter, .int .i64 x.hand, .int .i64 x.promote, u] 68)
  rw [← hY] at hb
  clear hY hL h0 h1
  go_enter Tryz.func144, Tryz.ntmps144
  go_wp2_with fail
  have cy := cell_keeps hb1 (Nat.le_refl _) hb
  have hc : ∀ i, (w.alloc (.cells #[.int .u8 x.letter, .int .i64 x.hand, .int .i64 x.promote, u] 68)).cell? ⟨w.heap.size, i, none⟩ = (#[.int .u8 x.letter, .int .i64 x.hand, .int .i64 x.promote, u] : Array Value)[i]? := fun i => cell_of_row _ w.heap.size i _ _ (0, 0) hn1
  have p0 : (w.alloc (.cells #[.int .u8 x.letter, .int .i64 x.hand, .int .i64 x.promote, u] 68)).cell? ⟨w.heap.size, 0, none⟩ = some (.int .u8 x.letter) := hc 0
  have p1 : (w.alloc (.cells #[.int .u8 x.letter, .int .i64 x.hand, .int .i64 x.promote, u] 68)).cell? ⟨w.heap.size, 1, none⟩ = some (.int .i64 x.hand) := hc 1
  have p2 : (w.alloc (.cells #[.int .u8 x.letter, .int .i64 x.hand, .int .i64 x.promote, u] 68)).cell? ⟨w.heap.size, 2, none⟩ = some (.int .i64 x.promote) := hc 2
  have p3 : (w.alloc (.cells #[.int .u8 x.letter, .int .i64 x.hand, .int .i64 x.promote, u] 68)).cell? ⟨w.heap.size, 3, none⟩ = some (u) := hc 3
  have HB1 := Lib.hid hb1
  clear hb hc hb1 hn1
  generalize w.alloc (.cells #[.int .u8 x.letter, .int .i64 x.hand, .int .i64 x.promote, u] 68) = V at cy p0 p1 p2 p3 HB1 ⊢
  obtain ⟨q, hq⟩ : ∃ q, q = w.heap.size := ⟨_, rfl⟩
  rw [← hq] at p0 p1 p2 p3 HB1 ⊢
  have HQ := Lib.hid hq
  clear hq
  go_region_held3 (fun w' => w'.cell? ⟨q, 0, none⟩ = some (.int .u8 x.letter) ∧ w'.cell? ⟨q, 1, none⟩ = some (.int .i64 x.hand) ∧ w'.cell? ⟨q, 2, none⟩ = some (.int .i64 x.promote) ∧ w'.cell? ⟨q, 3, none⟩ = some u ∧ w'.cell? ⟨g, 0, none⟩ = some (.string Y)) (go_keep) (first | (go_at_call 51; refine (HL.out _).mono ?_; rintro e w2 ⟨rfl, hb2⟩; have hb2 := (Below.drew (Below.refl V.heap.size V)).trans hb2; have p0 := cell_keeps hb2 (Nat.le_refl _) p0; have p1 := cell_keeps hb2 (Nat.le_refl _) p1; have p2 := cell_keeps hb2 (Nat.le_refl _) p2; have p3 := cell_keeps hb2 (Nat.le_refl _) p3; have cy := cell_keeps hb2 (Nat.le_refl _) cy))
  go_wp2_with fail
  all_goals
    go_ret
    exact ⟨ret_bool HK.out, by rw [← HQ.out]; exact HB1.out.trans (hb2.mono (by have := HB1.out.size; rw [← HQ.out] at this; exact this))⟩
end Go.Proofs.YtomclohfppbegaaGreatDoor

set_option maxRecDepth 100000
namespace Go.Proofs.YtomclohfppbegaaGreatDoor
open Go.ChangeShapes Go.WideShapes Go.ChangeAt Go.RowKit

set_option maxHeartbeats 1000000 in
theorem idxPieces (ps : List PieceD) (y : List UInt8) (v : Value) (wb : Nat) (w : World) (hv : IsSl PieceAt 4 w v ps) (hl : ps.length ≤ 9000) (hf : LettersFit ps) (hb : w.cell? ⟨wb, 0, none⟩ = some (.string (str y))) :
    Calls Tryz.prog 143 #[v, .func (.func 144) #[] #[.pointer (some ⟨wb, 0, none⟩)]] w (BelPost (.int .i64 (optI (idxV (fun q => lettB q == y) ps))) w) := by
  obtain ⟨n, hn⟩ : ∃ n : Nat, n = ps.length := ⟨_, rfl⟩
  obtain ⟨a, cp, rfl, _, hcell⟩ := hv.shape hn
  have HN : Hid _ := Lib.hid hn
  have HC : Hid _ := Lib.hid hcell
  have HP : Hid (∀ (x : PieceD) (u : Value) W, x ∈ ps → Below w.heap.size w W → Calls Tryz.prog 144 #[.agg #[.int .u8 x.letter, .int .i64 x.hand, .int .i64 x.promote, u], .pointer (some ⟨wb, 0, none⟩)] W (BelPost (.bool (lettB x == y)) W)) := Lib.hid (fun x u W hx hW => pieceFn_any x u y wb W (hf x hx).1 (hf x hx).2 (cell_keeps hW (Nat.le_refl _) hb))
  rw [← hn] at hl
  clear hcell hn hv hf hb
  go_enter Tryz.func143, Tryz.ntmps143
  go_wp2
  go_loopw [8] (fun i wr => ∃ k : Nat, k ≤ n ∧ i = .int .i64 (k : Int) ∧ Hid (∀ j q, j < k → ps[j]? = some q → (lettB q == y) = false) ∧ Hid (Below w.heap.size w wr)) (fun i _ => n - (intOf i).toNat)
  case atStart => exact ⟨0, by omega, rfl, Lib.hid (fun j q hj => absurd hj (Nat.not_lt_zero _)), Lib.hid (Below.refl _ _)⟩
  case round =>
    obtain ⟨k, hk, rfl, hall, hbel⟩ := hrel
    by_cases hlt : k < n
    · obtain ⟨g, off, x, rfl, hx, u, c0, c1, c2, c3, -⟩ := HC.out k hlt
      have c0 := cell_keeps hbel.out (Nat.le_refl _) c0
      have c1 := cell_keeps hbel.out (Nat.le_refl _) c1
      have c2 := cell_keeps hbel.out (Nat.le_refl _) c2
      have c3 := cell_keeps hbel.out (Nat.le_refl _) c3
      have HX : Hid _ := Lib.hid hx
      have HQ : Hid _ := Lib.hid (HP.out x u wr (List.mem_of_getElem? hx) hbel.out)
      clear hx HC HP
      cases hpx : (lettB x == y)
      · rw [hpx] at HQ
        have KP : Hid _ := Lib.hid hpx
        clear hpx
        go_wp2_with fail
        go_at_call 144; refine HQ.out.mono ?_; rintro e w2 ⟨rfl, hb2⟩
        have HB : Hid (Below w.heap.size w w2) := Lib.hid (hbel.out.trans (hb2.mono hbel.out.size))
        clear hb2
        go_wp2_with fail
        go_roundw
        case rel =>
          refine ⟨k + 1, by omega, by go_num, Lib.hid (fun j q hj hq => ?_), HB⟩
          by_cases hjk : j < k
          · exact hall.out j q hjk hq
          · obtain rfl : k = j := by omega
            rw [HX.out] at hq
            obtain rfl := Option.some.inj hq
            exact KP.out
        case measure => simp [intOf]; omega
      · rw [hpx] at HQ
        have KP : Hid ((k : Int) = optI (idxV (fun q => lettB q == y) ps)) := Lib.hid (by rw [findIdx_at HX.out hpx (fun j q hj hq => hall.out j q hj hq)]; rfl)
        clear hpx
        go_wp2_with fail
        go_at_call 144; refine HQ.out.mono ?_; rintro e w2 ⟨rfl, hb2⟩
        have HB : Hid (Below w.heap.size w w2) := Lib.hid (hbel.out.trans (hb2.mono hbel.out.size))
        clear hb2
        go_wp2_with fail
        go_ret
        exact ⟨ret_i64 KP.out, HB.out⟩
    · have KP : Hid ((-1 : Int) = optI (idxV (fun q => lettB q == y) ps)) := Lib.hid (by
        rw [idxV_none (fun i q hq => hall.out i q (by have := (List.getElem?_eq_some_iff.1 hq).1; have := HN.out; omega) hq)]; rfl)
      go_wp2_with fail
      go_ret
      exact ⟨ret_i64 KP.out, hbel.out⟩
set_option maxHeartbeats 1000000 in
theorem piece_par (B b : Nat) (x : List UInt8) (ps : List PieceD) (v : Value) (s : PS) (w : World) (h : PAt w b s) (hv : IsSl PieceAt 4 w v ps) (hl : ps.length ≤ 9000) (hf : LettersFit ps) (hB : B ≤ b) :
    Calls Tryz.prog 100 #[.pointer (some ⟨b, 0, none⟩), .string (str x), v] w (ParPost B b (.int .i64 (pieceM x ps s).1) (pieceM x ps s).2 w) := by
  obtain ⟨i, hi⟩ : ∃ i, i = optI (idxV (fun q => lettB q == x) ps) := ⟨_, rfl⟩
  obtain ⟨X, hX⟩ : ∃ X, X = str x := ⟨_, rfl⟩
  have hb0 := (Below.refl w.heap.size w).alloc (Nat.le_refl _) (.cells #[.string X] 9)
  have HI : Hid (Calls Tryz.prog 143 #[v, .func (.func 144) #[] #[.pointer (some ⟨w.heap.size, 0, none⟩)]] (w.alloc (.cells #[.string X] 9)) (BelPost (.int .i64 i) (w.alloc (.cells #[.string X] 9)))) := Lib.hid (by
    rw [hi]
    refine idxPieces ps x v w.heap.size _ (hv.below piece_keeps hb0 (Nat.le_refl _)) hl hf ?_
    rw [cell_of_row _ w.heap.size 0 _ _ (0, 0) (heap_alloc_new w _), hX]; rfl)
  have HB0 := Lib.hid hb0
  have HP := Lib.hid h
  obtain ⟨k0, k1⟩ := optI_ge (fun q => lettB q == x) ps
  rw [← hi] at k0 k1
  have k2 : i ≤ 9000 := by omega
  have HQ := Lib.hid hi
  obtain ⟨a, cp, rfl, -, -⟩ := hv.shape (n := ps.length) rfl
  obtain ⟨n, hn⟩ : ∃ n, n = ps.length := ⟨_, rfl⟩
  rw [← hn] at HI ⊢
  rw [← hX]
  clear h hv hl hf hX hi k1 hb0 hn
  go_enter Tryz.func100, Tryz.ntmps100
  go_wp2_with fail
  go_at_call 143; refine HI.out.mono ?_; rintro e w1 ⟨rfl, hb1⟩
  have HP1 := Lib.hid (HP.out.keepB hB (HB0.out.trans (hb1.mono HB0.out.size)))
  clear hb1
  obtain ⟨u, bad, c0, c1, f1⟩ := bad_at HP1.out.1
  rcases Int.lt_or_le i 0 with hneg | hpos
  · have HM : Hid (pieceM x ps s = (0, failS s)) := Lib.hid (optM_none (optI_lt (by rw [← HQ.out]; exact hneg)) s)
    go_wp2_with fail
    go_ret
    rw [HM.out]
    exact par_fail hB HP1.out.1 HP1.out.2
  · have HM : Hid (pieceM x ps s = (i, s)) := Lib.hid (by rw [HQ.out]; exact optM_some (optI_nn (by rw [← HQ.out]; exact hpos)) s)
    go_wp2_with fail
    go_ret
    rw [HM.out]
    exact ⟨rfl, HP1.out.1, HP1.out.2⟩
theorem cellGo_at {c : UInt8} {ps : List PieceD} {k : Nat} {x : PieceD} (hx : ps[k]? = some x) : cellGo c (ps.drop k) k = if (c.toNat : Int) = x.letter then some (2 * (k : Int) + 1) else if (97 ≤ c.toNat ∧ c.toNat ≤ 122) ∧ (c.toNat : Int) = (x.letter + 32) % 256 then some (2 * (k : Int) + 2) else cellGo c (ps.drop (k + 1)) (k + 1) := by
  obtain ⟨h1, h2⟩ := List.getElem?_eq_some_iff.1 hx
  rw [List.drop_eq_getElem_cons h1, h2]; rfl
set_option maxHeartbeats 2000000 in
theorem cell_par (B b : Nat) (c : UInt8) (ps : List PieceD) (v : Value) (s : PS) (w : World) (h : PAt w b s) (hv : IsSl PieceAt 4 w v ps) (hl : ps.length ≤ 9000) (hf : LettersFit ps) (hB : B ≤ b) :
    Calls Tryz.prog 101 #[.pointer (some ⟨b, 0, none⟩), .int .u8 c.toNat, v] w (ParPost B b (.int .i64 (cellM c ps s).1) (cellM c ps s).2 w) := by
  obtain ⟨n, hn⟩ : ∃ n : Nat, n = ps.length := ⟨_, rfl⟩
  obtain ⟨a, cp, rfl, _, hcell⟩ := hv.shape hn
  have HN : Hid _ := Lib.hid hn
  have HC : Hid _ := Lib.hid hcell
  have HP := Lib.hid h
  have HF := Lib.hid hf
  obtain ⟨C, hC⟩ : ∃ C : Int, C = (c.toNat : Int) := ⟨_, rfl⟩
  have C0 : 0 ≤ C := by omega
  have C1 : C ≤ 255 := by have := c.toNat_lt; omega
  rw [← hn] at hl
  rw [← hC]
  by_cases h46 : c = 46
  · have e46 : C = 46 := by rw [hC, h46]; rfl
    have HM : Hid (cellM c ps s = (0, s)) := Lib.hid (by rw [cellM, cellV, if_pos h46]; rfl)
    subst e46
    clear hcell hn hv hf h hC h46
    go_enter Tryz.func101, Tryz.ntmps101
    go_wp2_with fail
    go_ret
    rw [HM.out]
    exact ⟨rfl, HP.out, Fr.refl _ _ _⟩
  · have e46 : C ≠ 46 := by
      intro e
      apply h46
      apply UInt8.toNat_inj.1
      show c.toNat = 46
      omega
    have HM : Hid (cellM c ps s = optM (cellGo c (ps.drop 0) 0) s) := Lib.hid (by rw [cellM, cellV, if_neg h46]; rfl)
    have HCC := Lib.hid hC
    clear hcell hn hv hf h hC h46
    go_enter Tryz.func101, Tryz.ntmps101
    go_wp2_with fail
    go_loopw [7, 8, 13, 18, 27] (fun _ _ i _ _ wr => ∃ k : Nat, k ≤ n ∧ i = .int .i64 (k : Int) ∧ Hid (cellM c ps s = optM (cellGo c (ps.drop k) k) s) ∧ Hid (Below w.heap.size w wr)) (fun _ _ i _ _ _ => n - (intOf i).toNat)
    case atStart => exact ⟨0, by omega, rfl, HM, Lib.hid (Below.refl _ _)⟩
    case round =>
      clear HM
      obtain ⟨k, hk, rfl, hinv, hbel⟩ := hrel
      by_cases hlt : k < n
      · obtain ⟨g, off, x, rfl, hx, u, c0, c1, c2, c3, hu⟩ := HC.out k hlt
        obtain ⟨nw, hnw⟩ : ∃ nw, nw = x.ways.length := ⟨_, rfl⟩
        obtain ⟨aw, cw, rfl, -, -⟩ := hu.shape hnw
        have c0 := cell_keeps hbel.out (Nat.le_refl _) c0
        have c1 := cell_keeps hbel.out (Nat.le_refl _) c1
        have c2 := cell_keeps hbel.out (Nat.le_refl _) c2
        have c3 := cell_keeps hbel.out (Nat.le_refl _) c3
        have hfx := HF.out x (List.mem_of_getElem? hx)
        have l0 := hfx.1
        have l1 := hfx.2
        have HX : Hid _ := Lib.hid (cellGo_at (c := c) hx)
        clear hx HC hfx hu hnw
        have hba := (Below.refl wr.heap.size wr).alloc (Nat.le_refl _) (.cells #[.int .u8 x.letter, .int .i64 x.hand, .int .i64 x.promote, .slice aw nw cw] 68)
        have HBA : Hid (Below w.heap.size w (wr.alloc (.cells #[.int .u8 x.letter, .int .i64 x.hand, .int .i64 x.promote, .slice aw nw cw] 68))) := Lib.hid (hbel.out.trans (hba.mono hbel.out.size))
        clear hba
        rcases Bool.eq_false_or_eq_true (C == x.letter) with e1 | e1
        · have HM : Hid (cellM c ps s = (2 * (k : Int) + 1, s)) := Lib.hid (by rw [hinv.out, HX.out, if_pos (by rw [← HCC.out]; exact beq_iff_eq.1 e1)]; rfl)
          go_wp2_with fail
          go_ret
          rw [HM.out]
          have hk2 := HP.out.keepB hB HBA.out
          exact ⟨rfl, hk2.1, hk2.2⟩
        · have n1 : ¬ (c.toNat : Int) = x.letter := by rw [← HCC.out]; exact beq_eq_false_iff_ne.1 e1
          by_cases hr : 97 ≤ C ∧ C ≤ 122
          · obtain ⟨r0, r1⟩ := hr
            rcases Bool.eq_false_or_eq_true (C == (x.letter + 32) % 256) with e2 | e2
            · have HM : Hid (cellM c ps s = (2 * (k : Int) + 1 + 1, s)) := Lib.hid (by
                rw [hinv.out, HX.out, if_neg n1, if_pos ⟨by have := HCC.out; omega, by rw [← HCC.out]; exact beq_iff_eq.1 e2⟩, Int.add_assoc]; rfl)
              clear n1
              go_wp2_with fail
              go_ret
              rw [HM.out]
              have hk2 := HP.out.keepB hB HBA.out
              exact ⟨rfl, hk2.1, hk2.2⟩
            · have HM : Hid (cellM c ps s = optM (cellGo c (ps.drop (k + 1)) (k + 1)) s) := Lib.hid (by
                rw [hinv.out, HX.out, if_neg n1, if_neg (fun h => by have := h.2; rw [← HCC.out] at this; exact beq_eq_false_iff_ne.1 e2 this)])
              clear n1
              go_wp2_with fail
              go_roundw
              case rel => exact ⟨k + 1, by omega, by go_num, HM, HBA⟩
              case measure => simp [intOf]; omega
          · have HM : Hid (cellM c ps s = optM (cellGo c (ps.drop (k + 1)) (k + 1)) s) := Lib.hid (by
              rw [hinv.out, HX.out, if_neg n1, if_neg (fun h => hr (by have := h.1; have := HCC.out; omega))])
            clear n1
            rcases Int.lt_or_le C 97 with r0 | r0
            · clear hr
              go_wp2_with fail
              refine ⟨⟨_, _, _, _, ⟨k + 1, by omega, rfl, HM⟩, rfl, rfl, rfl, by simp⟩, by simp [intOf]; omega⟩
            · have r1 : 122 < C := by omega
              clear hr
              go_wp2_with fail
              refine ⟨⟨_, _, _, _, ⟨k + 1, by omega, rfl, HM⟩, rfl, rfl, rfl, by simp⟩, by simp [intOf]; omega⟩
      · have HM : Hid (cellM c ps s = (0, failS s)) := Lib.hid (by
          rw [hinv.out, List.drop_eq_nil_of_le (by have := HN.out; omega)]; rfl)
        have HK2 := Lib.hid (HP.out.keepB hB hbel.out)
        obtain ⟨u, bad, c0, c1, f1⟩ := bad_at HK2.out.1
        go_wp2_with fail
        go_ret
        rw [HM.out]
        exact par_fail hB HK2.out.1 HK2.out.2
end Go.Proofs.YtomclohfppbegaaGreatDoor

set_option maxRecDepth 100000
namespace Go.Proofs.YtomclohfppbegaaGreatDoor
open Go.ChangeShapes Go.WideShapes Go.ChangeAt Go.RowKit

/-- Blocks of a type are as they were. -/
def KT (t : TypeId) (W W' : World) : Prop := ∀ (k : Nat) cs fr, W.heap[k]? = some (.cells cs t fr) → W'.heap[k]? = some (.cells cs t fr)
theorem KT.refl (t : TypeId) (W : World) : KT t W W := fun _ _ _ h => h
theorem KT.trans {t : TypeId} {W W1 W2 : World} (h : KT t W W1) (k : KT t W1 W2) : KT t W W2 := fun i cs fr hc => k i cs fr (h i cs fr hc)
theorem KT.of {t : TypeId} {W W' : World} (h : Below W.heap.size W W') : KT t W W' := fun k _ _ hc => (h.block k (Array.getElem?_eq_some_iff.1 hc).1).trans hc
theorem Fr.kt {B b : Nat} {W W' : World} (h : Fr B b W W') {v : Value} {bad : Bool} (hb : ParBox W b v bad) {t : TypeId} (ht : t ≠ 75) : KT t W W' := by
  intro k cs fr hc
  refine h.heap (fun e => ht ?_) hc
  subst e
  unfold ParBox at hb
  rw [hb] at hc
  simp only [Option.some.injEq, Obj.cells.injEq] at hc
  exact hc.2.1.symm
theorem PAt.kt {B b : Nat} {W W' : World} {s : PS} (hp : PAt W b s) (h : Fr B b W W') {t : TypeId} (ht : t ≠ 75) : KT t W W' := by
  obtain ⟨a, c, h1, _⟩ := hp
  exact h.kt h1 ht
theorem own_block {W : World} {base : Nat} {e : TypeId} {size n : Nat} {v : Value} {xs : List Value} (h : W.ownsRow base e size v n xs) : ∀ k, v.ownBlock = some k → base ≤ k ∧ k < W.heap.size ∧ ∃ cs fr, W.heap[k]? = some (.cells cs e fr) := by
  intro k hk
  rcases h.2 with ⟨rfl, _⟩ | ⟨g, cap, cur, rfl, hb, hg, _⟩
  · cases hk
  · obtain rfl : g = k := by simpa [Value.ownBlock] using hk
    exact ⟨hb, (Array.getElem?_eq_some_iff.1 hg).1, _, _, hg⟩
theorem KT.grown {t e : TypeId} {base size n : Nat} {v : Value} {xs : List Value} {W W' : World} (hown : W.ownsRow base e size v n xs) (hg : W.grownBy W' v.ownBlock) (ht : t ≠ e) : KT t W W' := by
  intro k cs fr hc
  refine (hg.block k (Array.getElem?_eq_some_iff.1 hc).1 (fun h => ?_)).trans hc
  obtain ⟨_, _, cs2, fr2, h2⟩ := own_block hown k h.symm
  rw [hc] at h2
  simp only [Option.some.injEq, Obj.cells.injEq] at h2
  exact ht h2.2.1
theorem own_fr {B b : Nat} {W W' : World} {base : Nat} {e : TypeId} {size n : Nat} {v : Value} {xs : List Value} (h : W.ownsRow base e size v n xs) (hf : Fr B b W W') (hb : b < base) : W'.ownsRow base e size v n xs := by
  refine ⟨h.1, ?_⟩
  rcases h.2 with hn | ⟨g, cap, cur, rfl, h1, h2, rest⟩
  · exact .inl hn
  · exact .inr ⟨g, cap, cur, rfl, h1, hf.heap (by omega) h2, rest⟩
theorem own_kt {W W' : World} {base : Nat} {e : TypeId} {size n : Nat} {v : Value} {xs : List Value} (h : W.ownsRow base e size v n xs) (hf : KT e W W') : W'.ownsRow base e size v n xs := by
  refine ⟨h.1, ?_⟩
  rcases h.2 with hn | ⟨g, cap, cur, rfl, h1, h2, rest⟩
  · exact .inl hn
  · exact .inr ⟨g, cap, cur, rfl, h1, hf _ _ _ h2, rest⟩
theorem own_slice {W : World} {base : Nat} {e : TypeId} {size n : Nat} {v : Value} {xs : List Value} (h : W.ownsRow base e size v n xs) : ∃ a cap, v = .slice a n cap := by
  rcases h.2 with ⟨rfl, rfl⟩ | ⟨g, cap, cur, rfl, _⟩
  · exact ⟨_, _, rfl⟩
  · exact ⟨_, _, rfl⟩
theorem Fr.grown {B b : Nat} {w W W' : World} {row : Option Nat} (h : Fr B b w W) (hg : W.grownBy W' row) (hrow : ∀ k, row = some k → w.heap.size ≤ k) (hB : B ≤ w.heap.size) : Fr B b w W' := by
  have hs := h.1.size
  refine ⟨⟨hg.os.trans h.1.os, hg.tape.trans h.1.tape, hg.output.trans h.1.output, Nat.le_trans hs hg.size, fun k hk => ?_⟩, fun k hk hb => ?_⟩
  · exact (hg.block k (by omega) (fun e => by have := hrow k e.symm; omega)).trans (h.1.block k hk)
  · exact (hg.block k (by omega) (fun e => by have := hrow k e.symm; omega)).trans (h.2 k hk hb)
theorem PAt.grown {b : Nat} {W W' : World} {s : PS} {row : Option Nat} (h : PAt W b s) (hg : W.grownBy W' row) (hrow : ∀ k, row = some k → b < k) : PAt W' b s := by
  have hlt := h.lt
  obtain ⟨a, c, h1, h2, h3, h4, h5⟩ := h
  have key : ∀ k, k ≤ b → W'.heap[k]? = W.heap[k]? := fun k hk => hg.block k (by omega) (fun e => by have := hrow k e.symm; omega)
  refine ⟨a, c, (key b (Nat.le_refl _)).trans h1, h2, h3, fun hn => ?_, h5⟩
  obtain ⟨g, o, e, hgb, ⟨cs, fr, ht⟩, hc⟩ := h4 hn
  exact ⟨g, o, e, hgb, ⟨cs, fr, (key g (by omega)).trans ht⟩, fun i x hx => (World.cell?_of_block (w := W) (key g (by omega))).trans (hc i x hx)⟩
/-- The state at W, and what has turned since w. -/
def StAt (B b : Nat) (w W : World) (s : PS) : Prop := PAt W b s ∧ Fr B b w W
theorem StAt.below {B b : Nat} {w W W' : World} {s : PS} (h : StAt B b w W s) (hb : Below W.heap.size W W') (hB : B ≤ b) : StAt B b w W' s :=
  ⟨h.1.below hb, h.2.trans (h.1.keepB hB hb).2⟩
theorem StAt.drew {B b : Nat} {w W : World} {s : PS} (h : StAt B b w W s) (hB : B ≤ b) : StAt B b w W.drew s := h.below (Below.drew (Below.refl _ _)) hB
theorem StAt.grown {B b : Nat} {w W W' : World} {s : PS} {row : Option Nat} (h : StAt B b w W s) (hg : W.grownBy W' row) (hrow : ∀ k, row = some k → w.heap.size ≤ k) (hB : B ≤ w.heap.size) (hb : b < w.heap.size) : StAt B b w W' s :=
  ⟨h.1.grown hg (fun k hk => by have := hrow k hk; omega), h.2.grown hg hrow hB⟩
theorem StAt.trans {B b : Nat} {w W W' : World} {s t : PS} (h : StAt B b w W s) (k : StAt B b W W' t) : StAt B b w W' t := ⟨k.1, h.2.trans k.2⟩
theorem StAt.refl {B b : Nat} {w : World} {s : PS} (h : PAt w b s) : StAt B b w w s := ⟨h, Fr.refl _ _ _⟩
theorem StAt.env {B b : Nat} {w W : World} {s : PS} (h : StAt B b w W s) (hE : Env B w) : Env B W := hE.below h.2.1
def StP (B b : Nat) (w : World) (v : Value) (s : PS) (e : Ending) (w' : World) : Prop := e = .returned v ∧ StAt B b w w' s
theorem par_st {B b : Nat} {w W : World} {s t : PS} {v : Value} {f : FuncId} {args : Array Value} (h : StAt B b w W s) (hc : Calls Tryz.prog f args W (ParPost B b v t W)) : Calls Tryz.prog f args W (StP B b w v t) :=
  hc.mono fun _ _ ⟨h1, h2, h3⟩ => ⟨h1, h2, h.2.trans h3⟩

/-! ### Slices of structs, typed -/
def TyBlk (W : World) (g : Nat) (t : TypeId) : Prop := ∃ cs fr, W.heap[g]? = some (.cells cs t fr)
theorem TyBlk.kt {t : TypeId} {W W' : World} {g : Nat} (h : TyBlk W g t) (k : KT t W W') : TyBlk W' g t := by
  obtain ⟨cs, fr, h⟩ := h
  exact ⟨cs, fr, k _ _ _ h⟩
theorem TyBlk.cell {t : TypeId} {W W' : World} {g o : Nat} {v : Value} (h : TyBlk W g t) (k : KT t W W') (hc : W.cell? ⟨g, o, none⟩ = some v) : W'.cell? ⟨g, o, none⟩ = some v := by
  obtain ⟨cs, fr, h⟩ := h
  exact (World.cell?_of_block (w := W) ((k _ _ _ h).trans h.symm)).trans hc
def WayT (W : World) (g o : Nat) (x : WayD) : Prop := TyBlk W g 106 ∧ WayAt W g o x
def EndT (W : World) (g o : Nat) (x : EndD) : Prop := TyBlk W g 70 ∧ EndAt W g o x
def IntT (W : World) (g o : Nat) (x : Int) : Prop := TyBlk W g 3 ∧ IntAt W g o x
theorem isSl_map {α : Type} {q q' : World → Nat → Nat → α → Prop} {k : Nat} {W W' : World} {v : Value} {xs : List α} (h : IsSl q k W v xs) (hq : ∀ g o x, q W g o x → q' W' g o x) : IsSl q' k W' v xs := by
  rcases h with h | ⟨g, off, cap, e1, e2, e3, e4, hc⟩
  · exact .inl h
  · exact .inr ⟨g, off, cap, e1, e2, e3, e4, fun i x hx => hq _ _ _ (hc i x hx)⟩
theorem WayT.kt {W W' : World} {g o : Nat} {x : WayD} (h : WayT W g o x) (k : KT 106 W W') : WayT W' g o x :=
  ⟨h.1.kt k, h.1.cell k h.2.1, h.1.cell k h.2.2.1, h.1.cell k h.2.2.2.1, h.1.cell k h.2.2.2.2⟩
theorem EndT.kt {W W' : World} {g o : Nat} {x : EndD} (h : EndT W g o x) (k : KT 70 W W') : EndT W' g o x :=
  ⟨h.1.kt k, h.1.cell k h.2.1, h.1.cell k h.2.2.1, h.1.cell k h.2.2.2.1, h.1.cell k h.2.2.2.2⟩
theorem IntT.kt {W W' : World} {g o : Nat} {x : Int} (h : IntT W g o x) (k : KT 3 W W') : IntT W' g o x := ⟨h.1.kt k, h.1.cell k h.2⟩
/-- A type of pieces whose ways are typed. -/
def PieceT (W : World) (g o : Nat) (x : PieceD) : Prop :=
  TyBlk W g 68 ∧ ∃ v, W.cell? ⟨g, o, none⟩ = some (.int .u8 x.letter) ∧ W.cell? ⟨g, o + 1, none⟩ = some (.int .i64 x.hand) ∧ W.cell? ⟨g, o + 2, none⟩ = some (.int .i64 x.promote) ∧ W.cell? ⟨g, o + 3, none⟩ = some v ∧ IsSl WayT 4 W v x.ways
theorem PieceT.kt {W W' : World} {g o : Nat} {x : PieceD} (h : PieceT W g o x) (k : KT 68 W W') (k2 : KT 106 W W') : PieceT W' g o x := by
  obtain ⟨h0, v, h1, h2, h3, h4, h5⟩ := h
  exact ⟨h0.kt k, v, h0.cell k h1, h0.cell k h2, h0.cell k h3, h0.cell k h4, isSl_map h5 fun _ _ _ h => h.kt k2⟩
theorem PieceT.plain {W : World} {g o : Nat} {x : PieceD} (h : PieceT W g o x) : PieceAt W g o x := by
  obtain ⟨_, v, h1, h2, h3, h4, h5⟩ := h
  exact ⟨v, h1, h2, h3, h4, isSl_map h5 fun _ _ _ h => h.2⟩
/-- The cells of a list, one element behind the other. -/
def cellsL {α : Type} (f : α → List Value) (l : List α) : List Value := (l.map f).flatten
theorem cellsL_len {α : Type} {f : α → List Value} {k : Nat} (hf : ∀ x, (f x).length = k) : ∀ l : List α, (cellsL f l).length = l.length * k
  | [] => by simp [cellsL]
  | x :: l => by
    have := cellsL_len hf l
    simp only [cellsL, List.map_cons, List.flatten_cons, List.length_append, List.length_cons, hf, Nat.succ_mul] at this ⊢
    omega
theorem cellsL_at {α : Type} {f : α → List Value} {k : Nat} (hf : ∀ x, (f x).length = k) : ∀ (l : List α) (i : Nat) (x : α), l[i]? = some x → ∀ j, j < k → (cellsL f l)[i * k + j]? = (f x)[j]?
  | [], i, x, h, _, _ => by simp at h
  | y :: l, 0, x, h, j, hj => by
    obtain rfl := Option.some.inj h
    simp only [cellsL, List.map_cons, List.flatten_cons, Nat.zero_mul, Nat.zero_add]
    rw [List.getElem?_append_left (by rw [hf]; exact hj)]
  | y :: l, i + 1, x, h, j, hj => by
    have := cellsL_at hf l i x (by simpa using h) j hj
    simp only [cellsL, List.map_cons, List.flatten_cons] at this ⊢
    rw [List.getElem?_append_right (by rw [hf, Nat.succ_mul]; omega), hf, Nat.succ_mul, show i * k + k + j - k = i * k + j by omega]
    exact this
theorem cellsL_snoc {α : Type} (f : α → List Value) (l : List α) (x : α) : cellsL f (l ++ [x]) = cellsL f l ++ f x := by simp [cellsL]
theorem own_isSl {α : Type} {q : World → Nat → Nat → α → Prop} {f : α → List Value} {k : Nat} (hf : ∀ x, (f x).length = k) {W : World} {base : Nat} {e : TypeId} {v : Value} {l : List α} (h : W.ownsRow base e k v l.length (cellsL f l))
    (hq : ∀ g o x, x ∈ l → TyBlk W g e → (∀ j u, (f x)[j]? = some u → W.cell? ⟨g, o + j, none⟩ = some u) → q W g o x) : IsSl q k W v l := by
  rcases h.2 with ⟨rfl, h0⟩ | ⟨g, cap, cur, rfl, hb, hg, hnc, hcm, hcs, htk⟩
  · exact .inl ⟨List.length_eq_zero_iff.1 h0, _, _, rfl⟩
  · by_cases hl : l = []
    · subst hl; exact .inl ⟨rfl, _, _, rfl⟩
    · refine .inr ⟨g, 0, cap, rfl, hl, hnc, hcm, fun i x hx => hq _ _ _ (List.mem_of_getElem? hx) ⟨_, _, hg⟩ fun j u hu => ?_⟩
      have hj : j < k := by have := (List.getElem?_eq_some_iff.1 hu).1; rw [hf] at this; exact this
      have hi : i < l.length := (List.getElem?_eq_some_iff.1 hx).1
      have h2 := cellsL_at hf l i x hx j hj
      have hlt : i * k + j < l.length * k := by
        have : (i + 1) * k ≤ l.length * k := Nat.mul_le_mul_right k hi
        rw [Nat.succ_mul] at this; omega
      rw [Nat.zero_add, h.cellAt (i * k + j) hlt, h2, hu]
def wayCells (x : WayD) : List Value := [.int .i64 x.dx, .int .i64 x.dy, .int .i64 x.most, .int .i64 x.take]
theorem own_ways {W : World} {base : Nat} {v : Value} {l : List WayD} (h : W.ownsRow base 106 4 v l.length (cellsL wayCells l)) : IsSl WayT 4 W v l :=
  own_isSl (k := 4) (fun _ => rfl) h fun _ _ _ _ ht hc => ⟨ht, hc 0 _ rfl, hc 1 _ rfl, hc 2 _ rfl, hc 3 _ rfl⟩
def endCells (x : EndD) : List Value := [.int .i64 x.kind, .int .i64 x.piece, .int .i64 x.count, .bool x.loses]
theorem own_ends {W : World} {base : Nat} {v : Value} {l : List EndD} (h : W.ownsRow base 70 4 v l.length (cellsL endCells l)) : IsSl EndT 4 W v l :=
  own_isSl (k := 4) (fun _ => rfl) h fun _ _ _ _ ht hc => ⟨ht, hc 0 _ rfl, hc 1 _ rfl, hc 2 _ rfl, hc 3 _ rfl⟩
def lenOf (v : Value) : Nat := match v with
  | .slice _ n _ => n
  | _ => 0
end Go.Proofs.YtomclohfppbegaaGreatDoor

set_option maxRecDepth 100000
namespace Go.Proofs.YtomclohfppbegaaGreatDoor
open Go.ChangeShapes Go.WideShapes Go.ChangeAt Go.RowKit
attribute [local go_sem ↓] Go.wp_at_zero Go.wp_at_succ

theorem lineM_ls {k : List UInt8} {n : Nat} {s : PS} (h : begM k s = true) : (lineM k n s).2.ls = s.ls.tail := by
  rw [lineM, if_pos h]
  split <;> rfl
theorem optM_ls (o : Option Int) (s : PS) : (optM o s).2.ls = s.ls := by cases o <;> rfl
theorem wayM_ls {s : PS} (h : begM kWay s = true) : (wayM s).2.ls = s.ls.tail := by
  show (choiceM _ _ _).2.ls = _
  rw [choiceM, optM_ls]
  show (numM _ _).2.ls = _
  rw [numM, optM_ls]
  show (numM _ _).2.ls = _
  rw [numM, optM_ls]
  show (numM _ _).2.ls = _
  rw [numM, optM_ls, lineM_ls h]
theorem waysGo_no {s : PS} (h : begM kWay s = false) (f : Nat) : waysGo f s = ([], s) := by
  cases f with
  | zero => rfl
  | succ f => rw [waysGo, if_neg (by rw [h]; decide)]
theorem words_at {W : World} {ok : Nat → Prop} {ws : List (List UInt8)} {a : Option Addr} {c n : Nat} (h : Strs W ok ws a c) (hn : ws.length = n) (h0 : 0 < n) : n ≤ c ∧ c ≤ 9000 ∧ ∃ g o, a = some ⟨g, o, none⟩ ∧ ok g ∧ StrBlk W g ∧ (∀ i, i < n → W.cell? ⟨g, o + i, none⟩ = some (.string (str (wd ws i)))) ∧ ∀ i, (wd ws i).length ≤ 8192 := by
  obtain ⟨h1, h2, h3, h4⟩ := h
  obtain ⟨g, o, e, hg, ht, hc⟩ := h3 (by intro e; rw [e] at hn; simp at hn; omega)
  refine ⟨by omega, h2, g, o, e, hg, ht, fun i hi => ?_, fun i => ?_⟩
  · have hx : ws[i]? = some ws[i] := List.getElem?_eq_getElem (by omega)
    rw [hc i _ hx, wd, hx]; rfl
  · unfold wd
    cases hx : ws[i]? with
    | none => simp
    | some x => exact h4 x (List.mem_of_getElem? hx)
theorem info_way : (Tryz.prog.info? 106).map (fun i => (i.zero, i.size, i.bytes)) = some (some (.agg #[.int .i64 0, .int .i64 0, .int .i64 0, .int .i64 0]), 4, 32) := by kernel_rfl
def WaysP (B b : Nat) (s : PS) (w : World) (e : Ending) (w' : World) : Prop := ∃ v, e = .returned v ∧ IsSl WayT 4 w' v (waysM s).1 ∧ PAt w' b (waysM s).2 ∧ Fr B b w w'
set_option maxHeartbeats 8000000 in
theorem ways_par (B b : Nat) (s : PS) (w : World) (h : PAt w b s) (hB : B ≤ b) (hE : Env B w) :
    Calls Tryz.prog 99 #[.pointer (some ⟨b, 0, none⟩)] w (WaysP B b s w) := by
  obtain ⟨i0, hi0, hz0, hz1, hz2⟩ := info_parts info_way
  have hbw := h.lt
  have hN9 : s.ls.length ≤ 9000 := by
    obtain ⟨a, c, _, h1, h2, _⟩ := h
    omega
  obtain ⟨N, hN⟩ : ∃ N, N = s.ls.length := ⟨_, rfl⟩
  have HN := Lib.hid hN
  have HE := Lib.hid hE
  have HS0 : Hid (StAt B b w w s) := Lib.hid (StAt.refl h)
  have HR0 : Hid ((([] : List WayD) ++ (waysGo N s).1, (waysGo N s).2) = waysM s) := Lib.hid (by rw [hN]; rfl)
  have HL0 : Hid (s.ls.length ≤ N) := Lib.hid (by omega)
  have HO0 : Hid (w.ownsRow w.heap.size 106 4 (.slice none 0 0) ([] : List WayD).length (cellsL wayCells [])) := Lib.hid (World.ownsRow_nil _ _ _ _)
  rw [← hN] at hN9
  clear h hE hN
  go_enter Tryz.func99, Tryz.ntmps99
  go_wp2_with fail
  go_loopw [3, 4] (fun v _ wr => ∃ (done : List WayD) (σ : PS) (f : Nat), done.length + f = N ∧ (∃ a cap, v = .slice a done.length cap) ∧ Hid (wr.ownsRow w.heap.size 106 4 v done.length (cellsL wayCells done)) ∧ Hid (StAt B b w wr σ) ∧ Hid (σ.ls.length ≤ f) ∧ Hid ((done ++ (waysGo f σ).1, (waysGo f σ).2) = waysM s)) (fun v _ _ => N - lenOf v)
  case atStart => exact ⟨[], s, N, by simp, ⟨_, _, rfl⟩, HO0, HS0, HL0, HR0⟩
  case round =>
    clear HO0 HS0 HL0 HR0
    obtain ⟨done, σ, f, hf, ⟨va, vc, rfl⟩, hown, hst, hlen, hrel⟩ := hrel
    obtain ⟨dl, hdl⟩ : ∃ dl, dl = done.length := ⟨_, rfl⟩
    have HDL := Lib.hid hdl
    rw [← hdl] at hf hown ⊢
    clear hdl
    have HBG : Hid (Calls Tryz.prog 98 #[.pointer (some ⟨b, 0, none⟩), .string ⟨#[119, 97, 121]⟩] wr fun e w' => e = .returned (.bool (begM kWay σ)) ∧ wr = w') := Lib.hid (turned (begins_any b kWay σ wr hst.out.1 (by decide)))
    cases hb : begM kWay σ with
    | false =>
      rw [hb] at HBG
      have HP : Hid (WaysP B b s w (.returned (.slice va dl vc)) wr) := Lib.hid (by
        have h1 := hrel.out
        rw [waysGo_no hb f, List.append_nil] at h1
        refine ⟨_, rfl, ?_, ?_, hst.out.2⟩
        · rw [← h1]; have h2 := hown.out; rw [HDL.out] at h2 ⊢; exact own_ways h2
        · rw [← h1]; exact hst.out.1)
      clear hb hown hst hlen hrel
      go_wp2_with fail
      go_at_call 98; refine HBG.out.mono ?_; rintro e w' ⟨rfl, rfl⟩
      go_wp2_with fail
      go_ret
      exact HP.out
    | true =>
      rw [hb] at HBG
      obtain ⟨f, rfl⟩ : ∃ f', f = f' + 1 := by
        obtain ⟨l, r, hl, _, _⟩ := beg_cases hb
        have := hlen.out
        rw [hl, List.length_cons] at this
        exact ⟨f - 1, by omega⟩
      have HBE := Lib.hid hb
      have HL : Hid (Calls Tryz.prog 57 #[.pointer (some ⟨b, 0, none⟩), .string ⟨#[119, 97, 121]⟩, .int .i64 (4 : Nat)] wr (WordsP B b (lineM kWay 4 σ).1 (lineM kWay 4 σ).2 wr)) := Lib.hid (line_par B b kWay 4 σ wr hst.out.1 (by decide) (by decide) hB (hst.out.env HE.out))
      clear hb
      go_wp2_with fail
      go_at_call 98; refine HBG.out.mono ?_; rintro e w' ⟨rfl, rfl⟩
      go_wp2_with fail
      go_at_call 57; refine HL.out.mono ?_; rintro e W ⟨wa, wc, rfl, hws, hpW, hfW⟩
      have hwl := (lineM_rd kWay 4 σ).2
      obtain ⟨c4, c9, g, o, rfl, hgb, htb, hcw, hsm⟩ := words_at hws hwl (by decide)
      rw [hwl]
      have HSM := Lib.hid hsm
      have HST : Hid (StAt B b W W.drew (lineM kWay 4 σ).2) := Lib.hid ((StAt.refl hpW).drew hB)
      have HOW : Hid (W.ownsRow w.heap.size 106 4 (.slice va dl vc) dl (cellsL wayCells done)) := Lib.hid (own_fr hown.out hfW hbw)
      have HTB : Hid (TyBlk W g 9) := Lib.hid htb
      have HWR : Hid (StAt B b w W (lineM kWay 4 σ).2) := Lib.hid (hst.out.trans ⟨hpW, hfW⟩)
      have x0 := hcw 0 (by decide)
      have x1 := hcw 1 (by decide)
      have x2 := hcw 2 (by decide)
      have x3 := hcw 3 (by decide)
      rw [Nat.add_zero] at x0
      have HEW : Hid (Env B W) := Lib.hid (HWR.out.env HE.out)
      obtain ⟨X0, hX0⟩ : ∃ X, X = str (wd (lineM kWay 4 σ).1 0) := ⟨_, rfl⟩
      obtain ⟨X1, hX1⟩ : ∃ X, X = str (wd (lineM kWay 4 σ).1 1) := ⟨_, rfl⟩
      obtain ⟨X2, hX2⟩ : ∃ X, X = str (wd (lineM kWay 4 σ).1 2) := ⟨_, rfl⟩
      obtain ⟨X3, hX3⟩ : ∃ X, X = str (wd (lineM kWay 4 σ).1 3) := ⟨_, rfl⟩
      have K0 : Hid (∀ V, StAt B b W V (lineM kWay 4 σ).2 → Calls Tryz.prog 64 #[.pointer (some ⟨b, 0, none⟩), .string X0] V (StP B b W (.int .i64 (wayA σ).1) (wayA σ).2)) := Lib.hid (fun V hV => by
        rw [hX0]; exact par_st hV (number_par B b _ _ V hV.1 (hsm 0) hB (hV.env HEW.out)))
      have K1 : Hid (∀ V, StAt B b W V (wayA σ).2 → Calls Tryz.prog 64 #[.pointer (some ⟨b, 0, none⟩), .string X1] V (StP B b W (.int .i64 (wayB2 σ).1) (wayB2 σ).2)) := Lib.hid (fun V hV => by
        rw [hX1]; exact par_st hV (number_par B b _ _ V hV.1 (hsm 1) hB (hV.env HEW.out)))
      have K2 : Hid (∀ V, StAt B b W V (wayB2 σ).2 → Calls Tryz.prog 64 #[.pointer (some ⟨b, 0, none⟩), .string X2] V (StP B b W (.int .i64 (wayC σ).1) (wayC σ).2)) := Lib.hid (fun V hV => by
        rw [hX2]; exact par_st hV (number_par B b _ _ V hV.1 (hsm 2) hB (hV.env HEW.out)))
      have K3 : Hid (∀ V gt, StAt B b W V (wayC σ).2 → WBlk V gt wTakes → Calls Tryz.prog 63 #[.pointer (some ⟨b, 0, none⟩), .string X3, .slice (some ⟨gt, 0, none⟩) 3 3] V (StP B b W (.int .i64 (wayT σ).1) (wayT σ).2)) := Lib.hid (fun V gt hV hw => by
        rw [hX3]; exact par_st hV (choice_par B b gt _ wTakes _ V hV.1 hw hB (by decide)))
      have HRL : Hid ((done ++ [(wayM σ).1] ++ (waysGo f (wayM σ).2).1, (waysGo f (wayM σ).2).2) = waysM s) := Lib.hid (by
        rw [← hrel.out, waysGo, if_pos HBE.out]; simp)
      have HLN : Hid ((wayM σ).2.ls.length ≤ f) := Lib.hid (by
        rw [wayM_ls HBE.out, List.length_tail]; have := hlen.out; omega)
      obtain ⟨n0, hn0⟩ : ∃ n, n = (wayA σ).1 := ⟨_, rfl⟩
      obtain ⟨n1, hn1⟩ : ∃ n, n = (wayB2 σ).1 := ⟨_, rfl⟩
      obtain ⟨n2, hn2⟩ : ∃ n, n = (wayC σ).1 := ⟨_, rfl⟩
      obtain ⟨n3, hn3⟩ : ∃ n, n = (wayT σ).1 := ⟨_, rfl⟩
      obtain ⟨s0, hs0⟩ : ∃ n, n = (lineM kWay 4 σ).2 := ⟨_, rfl⟩
      obtain ⟨s1, hs1⟩ : ∃ n, n = (wayA σ).2 := ⟨_, rfl⟩
      obtain ⟨s2, hs2⟩ : ∃ n, n = (wayB2 σ).2 := ⟨_, rfl⟩
      obtain ⟨s3, hs3⟩ : ∃ n, n = (wayC σ).2 := ⟨_, rfl⟩
      have HWC : Hid (wayCells (wayM σ).1 = [.int .i64 n0, .int .i64 n1, .int .i64 n2, .int .i64 n3]) := Lib.hid (by rw [hn0, hn1, hn2, hn3]; rfl)
      rw [← hX0] at x0
      rw [← hX1] at x1
      rw [← hX2] at x2
      rw [← hX3] at x3
      rw [← hn0, ← hs0, ← hs1] at K0
      rw [← hn1, ← hs1, ← hs2] at K1
      rw [← hn2, ← hs2, ← hs3] at K2
      rw [← hn3, ← hs3] at K3
      rw [← hs0] at HST HWR
      have hdn : dl ≤ 9000 := by omega
      have hWs : Hid (w.heap.size ≤ W.heap.size) := Lib.hid HWR.out.2.1.size
      clear hown hst hlen hrel hws hpW hfW hsm hcw hwl hX0 hX1 hX2 hX3 hn0 hn1 hn2 hn3 hs0 hs1 hs2 hs3 HBG HL htb
      go_wp2_with fail
      go_region_held3 (fun w' => w'.cell? ⟨g, o, none⟩ = some (.string X0) ∧ w'.cell? ⟨g, o + 1, none⟩ = some (.string X1) ∧ w'.cell? ⟨g, o + 2, none⟩ = some (.string X2) ∧ w'.cell? ⟨g, o + 3, none⟩ = some (.string X3)) (go_keep) (first
        | (go_at_call 64; refine (K2.out _ H2.out).mono ?_; rintro e V3 ⟨rfl, h3⟩; have H3 := Lib.hid h3; have y0 := h3.2.cell hgb x0; have y1 := h3.2.cell hgb x1; have y2 := h3.2.cell hgb x2; have y3 := h3.2.cell hgb x3; clear h3)
        | (go_at_call 64; refine (K1.out _ H1.out).mono ?_; rintro e V2 ⟨rfl, h2⟩; have H2 := Lib.hid h2; have y0 := h2.2.cell hgb x0; have y1 := h2.2.cell hgb x1; have y2 := h2.2.cell hgb x2; have y3 := h2.2.cell hgb x3; clear h2)
        | (go_at_call 64; refine (K0.out _ HST.out).mono ?_; rintro e V1 ⟨rfl, h1⟩; have H1 := Lib.hid h1; have y0 := h1.2.cell hgb x0; have y1 := h1.2.cell hgb x1; have y2 := h1.2.cell hgb x2; have y3 := h1.2.cell hgb x3; clear h1)
        | (go_at_call 52; refine (takeWords_any _).mono ?_; rintro e V4 ⟨gt, rfl, hwd, hb4⟩; have h4 := H3.out.below hb4 hB; have H4 := Lib.hid h4; have HWD := Lib.hid hwd; have y0 := h4.2.cell hgb x0; have y1 := h4.2.cell hgb x1; have y2 := h4.2.cell hgb x2; have y3 := h4.2.cell hgb x3; clear h4 hwd hb4)
        | (go_at_call 63; refine (K3.out _ gt H4.out HWD.out).mono ?_; rintro e V5 ⟨rfl, h5⟩; have H5 := Lib.hid h5; have HO5 := Lib.hid (own_fr HOW.out h5.2 hbw); have HT5 := Lib.hid (show TyBlk V5 g 9 from let ⟨cs, fr, hh⟩ := HTB.out; ⟨cs, fr, h5.2.heap hgb hh⟩); have y0 := h5.2.cell hgb x0; have y1 := h5.2.cell hgb x1; have y2 := h5.2.cell hgb x2; have y3 := h5.2.cell hgb x3; have hV5 := h5.2.1.size; clear h5)
        | (refine step_append_lies _ (by rfl) _ _ _ (by rfl) w.heap.size 106 i0 _ 4 32 Tryz.underlying66 hi0 hz0 hz1 hz2 rfl (by omega) (.slice va dl vc) dl (cellsL wayCells done) (by rfl) (HO5.out.alloc _) ⟨V5.heap.size, 0, none⟩ 1 1 [.int .i64 n0, .int .i64 n1, .int .i64 n2, .int .i64 n3] (by rfl) (by rfl) (World.news_of_block (cs := #[.int .i64 n0, .int .i64 n1, .int .i64 n2, .int .i64 n3]) (t := 106) (fr := (0, 0)) (heap_alloc_new V5 _)) (by simp [Value.oneCell']) (by omega) (by unfold maxLen; omega) (by omega) (by have := hWs.out; simp; omega) (V5.heap.size + 1) (by simp) ?_; intro gg cap W6 hown6 hgrow hat hlt; have H6 := Lib.hid hgrow; have H7 := Lib.hid hown6; have hk6 : KT 9 V5 W6 := (KT.of ((Below.refl _ _).alloc (Nat.le_refl _) _)).trans (KT.grown (HO5.out.alloc _) hgrow (by decide)); have y0 := HT5.out.cell hk6 y0; have y1 := HT5.out.cell hk6 y1; have y2 := HT5.out.cell hk6 y2; have y3 := HT5.out.cell hk6 y3; clear hown6 hgrow hat hlt hk6))
      have HO7 : Hid (W6.ownsRow w.heap.size 106 4 (.slice (some ⟨gg, 0, none⟩) (dl + 1) cap) (done ++ [(wayM σ).1]).length (cellsL wayCells (done ++ [(wayM σ).1]))) := Lib.hid (by
        rw [cellsL_snoc, HWC.out, List.length_append, ← HDL.out]; exact H7.out)
      have HS7 : Hid (StAt B b w W6 (wayM σ).2) := Lib.hid ((HWR.out.trans (H5.out.below ((Below.refl _ _).alloc (Nat.le_refl _) _) hB)).grown H6.out (fun k hk => (own_block HO5.out k hk).1) (by omega) hbw)
      go_wp2_with fail
      go_roundw
      case rel => exact ⟨done ++ [(wayM σ).1], (wayM σ).2, f, by rw [List.length_append, ← HDL.out]; simp; omega, ⟨_, _, by rw [List.length_append, ← HDL.out]; rfl⟩, HO7, HS7, HLN, HRL⟩
      case measure => simp [lenOf]; omega
end Go.Proofs.YtomclohfppbegaaGreatDoor
