/- ruletext's parser: line. -/
import Derived.Test.YtjfkecadfnepjaaGreatDoorPar
set_option maxRecDepth 100000
namespace Go.Proofs.YtjfkecadfnepjaaGreatDoor
open Go.ChangeShapes Go.WideShapes Go.ChangeAt Go.RowKit

/-- A package's variable that lies below B, of a known value. -/
def Glo (B g : Nat) (v : Value) (w : World) : Prop := g < B ∧ w.cell? ⟨g, 0, none⟩ = some v
theorem Glo.below {B g : Nat} {v : Value} {w w' : World} (h : Glo B g v w) (hb : Below B w w') : Glo B g v w' := ⟨h.1, (hb.cell (p := ⟨g, 0, none⟩) h.1).trans h.2⟩
theorem Glo.up {B B' g : Nat} {v : Value} {w w' : World} (h : Glo B g v w) (hb : Below B w w') (hB : B ≤ B') : Glo B' g v w' := ⟨Nat.lt_of_lt_of_le h.1 hB, (h.below hb).2⟩
/-- What the library's functions here read. -/
def Env (B : Nat) (w : World) : Prop := Tb B w ∧ (∃ m, Glo B 0 (.int .i64 m) w) ∧ (∃ t p, Glo B 4 (.iface t p) w) ∧ ∃ t p, Glo B 5 (.iface t p) w
theorem Env.below {B : Nat} {w w' : World} (h : Env B w) (hb : Below B w w') : Env B w' := by
  obtain ⟨h1, ⟨m, h2⟩, ⟨t, p, h3⟩, t2, p2, h4⟩ := h
  exact ⟨h1.below hb, ⟨m, h2.below hb⟩, ⟨t, p, h3.below hb⟩, t2, p2, h4.below hb⟩
theorem Tb.upP {B B' : Nat} {w w' : World} (h : Tb B w) (hb : Below B w w') (hB : B ≤ B') : Tb B' w' := fun w2 h2 => h w2 (hb.trans (h2.mono hB))
theorem Env.up {B B' : Nat} {w w' : World} (h : Env B w) (hb : Below B w w') (hB : B ≤ B') : Env B' w' := by
  obtain ⟨h1, ⟨m, h2⟩, ⟨t, p, h3⟩, t2, p2, h4⟩ := h
  exact ⟨h1.upP hb hB, ⟨m, h2.up hb hB⟩, ⟨t, p, h3.up hb hB⟩, t2, p2, h4.up hb hB⟩

theorem str_data (x : ByteArray) : str x.data.toList = x := Lib.mk_data x
theorem strs_cells (ls : List (List UInt8)) (xs : List ByteArray) (h : xs.map (·.data.toList) = ls) : xs.map Value.string = ls.map fun x => Value.string (str x) := by
  subst h
  rw [List.map_map]
  apply List.map_congr_left
  intro x _
  simp only [Function.comp_apply, str_data]
theorem split_any {B : Nat} (c : UInt8) (X : ByteArray) (w : World) (hX : X.size ≤ 100000) (hE : Env B w) :
    Calls Tryz.prog 24 #[.string X, .string ⟨#[c]⟩] w fun e w' => e = .returned (.slice (some ⟨w.heap.size, 0, none⟩) (cutB c X.data.toList).length (cutB c X.data.toList).length) ∧ w' = w.alloc (.cells ((cutB c X.data.toList).map fun x => Value.string (str x)).toArray 9) := by
  obtain ⟨_, ⟨m, _, hm⟩, _⟩ := hE
  have h1 : 1 ≤ (⟨#[c]⟩ : ByteArray).size := Nat.le_refl 1
  have e0 : Lib.countB X ⟨#[c]⟩ = Lib.count X.data.toList [c] := rfl
  have e1 : (Lib.splitB ⟨#[c]⟩ 0 (Lib.countB X ⟨#[c]⟩) X).map (·.data.toList) = cutB c X.data.toList := by
    rw [Lib.splitB_data]
    exact lib_splitK c _ _ (Nat.le_refl _) _ e0.symm
  have e2 : Lib.countB X ⟨#[c]⟩ + 1 = (cutB c X.data.toList).length := by
    rw [← e1, List.length_map, Lib.splitB_all _ h1 0 _ X rfl]
  have h := Tryz.strings_Split X ⟨#[c]⟩ m w (by omega) hm h1
  rw [e2, strs_cells _ _ e1] at h
  exact h
theorem make_strs (n : Nat) (hn : n ≤ 4) : ∀ w : World, Sem.run Tryz.prog (Instr.makeSlice 36 (.int .i64 n) (.int .i64 n)) w = .ok (.slice (some ⟨w.heap.size, 0, none⟩) n n) (w.alloc (.cells (Array.replicate n (.string ⟨#[]⟩)) 9)) := by
  intro w
  obtain rfl | rfl | rfl | rfl | rfl : n = 0 ∨ n = 1 ∨ n = 2 ∨ n = 3 ∨ n = 4 := by omega
  all_goals kernel_rfl
theorem slice_tail (g o n c : Nat) (h : n + 1 ≤ c) (h2 : c ≤ 9000) : ∃ A : Option Addr, (n ≠ 0 → A = some ⟨g, o + 1, none⟩) ∧ ∀ w, Sem.run Tryz.prog (Instr.slice 36 (.slice (some ⟨g, o, none⟩) (n + 1) c) (some (.int .i64 1)) none none) w = .ok (.slice A n (c - 1)) w := by
  by_cases hc : c = 1
  · obtain rfl : n = 0 := by omega
    subst hc
    refine ⟨some ⟨g, o, none⟩, fun h => absurd rfl h, fun w => ?_⟩
    go_simp
  · refine ⟨some ⟨g, o + 1, none⟩, fun _ => rfl, fun w => ?_⟩
    go_simp
    intro hx
    omega
/-- What line leaves. -/
def WordsP (B b : Nat) (ws : List (List UInt8)) (s : PS) (W : World) (e : Ending) (w' : World) : Prop := ∃ a c, e = .returned (.slice a ws.length c) ∧ Strs w' (fun g => g ≠ b) ws a c ∧ PAt w' b s ∧ Fr B b W w'
theorem cut_small {c : UInt8} {n : Nat} : ∀ {l : List UInt8}, l.length ≤ n → ∀ w ∈ cutB c l, w.length ≤ n
  | [], _, w, h => by simp only [cutB, List.mem_singleton] at h; subst h; simp
  | x :: l, hl, w, h => by
    rw [List.length_cons] at hl
    unfold cutB at h
    split at h
    · rcases List.mem_cons.1 h with rfl | h
      · simp
      · exact cut_small (by omega) w h
    · rcases List.mem_cons.1 h with rfl | h
      · have : ((cutB c l).headD []).length ≤ n - 1 := cut_small (c := c) (n := n - 1) (l := l) (by omega) _ (by rw [cut_split c l]; simp)
        rw [List.length_cons]; omega
      · exact cut_small (c := c) (l := l) (by omega) w (List.mem_of_mem_tail h)
theorem rest_small {k l : List UInt8} (hl : l.length ≤ 8192) : (∀ w ∈ restW k l, w.length ≤ 8192) ∧ (restW k l).length ≤ 8193 := by
  have h1 : (l.drop k.length).length ≤ 8192 := by rw [List.length_drop]; omega
  refine ⟨fun w h => cut_small h1 w (List.mem_of_mem_tail h), ?_⟩
  have := cut_len 32 (l.drop k.length)
  rw [restW, List.length_tail]; omega
theorem beg_cases {k : List UInt8} {s : PS} (h : begM k s = true) : ∃ l r, s.ls = l :: r ∧ s.bad = false ∧ k.length ≤ l.length := by
  cases hb : s.bad with
  | true => rw [begM_bad hb] at h; cases h
  | false =>
    cases hl : s.ls with
    | nil => rw [begM_none hl] at h; cases h
    | cons l r =>
      rw [begM_cons hb hl, Lib.hasPrefix, List.isPrefixOf_iff_prefix] at h
      have := h.length_le
      simp at this
      exact ⟨l, r, rfl, rfl, this⟩
theorem lineM_no {k : List UInt8} {n : Nat} {s : PS} (h : begM k s = false) : lineM k n s = (List.replicate n [], failS s) := by
  rw [lineM, if_neg (by rw [h]; decide)]; rfl
theorem lineM_yes {k l : List UInt8} {r : List (List UInt8)} {n : Nat} {s : PS} (h : begM k s = true) (hl : s.ls = l :: r) (hn : (restW k l).length = n) : lineM k n s = (restW k l, ⟨r, s.bad⟩) := by
  have e : (restW k (s.ls.headD [])).length = n := by rw [hl]; exact hn
  rw [lineM, if_pos h, if_pos e, hl]; rfl
theorem lineM_len {k l : List UInt8} {r : List (List UInt8)} {n : Nat} {s : PS} (h : begM k s = true) (hl : s.ls = l :: r) (hn : (restW k l).length ≠ n) : lineM k n s = (List.replicate n [], ⟨r, true⟩) := by
  have e : ¬ (restW k (s.ls.headD [])).length = n := by rw [hl]; exact hn
  rw [lineM, if_pos h, if_neg e, hl]; rfl
theorem strs_new (W : World) (b n : Nat) (hn : n ≤ 4) (hb : b < W.heap.size) : Strs (W.alloc (.cells (Array.replicate n (.string ⟨#[]⟩)) 9)) (fun g => g ≠ b) (List.replicate n []) (some ⟨W.heap.size, 0, none⟩) n := by
  refine ⟨by simp, by omega, fun _ => ⟨W.heap.size, 0, rfl, by omega, ⟨_, _, heap_alloc_new W _⟩, fun i x hx => ?_⟩, fun x hx => by rw [List.eq_of_mem_replicate hx]; simp⟩
  rw [cell_of_row _ W.heap.size (0 + i) _ _ (0, 0) (heap_alloc_new W _)]
  obtain ⟨h1, h2⟩ := List.getElem?_eq_some_iff.1 hx
  rw [List.length_replicate] at h1
  rw [List.getElem_replicate] at h2
  subst h2
  simp only [Nat.zero_add, Array.getElem?_replicate, if_pos h1]
  rfl
theorem line_left {B b g o m c c2 : Nat} {r : List (List UInt8)} {bad : Bool} {a2 : Option Addr} {w w1 : World} (hB : B ≤ b) (hbx : ParBox w1 b (.slice (some ⟨g, o, none⟩) (m + 1) c) bad) (hf : Fr B b w w1) (hm : m = r.length) (h1 : m + 1 ≤ c) (h2 : c ≤ 9000) (hc2 : c2 = c - 1) (ha : m ≠ 0 → a2 = some ⟨g, o + 1, none⟩)
    (hat : r ≠ [] → ∃ g' o', (some ⟨g, o + 1, none⟩ : Option Addr) = some ⟨g', o', none⟩ ∧ g' < b ∧ StrBlk w g' ∧ ∀ i x, r[i]? = some x → w.cell? ⟨g', o' + i, none⟩ = some (.string (str x))) (h4 : ∀ x ∈ r, x.length ≤ 8192) :
    PAt (w1.setCell ⟨b, 0, none⟩ (.slice a2 m c2)) b ⟨r, bad⟩ ∧ Fr B b w (w1.setCell ⟨b, 0, none⟩ (.slice a2 m c2)) := by
  have hF := hf.set hB 0 (.slice a2 m c2)
  refine ⟨⟨a2, c2, ?_, ?_⟩, hF⟩
  · have := hbx.set0 (.slice a2 m c2)
    rw [hm] at this ⊢; exact this
  · refine ⟨by show r.length ≤ c2; omega, by omega, fun hn => ?_, h4⟩
    have hm0 : m ≠ 0 := by rw [hm]; intro e; exact hn (List.length_eq_zero_iff.1 e)
    obtain ⟨g', o', e, hg, ⟨cs, fr, ht⟩, hc⟩ := hat hn
    exact ⟨g', o', (ha hm0).trans e, hg, ⟨cs, fr, hF.heap (lt_ne _ hg) ht⟩, fun i x hx => hF.cell (lt_ne _ hg) (hc i x hx)⟩
theorem strs_zero {W : World} {ok : Nat → Prop} {ls : List (List UInt8)} {a : Option Addr} {c : Nat} (h : ls.length = 0) (hc : c ≤ 9000) : Strs W ok ls a c := by
  have := List.length_eq_zero_iff.1 h
  subst this
  exact ⟨Nat.zero_le _, hc, fun h => absurd rfl h, fun x hx => by cases hx⟩
/-- What is left where a line did not have the form. -/
theorem par_new {B b n N : Nat} {s : PS} {W W1 : World} (hn : n ≤ 4) (h : PAt W1 b s ∧ Fr B b W W1) (hN : N = W1.heap.size) (hB : B ≤ b) : WordsP B b (List.replicate n []) (failS s) W (.returned (.slice (some ⟨N, 0, none⟩) n n)) ((W1.setCell ⟨b, 1, none⟩ (.bool true)).alloc (.cells (Array.replicate n (.string ⟨#[]⟩)) 9)) := by
  have hlt := h.1.lt
  have hsz : (W1.setCell ⟨b, 1, none⟩ (.bool true)).heap.size = W1.heap.size := by simp
  refine ⟨_, _, by rw [List.length_replicate], ?_, ?_, ?_⟩
  · have := strs_new (W1.setCell ⟨b, 1, none⟩ (.bool true)) b n hn (by rw [hsz]; exact hlt)
    rw [hsz, ← hN] at this
    exact this
  · exact h.1.fail.below ((Below.refl _ _).alloc (Nat.le_refl _) _)
  · exact (h.2.set hB 1 _).trans (Fr.of ((Below.refl _ _).alloc (Nat.le_refl _) _) (by rw [hsz]; omega))
set_option maxHeartbeats 2000000 in
theorem line_par (B b : Nat) (k : List UInt8) (n : Nat) (s : PS) (w : World) (h : PAt w b s) (hk : k.length ≤ 100) (hn : n ≤ 4) (hB : B ≤ b) (hE : Env B w) :
    Calls Tryz.prog 46 #[.pointer (some ⟨b, 0, none⟩), .string (str k), .int .i64 n] w (WordsP B b (lineM k n s).1 (lineM k n s).2 w) := by
  have hlt := h.lt
  have HBG : Hid (Calls Tryz.prog 68 #[.pointer (some ⟨b, 0, none⟩), .string (str k)] w fun e w' => e = .returned (.bool (begM k s)) ∧ w = w') := Lib.hid (turned (begins_any b k s w h hk))
  have hmk := make_strs n hn
  have HS : Hid _ := Lib.hid h
  cases hb : begM k s with
  | false =>
    rw [lineM_no hb]
    rw [hb] at HBG
    obtain ⟨a, c, hbx, -⟩ := h
    obtain ⟨-, c1, -, f1⟩ := hbx.facts
    clear hbx hE hb
    go_enter Tryz.func46, Tryz.ntmps46
    go_wp2_with fail
    go_at_call 68; refine HBG.out.mono ?_; rintro e w' ⟨rfl, rfl⟩
    go_wp2_with fail
    go_ret
    exact par_new hn ⟨HS.out, Fr.refl B b w⟩ rfl hB
  | true =>
    obtain ⟨l, r, hl, hbad, hkl⟩ := beg_cases hb
    obtain ⟨a, c, hbx, h1, h2, h3, h4⟩ := h
    rw [hl] at h1 h3 h4
    obtain ⟨g, o, rfl, hgb, hsb, hat⟩ := h3 (by simp)
    have cl := hat 0 l rfl
    rw [Nat.add_zero] at cl
    have hl8 : l.length ≤ 8192 := h4 l (by simp)
    obtain ⟨m, hm⟩ : ∃ m, m = r.length := ⟨_, rfl⟩
    rw [hl, hbad, List.length_cons, ← hm] at hbx
    rw [List.length_cons, ← hm] at h1
    obtain ⟨c0, c1, f0, f1⟩ := hbx.facts
    rw [hb] at HBG
    obtain ⟨L, hL⟩ : ∃ L, L = str l := ⟨_, rfl⟩
    obtain ⟨S, hS⟩ : ∃ S, S = str k := ⟨_, rfl⟩
    have z1 : L.size ≤ 8192 := by rw [hL, str_size]; exact hl8
    have z2 : S.size ≤ L.size := by rw [hS, hL, str_size, str_size]; exact hkl
    rw [← hS] at HBG ⊢
    rw [← hL] at cl
    have HSS := Lib.hid hS
    have HLL := Lib.hid hL
    have HMM := Lib.hid hm
    have HHL := Lib.hid hl
    have HH4 := Lib.hid h4
    have HAT := Lib.hid hat
    have HBB := Lib.hid hb
    have HBD := Lib.hid hbad
    have HBX := Lib.hid hbx
    have HEE := Lib.hid hE
    obtain ⟨q, hq⟩ : ∃ q, q = (restW k l).length := ⟨_, rfl⟩
    obtain ⟨w1, hw1⟩ : ∃ w1, w1 = w.alloc (.cells ((cutB 32 (l.drop k.length)).map fun x => Value.string (str x)).toArray 9) := ⟨_, rfl⟩
    have HQ := Lib.hid hq
    have hX : (L.extract S.size L.size).data.toList = l.drop k.length := by
      rw [Lib.extract_data, hS, hL, str_size, str_size]
      show (l.drop k.length).take _ = _
      rw [List.take_of_length_le (by rw [List.length_drop]; omega)]
    have hql : (cutB 32 (l.drop k.length)).length = q + 1 := by rw [cut_split, List.length_cons, hq, restW]
    have hq8 : q ≤ 8193 := by rw [hq]; exact (rest_small hl8).2
    have HSP : Hid (Calls Tryz.prog 24 #[.string (L.extract S.size L.size), .string ⟨#[32]⟩] w fun e w' => e = .returned (.slice (some ⟨w.heap.size, 0, none⟩) (q + 1) (q + 1)) ∧ w1 = w') := Lib.hid (by
      have h1 := split_any 32 (L.extract S.size L.size) w (by rw [ByteArray.size_extract]; omega) hE
      rw [hX, hql, ← hw1] at h1
      exact h1.mono (fun e w' h => ⟨h.1, h.2.symm⟩))
    have hb1 : Below w.heap.size w w1 := by rw [hw1]; exact (Below.refl _ _).alloc (Nat.le_refl _) _
    have hwb : ∀ i x, (restW k l)[i]? = some x → w1.cell? ⟨w.heap.size, 1 + i, none⟩ = some (.string (str x)) := by
      intro i x hx
      rw [hw1, cell_of_row _ w.heap.size (1 + i) _ _ (0, 0) (heap_alloc_new w _)]
      rw [List.getElem?_toArray, List.getElem?_map, cut_split, Nat.add_comm, List.getElem?_cons_succ]
      rw [restW] at hx
      rw [hx]; rfl
    have HRS : Hid (Strs w1 (fun g => g ≠ b) (restW k l) (some ⟨w.heap.size, 1, none⟩) q) := Lib.hid ⟨by omega, by omega, fun _ => ⟨_, _, rfl, by omega, ⟨_, _, by rw [hw1]; exact heap_alloc_new w _⟩, hwb⟩, (rest_small hl8).1⟩
    have HF1 : Hid (Fr B b w w1) := Lib.hid (Fr.of hb1 (by omega))
    have hbx1 : ParBox w1 b (.slice (some ⟨g, o, none⟩) (m + 1) c) false := (hb1.block b hlt).trans hbx
    have HBX1 := Lib.hid hbx1
    obtain ⟨d0, d1, k0, k1⟩ := hbx1.facts
    have HW1 : Hid (w.heap.size ≤ w1.heap.size) := Lib.hid hb1.size
    have HAT1 : Hid (r ≠ [] → ∃ g' o', (some ⟨g, o + 1, none⟩ : Option Addr) = some ⟨g', o', none⟩ ∧ g' < b ∧ StrBlk w g' ∧ ∀ i x, r[i]? = some x → w.cell? ⟨g', o' + i, none⟩ = some (.string (str x))) := Lib.hid (fun _ => ⟨g, o + 1, rfl, hgb, hsb, fun i x hx => by
      have := hat (i + 1) x (by simpa using hx)
      rwa [show o + (i + 1) = o + 1 + i by omega] at this⟩)
    clear hk hS hL hm hl h4 h3 hat hb hbad hbx hE hl8 hkl hX hql hw1 hwb hb1 hbx1 hq
    go_enter Tryz.func46, Tryz.ntmps46
    go_wp2_with fail
    go_at_call 68; refine HBG.out.mono ?_; rintro e w' ⟨rfl, rfl⟩
    go_wp2_with fail
    obtain ⟨A1, hA1, hs1⟩ := slice_tail w.heap.size 0 q (q + 1) (Nat.le_refl _) (by omega)
    obtain ⟨A2, hA2, hs2⟩ := slice_tail g o m c h1 h2
    have HA1 := Lib.hid hA1
    clear hA1
    have HL4 : Hid (∀ x ∈ r, x.length ≤ 8192) := Lib.hid (fun x hx => HH4.out x (List.mem_cons_of_mem _ hx))
    have HFL : Hid (PAt (w1.setCell ⟨b, 0, none⟩ (.slice A2 m (c - 1))) b ⟨r, false⟩ ∧ Fr B b w (w1.setCell ⟨b, 0, none⟩ (.slice A2 m (c - 1)))) := Lib.hid (line_left hB HBX1.out HF1.out HMM.out h1 h2 rfl hA2 HAT1.out HL4.out)
    have HWD : Hid (Strs (w1.setCell ⟨b, 0, none⟩ (.slice A2 m (c - 1))) (fun g => g ≠ b) (restW k l) A1 q) := Lib.hid (by
      refine Strs.keep (B := 0) ?_ (fun _ h => h) ((Fr.refl 0 b w1).set (Nat.zero_le _) 0 _)
      by_cases h0 : q = 0
      · exact strs_zero (by rw [← HQ.out]; exact h0) (by omega)
      · rw [HA1.out h0]; exact HRS.out)
    clear hA2
    go_at_call 24; refine HSP.out.mono ?_; rintro e w' ⟨rfl, rfl⟩
    rcases Bool.eq_false_or_eq_true ((q : Int) == (n : Int)) with hqn | hqn
    · have hqn2 : (restW k l).length = n := by rw [← HQ.out]; have := beq_iff_eq.1 hqn; omega
      have HLM : Hid (lineM k n s = (restW k l, ⟨r, false⟩)) := Lib.hid (by rw [lineM_yes HBB.out HHL.out hqn2, HBD.out])
      clear hqn2
      go_wp2_with fail
      go_ret
      rw [HLM.out]
      exact ⟨_, _, by rw [← HQ.out]; rfl, HWD.out, HFL.out⟩
    · have hqn2 : (restW k l).length ≠ n := by rw [← HQ.out]; have := beq_eq_false_iff_ne.1 hqn; omega
      have HLM : Hid (lineM k n s = (List.replicate n [], ⟨r, true⟩)) := Lib.hid (lineM_len HBB.out HHL.out hqn2)
      clear hqn2
      go_wp2_with fail
      go_ret
      rw [HLM.out]
      exact par_new (s := ⟨r, false⟩) hn HFL.out (by simp) hB
end Go.Proofs.YtjfkecadfnepjaaGreatDoor
