/- ruletext's parser: choice, piece. -/
import Derived.Test.YtjfkecadfnepjaaGreatDoorParN
set_option maxRecDepth 100000
namespace Go.Proofs.YtjfkecadfnepjaaGreatDoor
open Go.ChangeShapes Go.WideShapes Go.ChangeAt Go.RowKit

def optI (o : Option Int) : Int := o.getD (-1)
theorem optI_ge {α : Type} (p : α → Bool) (l : List α) : -1 ≤ optI (idxV p l) ∧ optI (idxV p l) ≤ l.length := by
  cases h : idxV p l with
  | none => simp [optI]
  | some v =>
    obtain ⟨i, x, h1, h2, _⟩ := idxV_some h
    have := (List.getElem?_eq_some_iff.1 h2).1
    simp [optI]; omega
theorem optI_lt {α : Type} {p : α → Bool} {l : List α} (h : optI (idxV p l) < 0) : idxV p l = none := by
  cases hq : idxV p l with
  | none => rfl
  | some v =>
    obtain ⟨i, x, h1, _, _⟩ := idxV_some hq
    rw [hq] at h; simp [optI] at h; omega
theorem optI_nn {α : Type} {p : α → Bool} {l : List α} (h : 0 ≤ optI (idxV p l)) : idxV p l = some (optI (idxV p l)) := by
  cases hq : idxV p l with
  | none => rw [hq] at h; simp [optI] at h
  | some v => rfl
theorem idxV_none {α : Type} {p : α → Bool} {l : List α} (h : ∀ (i : Nat) y, l[i]? = some y → p y = false) : idxV p l = none := by
  cases hq : idxV p l with
  | none => rfl
  | some v =>
    obtain ⟨i, x, _, h2, h3⟩ := idxV_some hq
    rw [h i x h2] at h3; cases h3
theorem idx_strs (ws : List (List UInt8)) (x : List UInt8) : Lib.idxOfS (ws.map str) (str x) = optI (idxV (fun y => y == x) ws) := by
  by_cases h : ∃ v, idxV (fun y => y == x) ws = some v
  · obtain ⟨v, hv⟩ := h
    have hv2 := hv
    unfold idxV at hv2
    rw [Option.map_eq_some_iff] at hv2
    obtain ⟨i, hi, rfl⟩ := hv2
    rw [List.findIdx?_eq_some_iff_getElem] at hi
    obtain ⟨h1, h2, h3⟩ := hi
    rw [hv]
    have e : ws[i] = x := beq_iff_eq.1 h2
    refine (Lib.idxFromS_hit (str x) (ws.map str) i 0 (by simpa using h1) ?_ ?_).trans (by simp [optI])
    · rw [List.getD, List.getElem?_map, List.getElem?_eq_getElem h1, e]; rfl
    · intro j hj
      rw [List.getD, List.getElem?_map, List.getElem?_eq_getElem (by omega)]
      intro e2
      have := h3 j hj
      have e3 : ws[j] = x := str_inj e2
      simp [e3] at this
  · have hn : idxV (fun y => y == x) ws = none := by
      cases hq : idxV (fun y => y == x) ws with
      | none => rfl
      | some v => exact absurd ⟨v, hq⟩ h
    rw [hn]
    have hm : ∀ y ∈ ws, y ≠ x := by
      intro y hy e
      have h2 : ws.findIdx? (fun y => y == x) = none := by
        unfold idxV at hn; simpa using hn
      rw [List.findIdx?_eq_none_iff] at h2
      have := h2 y hy
      simp [e] at this
    have key : ∀ (zs : List (List UInt8)) (i : Nat), (∀ y ∈ zs, y ≠ x) → Lib.idxFromS (zs.map str) (str x) i = -1 := by
      intro zs
      induction zs with
      | nil => intro i _; rfl
      | cons z zs ih =>
        intro i hz
        have h1 : str z ≠ str x := fun e => hz z (by simp) (str_inj e)
        rw [List.map_cons, Lib.idxFromS, if_neg (by simpa using h1)]
        exact ih (i + 1) (fun y hy => hz y (List.mem_cons_of_mem _ hy))
    exact key ws 0 hm
theorem optM_none {o : Option Int} (h : o = none) (s : PS) : optM o s = (0, failS s) := by rw [h]; rfl
theorem optM_some {o : Option Int} {v : Int} (h : o = some v) (s : PS) : optM o s = (v, s) := by rw [h]; rfl
set_option maxHeartbeats 1000000 in
theorem choice_par (B b g : Nat) (x : List UInt8) (ws : List (List UInt8)) (s : PS) (w : World) (h : PAt w b s) (hw : WBlk w g ws) (hB : B ≤ b) (hl : ws.length ≤ 9000) :
    Calls Tryz.prog 52 #[.pointer (some ⟨b, 0, none⟩), .string (str x), .slice (some ⟨g, 0, none⟩) ws.length ws.length] w (ParPost B b (.int .i64 (choiceM x ws s).1) (choiceM x ws s).2 w) := by
  obtain ⟨i, hi⟩ : ∃ i, i = optI (idxV (fun y => y == x) ws) := ⟨_, rfl⟩
  obtain ⟨X, hX⟩ : ∃ X, X = str x := ⟨_, rfl⟩
  obtain ⟨n, hn⟩ : ∃ n, n = ws.length := ⟨_, rfl⟩
  have HI : Hid (Calls Tryz.prog 73 #[.slice (some ⟨g, 0, none⟩) n n, .string X] w fun e w' => e = .returned (.int .i64 i) ∧ w = w') := Lib.hid (by
    have h1 := Tryz.slices_Index_string g 0 n n (ws.map str) X w (by simp; omega) (by omega) (fun j hj => by
      have hj2 : j < ws.length := by simpa using hj
      rw [Nat.zero_add, hw.words j ws[j] (List.getElem?_eq_getElem hj2), List.getD, List.getElem?_map, List.getElem?_eq_getElem hj2]; rfl)
    rw [List.take_of_length_le (by simp; omega), hX, idx_strs, ← hi, ← hX] at h1
    exact turned h1)
  have HP := Lib.hid h
  obtain ⟨u, bad, c0, c1, f1⟩ := bad_at h
  obtain ⟨k0, k1⟩ := optI_ge (fun y => y == x) ws
  rw [← hi] at k0 k1
  have HQ := Lib.hid hi
  have k2 : i ≤ 9000 := by omega
  rw [← hX, ← hn]
  clear h hw hX hi k1 hn hl
  rcases Int.lt_or_le i 0 with hneg | hpos
  · have HM : Hid (choiceM x ws s = (0, failS s)) := Lib.hid (optM_none (optI_lt (by rw [← HQ.out]; exact hneg)) s)
    go_enter Tryz.func52, Tryz.ntmps52
    go_wp2_with fail
    go_at_call 73; refine HI.out.mono ?_; rintro e w' ⟨rfl, rfl⟩
    go_wp2_with fail
    go_ret
    rw [HM.out]
    exact par_fail hB HP.out (Fr.refl _ _ _)
  · have HM : Hid (choiceM x ws s = (i, s)) := Lib.hid (by rw [HQ.out]; exact optM_some (optI_nn (by rw [← HQ.out]; exact hpos)) s)
    go_enter Tryz.func52, Tryz.ntmps52
    go_wp2_with fail
    go_at_call 73; refine HI.out.mono ?_; rintro e w' ⟨rfl, rfl⟩
    go_wp2_with fail
    go_ret
    rw [HM.out]
    exact ⟨rfl, HP.out, Fr.refl _ _ _⟩
set_option maxHeartbeats 1000000 in
theorem pieceFn_any (x : PieceD) (u : Value) (y : List UInt8) (g : Nat) (w : World) (h0 : 0 ≤ x.letter) (h1 : x.letter ≤ 255) (hb : w.cell? ⟨g, 0, none⟩ = some (.string (str y))) :
    Calls Tryz.prog 92 #[.agg #[.int .u8 x.letter, .int .i64 x.hand, .int .i64 x.promote, u], .pointer (some ⟨g, 0, none⟩)] w (BelPost (.bool (lettB x == y)) w) := by
  have hg := World.block_lt_of_cell? _ _ hb
  obtain ⟨Y, hY⟩ : ∃ Y, Y = str y := ⟨_, rfl⟩
  obtain ⟨L, hL⟩ : ∃ L, L = str (lettB x) := ⟨_, rfl⟩
  have HK : Hid ((L.toList == Y.toList) = (lettB x == y)) := Lib.hid (by rw [hL, hY, Lib.toList_data, Lib.toList_data, data_str, data_str])
  have HL : Hid (∀ W, Calls Tryz.prog 41 #[.agg #[.int .u8 x.letter, .int .i64 x.hand, .int .i64 x.promote, u]] W fun e w' => e = .returned (.string L) ∧ Below W.heap.size W w') := Lib.hid (fun W => by rw [hL]; exact letterT_any x u h0 h1 W)
  have hb1 := (Below.refl w.heap.size w).alloc (Nat.le_refl _) (.cells #[.int .u8 x.letter, .int .i64 x.hand, .int .i64 x.promote, u] 58)
  have hn1 := heap_alloc_new w (.cells #[.int .u8 x.letter, .int .i64 x.hand, .int .i64 x.promote, u] 58)
  rw [← hY] at hb
  clear hY hL h0 h1
  go_enter Tryz.func92, Tryz.ntmps92
  go_wp2_with fail
  have cy := cell_keeps hb1 (Nat.le_refl _) hb
  have hc : ∀ i, (w.alloc (.cells #[.int .u8 x.letter, .int .i64 x.hand, .int .i64 x.promote, u] 58)).cell? ⟨w.heap.size, i, none⟩ = (#[.int .u8 x.letter, .int .i64 x.hand, .int .i64 x.promote, u] : Array Value)[i]? := fun i => cell_of_row _ w.heap.size i _ _ (0, 0) hn1
  have p0 : (w.alloc (.cells #[.int .u8 x.letter, .int .i64 x.hand, .int .i64 x.promote, u] 58)).cell? ⟨w.heap.size, 0, none⟩ = some (.int .u8 x.letter) := hc 0
  have p1 : (w.alloc (.cells #[.int .u8 x.letter, .int .i64 x.hand, .int .i64 x.promote, u] 58)).cell? ⟨w.heap.size, 1, none⟩ = some (.int .i64 x.hand) := hc 1
  have p2 : (w.alloc (.cells #[.int .u8 x.letter, .int .i64 x.hand, .int .i64 x.promote, u] 58)).cell? ⟨w.heap.size, 2, none⟩ = some (.int .i64 x.promote) := hc 2
  have p3 : (w.alloc (.cells #[.int .u8 x.letter, .int .i64 x.hand, .int .i64 x.promote, u] 58)).cell? ⟨w.heap.size, 3, none⟩ = some (u) := hc 3
  have HB1 := Lib.hid hb1
  clear hb hc hb1 hn1
  generalize w.alloc (.cells #[.int .u8 x.letter, .int .i64 x.hand, .int .i64 x.promote, u] 58) = V at cy p0 p1 p2 p3 HB1 ⊢
  obtain ⟨q, hq⟩ : ∃ q, q = w.heap.size := ⟨_, rfl⟩
  rw [← hq] at p0 p1 p2 p3 HB1 ⊢
  have HQ := Lib.hid hq
  clear hq
  go_region_held3 (fun w' => w'.cell? ⟨q, 0, none⟩ = some (.int .u8 x.letter) ∧ w'.cell? ⟨q, 1, none⟩ = some (.int .i64 x.hand) ∧ w'.cell? ⟨q, 2, none⟩ = some (.int .i64 x.promote) ∧ w'.cell? ⟨q, 3, none⟩ = some u ∧ w'.cell? ⟨g, 0, none⟩ = some (.string Y)) (go_keep) (first | (go_at_call 41; refine (HL.out _).mono ?_; rintro e w2 ⟨rfl, hb2⟩; have hb2 := (Below.drew (Below.refl V.heap.size V)).trans hb2; have p0 := cell_keeps hb2 (Nat.le_refl _) p0; have p1 := cell_keeps hb2 (Nat.le_refl _) p1; have p2 := cell_keeps hb2 (Nat.le_refl _) p2; have p3 := cell_keeps hb2 (Nat.le_refl _) p3; have cy := cell_keeps hb2 (Nat.le_refl _) cy))
  go_wp2_with fail
  all_goals
    go_ret
    exact ⟨ret_bool HK.out, by rw [← HQ.out]; exact HB1.out.trans (hb2.mono (by have := HB1.out.size; rw [← HQ.out] at this; exact this))⟩
end Go.Proofs.YtjfkecadfnepjaaGreatDoor
