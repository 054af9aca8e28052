/- The law RuletextTorn: a text of rules without one of its lines is refused, or is the text of other rules. -/
import Derived.Test.YtjfkecadfnepjaaGreatDoorLawRB
set_option maxRecDepth 100000
namespace Go.Proofs.YtjfkecadfnepjaaGreatDoor
open Go.ChangeShapes Go.WideShapes Go.ChangeAt Go.RowKit

theorem splitB_small (sep : ByteArray) (sv n : Nat) : ∀ (k : Nat) (s : ByteArray), s.size ≤ n → ∀ x ∈ Lib.splitB sep sv k s, x.size ≤ n
  | 0, s, hs, x, hx => by
    rw [Lib.splitB_zero, List.mem_singleton] at hx
    subst hx; exact hs
  | k + 1, s, hs, x, hx => by
    unfold Lib.splitB at hx
    split at hx
    · rw [List.mem_singleton] at hx
      subst hx; exact hs
    · rw [List.mem_cons] at hx
      rcases hx with rfl | hx
      · rw [ByteArray.size_extract]; omega
      · exact splitB_small sep sv n k _ (by rw [ByteArray.size_extract]; omega) x hx
theorem below_cells {B b : Nat} {a : World} (hb : B ≤ b) : ∀ (vs : List Value) (o : Nat) (w : World), Below B a w → Below B a (w.setCells b o vs)
  | [], _, _, h => h
  | v :: r, o, w, h => below_cells hb r (o + 1) _ (h.setCell (by exact hb) v)
/-- A block of strings. -/
def SBlk (w : World) (g : Nat) (xs : List ByteArray) (c : Nat) : Prop := ∃ cur, w.heap[g]? = some (.cells cur 9 (0, 0)) ∧ xs.length ≤ c ∧ c ≤ maxLen ∧ cur.size = c ∧ cur.toList.take xs.length = xs.map Value.string
def SplitP (w : World) (e : Ending) (w' : World) : Prop := ∃ (xs : List ByteArray) (g : Nat), 1 ≤ xs.length ∧ xs.length ≤ 8193 ∧ (∀ x ∈ xs, x.size ≤ 8192) ∧ e = .returned (.slice (some ⟨g, 0, none⟩) xs.length xs.length) ∧ SBlk w' g xs xs.length ∧ w.heap.size ≤ g ∧ Below w.heap.size w w'
theorem split_after {B : Nat} (X : ByteArray) (hX : X.size ≤ 8192) (w : World) (hE : Env B w) : Calls Tryz.prog 10 #[.string X, .string ⟨#[10]⟩] w (SplitP w) := by
  obtain ⟨-, ⟨m, -, hm⟩, -, -⟩ := hE
  have h1 : 1 ≤ (⟨#[10]⟩ : ByteArray).size := by decide
  have hle := Lib.countB_le ⟨#[10]⟩ h1 X.size X (Nat.le_refl _)
  have hlen := Lib.splitB_all ⟨#[10]⟩ h1 1 _ X rfl
  have c := Tryz.strings_genSplit X ⟨#[10]⟩ 1 (-1) (Lib.countB X ⟨#[10]⟩ + 1) m w (by omega) hm h1 (by decide) (by decide) (by decide) (by rw [if_pos (by decide)]; omega)
  rw [Nat.add_sub_cancel, hlen] at c
  have e2 : Lib.cellsOf (Lib.splitB ⟨#[10]⟩ 1 (Lib.countB X ⟨#[10]⟩) X) (Lib.countB X ⟨#[10]⟩ + 1) = ((Lib.splitB ⟨#[10]⟩ 1 (Lib.countB X ⟨#[10]⟩) X).map Value.string).toArray := by rw [← hlen]; exact Lib.cellsOf_full _
  rw [e2] at c
  have hs := splitB_small ⟨#[10]⟩ 1 8192 (Lib.countB X ⟨#[10]⟩) X hX
  obtain ⟨xs, hxs⟩ : ∃ xs, xs = Lib.splitB ⟨#[10]⟩ 1 (Lib.countB X ⟨#[10]⟩) X := ⟨_, rfl⟩
  rw [← hlen, ← hxs] at c
  rw [← hxs] at hs hlen
  have HC := Lib.hid c
  have HP : Hid (1 ≤ xs.length ∧ xs.length ≤ 8193 ∧ ∀ x ∈ xs, x.size ≤ 8192) := Lib.hid ⟨by omega, by omega, hs⟩
  clear c e2 hs hlen hxs hle hm h1 hX
  go_enter Tryz.func10, Tryz.ntmps10
  go_wp2_with fail
  go_at_call 29; refine HC.out.mono ?_; rintro e w' ⟨rfl, rfl⟩
  go_wp2_with fail
  go_ret
  obtain ⟨p1, p2, p3⟩ := HP.out
  exact ⟨xs, _, p1, p2, p3, rfl, ⟨_, heap_alloc_new _ _, Nat.le_refl _, by simp only [maxLen]; omega, by simp, by rw [List.take_of_length_le (by simp)]⟩, Nat.le_refl _, (Below.refl _ _).alloc (Nat.le_refl _) _⟩
theorem SBlk.cell {w : World} {g c : Nat} {xs : List ByteArray} (h : SBlk w g xs c) (j : Nat) (hj : j < xs.length) : w.cell? ⟨g, j, none⟩ = some (.string (xs.getD j ByteArray.empty)) := by
  obtain ⟨cur, h1, _, _, _, h2⟩ := h
  rw [cell_of_row w g j cur _ (0, 0) h1]
  have e : (cur.toList.take xs.length)[j]? = (xs.map Value.string)[j]? := by rw [h2]
  rw [List.getElem?_take, if_pos hj, List.getElem?_map] at e
  rw [← Array.getElem?_toList, e, List.getElem?_eq_getElem hj]
  simp [List.getD, hj]
theorem SBlk.frozen {w : World} {g c : Nat} {xs : List ByteArray} (h : SBlk w g xs c) (j : Nat) : w.frozen? ⟨g, j, none⟩ = false := by
  obtain ⟨cur, h1, _⟩ := h
  exact frozen_of_row w g j cur _ h1
def CloneP (xs : List ByteArray) (w : World) (e : Ending) (w' : World) : Prop := ∃ g c, e = .returned (.slice (some ⟨g, 0, none⟩) xs.length c) ∧ w.heap.size ≤ g ∧ SBlk w' g xs c ∧ Below w.heap.size w w'
theorem clone_strs (g c : Nat) (xs : List ByteArray) (w : World) (h : SBlk w g xs c) (hn : xs.length ≤ 8193) : Calls Tryz.prog 14 #[.slice (some ⟨g, 0, none⟩) xs.length c] w (CloneP xs w) := by
  refine (Tryz.slices_Clone_string g 0 xs.length c xs w (Nat.le_refl _) (by omega) (fun j hj => by rw [Nat.zero_add]; exact h.cell j hj)).mono ?_
  rintro e w' ⟨v, rfl, ho, hne, hb⟩
  obtain ⟨_, ⟨rfl, -⟩ | ⟨g', c', cur, rfl, h1, h2, h3, h4, h5, h6⟩⟩ := ho
  · exact absurd rfl hne
  · rw [List.take_length, Nat.mul_one] at h6
    exact ⟨g', c', rfl, h1, ⟨cur, h2, h3, h4, by omega, h6⟩, hb⟩
def DeleteP (n g c : Nat) (w : World) (e : Ending) (w' : World) : Prop := ∃ ys : List ByteArray, e = .returned (.slice (some ⟨g, 0, none⟩) ys.length c) ∧ ys.length ≤ n ∧ ys.length ≤ c ∧ (∀ y ∈ ys, y.size ≤ 8193) ∧ (∀ (j : Nat) y, ys[j]? = some y → w'.cell? ⟨g, 0 + j, none⟩ = some (.string y)) ∧ g < w'.heap.size ∧ ∀ B, B ≤ g → Below B w w'
theorem delete_strs (g c k : Nat) (xs : List ByteArray) (w : World) (h : SBlk w g xs c) (hk : k < xs.length) (hs : ∀ x ∈ xs, x.size ≤ 8193) :
    Calls Tryz.prog 13 #[.slice (some ⟨g, 0, none⟩) xs.length c, .int .i64 k, .int .i64 ((k : Int) + 1)] w (DeleteP xs.length g c w) := by
  obtain ⟨n, hn⟩ : ∃ n, n = xs.length := ⟨_, rfl⟩
  have hc2 : xs.length ≤ c ∧ c ≤ 9223372036854775807 := by obtain ⟨_, _, h1, h2, _⟩ := h; exact ⟨h1, h2⟩
  have hd := Tryz.slices_Delete_string_cells g 0 xs.length c k (k + 1) (fun i => xs.getD i ByteArray.empty) w hc2.1 hc2.2 (by omega) (by omega) (fun j hj => by rw [Nat.zero_add]; exact h.cell j hj) (fun j _ => by rw [Nat.zero_add]; exact h.frozen j)
  have e0 : Lib.strsOf (fun i => xs.getD i ByteArray.empty) xs.length = xs.map (·.data.toList) := by
    apply List.ext_getElem?
    intro j
    rw [Lib.strsOf, List.getElem?_map, List.getElem?_map]
    by_cases hj : j < xs.length
    · rw [List.getElem?_range hj, List.getElem?_eq_getElem hj]
      simp [List.getD, hj]
    · rw [List.getElem?_eq_none (by simpa using hj), List.getElem?_eq_none (by simpa using hj)]; rfl
  rw [e0, show (((k + 1 : Nat)) : Int) = (k : Int) + 1 by omega] at hd
  refine hd.mono ?_
  rintro e w' ⟨rfl, q, rfl⟩
  have hlen : (xs.take k ++ xs.drop (k + 1)).length = xs.length - (k + 1 - k) := by rw [List.length_append, List.length_take, List.length_drop]; omega
  have e1 : ((xs.map (fun x : ByteArray => x.data.toList)).take k ++ (xs.map (fun x : ByteArray => x.data.toList)).drop (k + 1) ++ List.replicate (k + 1 - k) []).map encStr = (xs.take k ++ xs.drop (k + 1)).map Value.string ++ [Value.string ⟨#[]⟩] := by
    simp only [List.map_append, List.map_take, List.map_drop, List.map_map, show k + 1 - k = 1 by omega]
    rfl
  rw [e1]
  have hall : ∀ j, j < xs.length → ((w.drewN q).cell? ⟨g, 0 + j, none⟩).isSome = true := by
    intro j hj
    have := h.cell j hj
    rw [Nat.zero_add]
    show (w.cell? ⟨g, j, none⟩).isSome = true
    rw [this]; rfl
  have hl2 : ((xs.take k ++ xs.drop (k + 1)).map Value.string ++ [Value.string ⟨#[]⟩]).length = xs.length := by
    rw [List.length_append, List.length_map, hlen]
    show xs.length - (k + 1 - k) + 1 = xs.length
    omega
  have hbB : ∀ B, B ≤ g → Below B w ((w.drewN q).setCells g 0 ((xs.take k ++ xs.drop (k + 1)).map Value.string ++ [Value.string ⟨#[]⟩])) := fun B hB => below_cells (b := g) hB _ 0 _ ⟨rfl, rfl, rfl, Nat.le_refl _, fun _ _ => rfl⟩
  refine ⟨xs.take k ++ xs.drop (k + 1), by rw [hlen], by rw [hlen]; omega, by rw [hlen]; omega, ?_, ?_, ?_, hbB⟩
  · intro y hy
    rcases List.mem_append.1 hy with hy | hy
    · exact hs y (List.mem_of_mem_take hy)
    · exact hs y (List.mem_of_mem_drop hy)
  · intro j y hj
    have hjl : j < (xs.take k ++ xs.drop (k + 1)).length := (List.getElem?_eq_some_iff.1 hj).1
    rw [World.cell?_setCells_in g _ 0 (w.drewN q) (fun i hi => hall i (by rw [hl2] at hi; exact hi)) j (by rw [hl2]; omega)]
    rw [List.getElem_append_left (by rw [List.length_map]; exact hjl), List.getElem_map]
    have := (List.getElem?_eq_some_iff.1 hj).2
    rw [this]
  · obtain ⟨cur, h1, _⟩ := h
    have := (Array.getElem?_eq_some_iff.1 h1).1
    exact Nat.lt_of_lt_of_le this (hbB 0 (Nat.zero_le _)).size
theorem join_len (n : Nat) : ∀ ys : List ByteArray, (∀ y ∈ ys, y.size ≤ n) → (Lib.join (ys.map (·.data.toList)) []).length ≤ ys.length * n
  | [], _ => by simp [Lib.join_nil]
  | y :: r, h => by
    have e : ∀ l : List (List UInt8), (Lib.joinTail [] l).length = l.flatten.length := by intro l; simp [Lib.joinTail]
    have e2 : ∀ l : List ByteArray, (∀ y ∈ l, y.size ≤ n) → (l.map (·.data.toList)).flatten.length ≤ l.length * n := by
      intro l
      induction l with
      | nil => intro _; simp
      | cons a l ih =>
        intro hl
        have h1 := hl a (List.mem_cons_self ..)
        have h2 := ih (fun y hy => hl y (List.mem_cons_of_mem _ hy))
        have h3 : a.data.toList.length = a.size := rfl
        rw [List.map_cons, List.flatten_cons, List.length_append, List.length_cons, Nat.add_mul, h3]; omega
    have h1 := e2 (y :: r) h
    rw [List.map_cons, Lib.join_cons, List.length_append, e]
    rw [List.map_cons, List.flatten_cons, List.length_append] at h1
    exact h1
def JoinP (w : World) (e : Ending) (w' : World) : Prop := ∃ C, e = .returned (.string C) ∧ Below w.heap.size w w'
theorem join_strs (g c : Nat) (ys : List ByteArray) (w : World) (hn : ys.length ≤ 8193) (hc : ys.length ≤ c) (hs : ∀ y ∈ ys, y.size ≤ 8193) (hcell : ∀ (j : Nat) y, ys[j]? = some y → w.cell? ⟨g, 0 + j, none⟩ = some (.string y)) (hg : g < w.heap.size) :
    Calls Tryz.prog 12 #[.slice (some ⟨g, 0, none⟩) ys.length c, .string ⟨#[]⟩] w (JoinP w) := by
  have h1 := join_len 8193 ys hs
  have h2 : ys.length * 8193 ≤ 8193 * 8193 := Nat.mul_le_mul_right _ hn
  refine (Tryz.strings_Join g 0 c ys ⟨#[]⟩ w hcell hg (by omega) hc (by show (Lib.join (ys.map (·.data.toList)) []).length ≤ _; omega)).mono ?_
  rintro e w' ⟨rfl, hb⟩
  exact ⟨_, rfl, hb⟩
theorem SBlk.set {w : World} {g c : Nat} {xs : List ByteArray} (h : SBlk w g xs c) (j : Nat) (y : ByteArray) : SBlk (w.setCell ⟨g, j, none⟩ (.string y)) g (xs.set j y) c := by
  obtain ⟨cur, h1, h2, h3, h4, h5⟩ := h
  refine ⟨cur.setIfInBounds j (.string y), heap_setCell_same w g j _ _ (.string y) h1, by rw [List.length_set]; exact h2, h3, by rw [Array.size_setIfInBounds]; exact h4, ?_⟩
  rw [List.length_set, Array.toList_setIfInBounds, List.take_set, h5, List.map_set]
theorem trim_len (l p : List UInt8) : (Lib.trimSuffix l p).length ≤ l.length := by
  unfold Lib.trimSuffix
  split
  · rw [List.length_take]; omega
  · exact Nat.le_refl _
def TrimP (w : World) (e : Ending) (w' : World) : Prop := ∃ X : ByteArray, X.size ≤ 8192 ∧ e = .returned (.string X) ∧ w = w'
theorem trim_k (T : ByteArray) (hT : T.size ≤ 8192) (w : World) : Calls Tryz.prog 11 #[.string T, .string ⟨#[10]⟩] w (TrimP w) := by
  refine (Tryz.strings_TrimSuffix T ⟨#[10]⟩ w (by omega)).mono ?_
  rintro e w' ⟨rfl, rfl⟩
  refine ⟨_, ?_, rfl, rfl⟩
  have := trim_len T.data.toList (⟨#[10]⟩ : ByteArray).data.toList
  have h2 : T.data.toList.length = T.size := rfl
  show (Lib.trimSuffix T.data.toList (⟨#[10]⟩ : ByteArray).data.toList).length ≤ 8192
  omega
/-- The line that is taken away. -/
theorem line_no (a : Int) (L : Nat) (h0 : 1 ≤ L) : ∃ k : Nat, k < L ∧ (a.tmod L + L).tmod L = (k : Int) ∧ -(L : Int) < a.tmod L ∧ a.tmod L < L := by
  have h1 : a.tmod L < L := Int.tmod_lt_of_pos a (by omega)
  have h2 : -(L : Int) < a.tmod L := by
    have := Int.lt_tmod_of_pos a (b := (L : Int)) (by omega)
    exact this
  have h3 : 0 ≤ (a.tmod L + L).tmod L := Int.tmod_nonneg _ (by omega)
  have h4 : (a.tmod L + L).tmod L < L := Int.tmod_lt_of_pos _ (by omega)
  exact ⟨((a.tmod L + L).tmod L).toNat, by omega, by omega, h2, h1⟩
set_option maxHeartbeats 8000000 in
theorem ruletextTorn_full (r : RulesD) (vp vs ve : Value) (a : Int) (w : World) (hr : RulesIn w r vp vs ve) (ha : (Lit.int .i64 a).wf = true) (hE : Env w.heap.size w) :
    Calls Tryz.prog 4 #[RulesV r vp vs ve, .int .i64 a] w (BackP w) := by
  have HEV : Hid (∀ W, Below w.heap.size w W → Env W.heap.size W) := Lib.hid (fun W h => hE.up h h.size)
  obtain ⟨T3, hT3⟩ : ∃ T, T = str (textB three9) := ⟨_, rfl⟩
  have HP3 : Hid (∀ vp vs ve W, RulesIn W three9 vp vs ve → Env W.heap.size W → Calls Tryz.prog 5 #[RulesV three9 vp vs ve] W (TextP T3 0 W)) := Lib.hid (fun vp vs ve W h t => by rw [hT3]; exact print_k three9 three9_ok vp vs ve W h t)
  have HR3 : Hid (∀ W, Env W.heap.size W → Calls Tryz.prog 7 #[.string T3] W (ReadP three9 W)) := Lib.hid (fun W t => by rw [hT3]; exact parse_text_of three9 three9_ok W t)
  have HH3 : Hid (∀ W, Calls Tryz.prog 9 #[.string T3, .string ⟨#[103, 97, 109, 101, 32, 84, 73, 67, 32, 51, 32, 51, 10]⟩] W fun e w' => e = .returned (.bool true) ∧ W = w') := Lib.hid (by
    intro W
    have h1 := Tryz.strings_HasPrefix T3 ⟨#[103, 97, 109, 101, 32, 84, 73, 67, 32, 51, 32, 51, 10]⟩ W
    rw [hT3, data_str] at h1
    rw [hT3]
    rw [show (⟨#[103, 97, 109, 101, 32, 84, 73, 67, 32, 51, 32, 51, 10]⟩ : ByteArray).data.toList = [103, 97, 109, 101, 32, 84, 73, 67, 32, 51, 32, 51, 10] from rfl, three9_head] at h1
    exact turned h1)
  obtain ⟨c, hc⟩ : ∃ c, c = rulesE r := ⟨_, rfl⟩
  obtain ⟨T, hT⟩ : ∃ T, T = str (textB r) := ⟨_, rfl⟩
  have HPB : Hid (c ≠ 0 → ∀ W, Below w.heap.size w W → Calls Tryz.prog 5 #[RulesV r vp vs ve] W (TextP ⟨#[]⟩ c W)) := Lib.hid (fun hz W h => by rw [hc]; exact print_bad r vp vs ve W (hr.below h (Nat.le_refl _)) (by rw [← hc]; exact hz))
  have HPG : Hid (c = 0 → ∀ vp vs ve W, RulesIn W r vp vs ve → Env W.heap.size W → Calls Tryz.prog 5 #[RulesV r vp vs ve] W (TextP T 0 W)) := Lib.hid (fun hz vp vs ve W h t => by rw [hT]; exact print_k r (by rw [← hc]; exact hz) vp vs ve W h t)
  have HTS : Hid (c = 0 → T.size ≤ 8192) := Lib.hid (fun hz => by rw [hT, str_size]; exact text_short (by rw [← hc]; exact hz))
  have HIN : Hid (∀ W, Below w.heap.size w W → RulesIn W r vp vs ve) := Lib.hid (fun W h => hr.below h (Nat.le_refl _))
  have HB1 : Hid (Below w.heap.size w (w.alloc (.cells #[.string r.name, .int .i64 r.width, .int .i64 r.height, vp, vs, .bool r.falls, .bool r.keeps, ve, .int .i64 r.blocked, .int .i64 r.quiet, .int .i64 r.rep] 26))) := Lib.hid ((Below.refl _ _).alloc (Nat.le_refl _) _)
  have HX1 : Hid (BoxR (w.alloc (.cells #[.string r.name, .int .i64 r.width, .int .i64 r.height, vp, vs, .bool r.falls, .bool r.keeps, ve, .int .i64 r.blocked, .int .i64 r.quiet, .int .i64 r.rep] 26)) w.heap.size r vp vs ve) := Lib.hid (boxR_new w r vp vs ve _)
  have HA := Lib.hid ha
  clear ha
  unfold RulesV at HPB HPG ⊢
  clear hr hE hT3 hc hT
  go_enter Tryz.func4, Tryz.ntmps4
  go_wp2_with fail
  go_at_call 6; refine (three_keep _).mono ?_; rintro e w2 ⟨p3, s3, e3, rfl, hr3, hb⟩
  have HB2 := Lib.hid (HB1.out.trans (hb.mono HB1.out.size))
  have HX2 := Lib.hid (HX1.out.below hb (Nat.le_refl _))
  have HI2 := Lib.hid hr3
  clear hb hr3 HB1 HX1
  go_wp2_with fail
  go_at_call 5; refine (HP3.out p3 s3 e3 _ HI2.out (HEV.out _ HB2.out)).mono ?_; rintro e w3 ⟨rfl, hb⟩
  have HB3 := Lib.hid (HB2.out.trans (hb.mono HB2.out.size))
  have HX3 := Lib.hid (HX2.out.below hb (Nat.le_refl _))
  clear hb HI2 HB2 HX2
  go_wp2_with fail
  go_at_call 7; refine (HR3.out _ (HEV.out _ HB3.out)).mono ?_; rintro e w4 ⟨pa4, pn4, pc4, sa4, sn4, sc4, ea4, en4, ec4, rfl, hr4, hb⟩
  have HB4 := Lib.hid (HB3.out.trans (hb.mono HB3.out.size))
  have HX4 := Lib.hid (HX3.out.below hb (Nat.le_refl _))
  clear hb hr4 HB3 HX3
  go_wp2_with fail
  go_at_call 8; refine (fine_k _ _ (by simp)).mono ?_; rintro e w5 ⟨rfl, hb⟩
  have hb' := ((Below.refl w4.heap.size w4).alloc (Nat.le_refl _) _).trans (hb.mono (by simp))
  have HB5 := Lib.hid (HB4.out.trans (hb'.mono HB4.out.size))
  have HX5 := Lib.hid (HX4.out.below hb' (Nat.le_refl _))
  clear hb hb' HB4 HX4
  go_wp2_with fail
  go_at_call 9; refine (HH3.out _).mono ?_; rintro e w' ⟨rfl, rfl⟩
  obtain ⟨b0, b1, b2, b3, b4, b5, b6, b7, b8, b9, b10⟩ := HX5.out
  go_wp2_with fail
  by_cases hz : c = 0
  · have HPG1 := Lib.hid (HPG.out hz)
    have HTS1 := Lib.hid (HTS.out hz)
    clear HPG HTS HPB
    go_at_call 5; refine (HPG1.out _ _ _ _ (HIN.out _ HB5.out) (HEV.out _ HB5.out)).mono ?_; rintro e w6 ⟨rfl, hb⟩
    have HB6 := Lib.hid (HB5.out.trans (hb.mono HB5.out.size))
    clear hb b0 b1 b2 b3 b4 b5 b6 b7 b8 b9 b10 HX5 HB5
    go_wp2_with fail
    go_at_call 11; refine (trim_k T HTS1.out _).mono ?_; rintro e w' ⟨X, hX, rfl, rfl⟩
    go_wp2_with fail
    go_at_call 10; refine (split_after X hX _ (HEV.out _ HB6.out)).mono ?_; rintro e w7 ⟨xs, g, l1, l2, l3, rfl, hs, hg, hb⟩
    have HB7 := Lib.hid (HB6.out.trans (hb.mono HB6.out.size))
    have HG : Hid (w.heap.size ≤ g) := Lib.hid (Nat.le_trans HB6.out.size hg)
    clear hb HB6 hX hg
    have HL := Lib.hid l3
    clear l3
    obtain ⟨L, hL⟩ : ∃ L, L = xs.length := ⟨_, rfl⟩
    rw [← hL] at l1 l2 ⊢
    obtain ⟨y, hy⟩ : ∃ y, y = xs.getD (L - 1) ByteArray.empty := ⟨_, rfl⟩
    have c1 : w7.cell? ⟨g, L - 1, none⟩ = some (.string y) := by rw [hy]; exact hs.cell (L - 1) (by omega)
    have f1 : w7.frozen? ⟨g, L - 1, none⟩ = false := hs.frozen _
    have y1 : y.size ≤ 8192 := by
      rw [hy, List.getD, List.getElem?_eq_getElem (by omega)]
      exact HL.out _ (List.getElem_mem _)
    obtain ⟨zs, hz'⟩ : ∃ zs, zs = xs.set (L - 1) (y ++ ⟨#[10]⟩) := ⟨_, rfl⟩
    have HZL : Hid (L = zs.length) := Lib.hid (by rw [hz', List.length_set]; exact hL)
    have HZS : Hid (∀ z ∈ zs, z.size ≤ 8193) := Lib.hid (by
      intro z hzz
      rw [hz'] at hzz
      rcases List.mem_or_eq_of_mem_set hzz with h | rfl
      · exact Nat.le_trans (HL.out z h) (by omega)
      · rw [ByteArray.size_append]
        have : (⟨#[10]⟩ : ByteArray).size = 1 := rfl
        omega)
    have HS : Hid (SBlk (w7.setCell ⟨g, L - 1, none⟩ (.string (y ++ ⟨#[10]⟩))) g zs L) := Lib.hid (by rw [hz', hL]; exact hs.set _ _)
    obtain ⟨k, hk, ek, k1, k2⟩ := line_no a L l1
    have hw : ∀ q : Int, -(L : Int) < q → q < L → wrap64 (q + L) = q + L := by intro q h1 h2; unfold wrap64; omega
    have HK : Hid ((wrap64 (a.tmod (L : Int) + (L : Int))).tmod (L : Int) = (k : Int) ∧ k < L) := Lib.hid ⟨by rw [hw _ k1 k2]; exact ek, hk⟩
    have HB8 : Hid (Below w.heap.size w (w7.setCell ⟨g, L - 1, none⟩ (.string (y ++ ⟨#[10]⟩)))) := Lib.hid (HB7.out.setCell (by exact HG.out) _)
    have l2' := Lib.hid l2
    clear hs hL hy hz' hk ek k1 k2 hw HL HB7 HG
    go_wp2_with fail
    rw [HK.out.1]
    have hk := HK.out.2
    clear HK c1 f1 y1
    generalize w7.setCell ⟨g, L - 1, none⟩ (.string (y ++ ⟨#[10]⟩)) = w8 at HS HB8 ⊢
    obtain rfl := HZL.out
    clear l1 l2
    go_at_call 14; refine (clone_strs g _ zs _ HS.out l2'.out).mono ?_; rintro e w9 ⟨g9, c9, rfl, hg9, hs9, hb⟩
    have HB9 := Lib.hid (HB8.out.trans (hb.mono HB8.out.size))
    have HG9 : Hid (w.heap.size ≤ g9) := Lib.hid (Nat.le_trans HB8.out.size hg9)
    have HS9 := Lib.hid hs9
    have k9 : (k : Int) ≤ 8193 := by have := l2'.out; omega
    have HK := Lib.hid hk
    clear hb hg9 hs9 HB8 HS hk
    go_wp2_with fail
    go_at_call 13; refine (delete_strs g9 c9 k zs _ HS9.out HK.out HZS.out).mono ?_; rintro e wA ⟨ys, rfl, ly, lc, hys, hcy, hgA, hb⟩
    have HBA := Lib.hid (HB9.out.trans (hb _ HG9.out))
    have HJ : Hid (Calls Tryz.prog 12 #[.slice (some ⟨g9, 0, none⟩) ys.length c9, .string ⟨#[]⟩] wA (JoinP wA)) := Lib.hid (join_strs g9 c9 ys wA (Nat.le_trans ly l2'.out) lc hys hcy hgA)
    clear hb hys hcy hgA ly lc HB9 HG9 HS9 HK
    go_wp2_with fail
    go_at_call 12; refine HJ.out.mono ?_; rintro e wB ⟨C, rfl, hb⟩
    have HBB := Lib.hid (HBA.out.trans (hb.mono HBA.out.size))
    clear hb HBA HJ
    go_wp2_with fail
    by_cases hq : parseE C.data.toList = 0
    · obtain ⟨R, hR⟩ : ∃ R, R = parseR C.data.toList := ⟨_, rfl⟩
      have HPS : Hid (∀ W, Below w.heap.size w W → Calls Tryz.prog 7 #[.string C] W (ReadP R W)) := Lib.hid (fun W h => by rw [hR]; exact parse_good C W (HEV.out W h) hq)
      have HPT : Hid (∀ vp vs ve W, RulesIn W R vp vs ve → Env W.heap.size W → Calls Tryz.prog 5 #[RulesV R vp vs ve] W (TextP C 0 W)) := Lib.hid (fun vp vs ve W h t => by
        obtain ⟨h1, h2⟩ := parse_goodR hq
        rw [← hR] at h1 h2
        have h3 := print_k R h1 vp vs ve W h t
        rw [h2] at h3; exact h3)
      clear hq hR
      unfold RulesV at HPT
      go_at_call 7; refine (HPS.out _ HBB.out).mono ?_; rintro e wC ⟨qa, qn, qc, ta, tn, tc, ua, un, uc, rfl, hrA, hb⟩
      have HBC := Lib.hid (HBB.out.trans (hb.mono HBB.out.size))
      have HRA := Lib.hid hrA
      clear hb hrA HBB
      go_wp2_with fail
      go_at_call 5; refine (HPT.out _ _ _ _ (HRA.out.below ((Below.refl _ _).alloc (Nat.le_refl _) _) (Nat.le_refl _)) (HEV.out _ (HBC.out.trans (((Below.refl _ _).alloc (Nat.le_refl _) _).mono HBC.out.size)))).mono ?_; rintro e wD ⟨rfl, hb⟩
      have hb' := ((Below.refl wC.heap.size wC).alloc (Nat.le_refl _) _).trans (hb.mono (by simp))
      have HBD := Lib.hid (HBC.out.trans (hb'.mono HBC.out.size))
      clear hb hb' HBC HRA
      go_wp2_with fail
      go_ret
      exact ⟨rfl, HBD.out⟩
    · obtain ⟨E, hE⟩ : ∃ E, E = parseE C.data.toList := ⟨_, rfl⟩
      have HPS : Hid (∀ W, Below w.heap.size w W → Calls Tryz.prog 7 #[.string C] W (ReadNo E W)) := Lib.hid (fun W h => by rw [hE]; exact parse_badS C W (HEV.out W h) hq)
      have hne : (E != 0) = true := by rw [hE]; simpa using hq
      clear hq hE
      go_at_call 7; refine (HPS.out _ HBB.out).mono ?_; rintro e wC ⟨qa, qc, ta, tc, ua, uc, rfl, hb⟩
      have HBC := Lib.hid (HBB.out.trans (hb.mono HBB.out.size))
      clear hb HBB
      go_wp2_with fail
      go_ret
      exact ⟨rfl, HBC.out.trans (((Below.refl _ _).alloc (Nat.le_refl _) _).mono HBC.out.size)⟩
  · have HPB1 := Lib.hid (HPB.out hz)
    have hc0 : (c == 0) = false := by simpa using hz
    clear HPG HTS HPB hz
    go_at_call 5; refine (HPB1.out _ HB5.out).mono ?_; rintro e w6 ⟨rfl, hb⟩
    have HB6 := Lib.hid (HB5.out.trans (hb.mono HB5.out.size))
    clear hb b0 b1 b2 b3 b4 b5 b6 b7 b8 b9 b10 HX5 HB5
    go_wp2_with fail
    go_ret
    exact ⟨rfl, HB6.out⟩
end Go.Proofs.YtjfkecadfnepjaaGreatDoor
