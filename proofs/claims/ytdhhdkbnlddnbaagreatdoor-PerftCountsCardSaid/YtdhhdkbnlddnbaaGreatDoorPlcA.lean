/- Merged by merge.py of the texts Plc PChk PFill PlcM Near. -/
import Derived.Test.YtdhhdkbnlddnbaaGreatDoorRulA
import Derived.Test.YtdhhdkbnlddnbaaGreatDoorRulB
import Derived.Laws.ResultCell
namespace Go.Proofs.YtdhhdkbnlddnbaaGreatDoor
open Go.ChangeShapes Go.WideShapes Go.ChangeAt Go.RowKit

structure PlaceD where
  cells : List Int
  h0 : List Int
  h1 : List Int
  turn : Int
  quiet : Int
def zeroP : PlaceD := ⟨[], [], [], 0, 0⟩
def PlaceCells (p : PlaceD) (vc v0 v1 : Value) : Array Value := #[vc, v0, v1, .int .i64 p.turn, .int .i64 p.quiet]
/-- The value of a position: its cells, its two hands, its turn and its quiet moves. -/
def PlaceV (p : PlaceD) (vc v0 v1 : Value) : Value := .agg (PlaceCells p vc v0 v1)
structure PlaceIn (W : World) (p : PlaceD) (vc v0 v1 : Value) : Prop where
  c : IsSl IntAt 1 W vc p.cells
  a : IsSl IntAt 1 W v0 p.h0
  b : IsSl IntAt 1 W v1 p.h1
theorem PlaceIn.below {W W' : World} {p : PlaceD} {vc v0 v1 : Value} (h : PlaceIn W p vc v0 v1) {n : Nat} (hb : Below n W W') (hn : W.heap.size ≤ n) : PlaceIn W' p vc v0 v1 :=
  ⟨h.c.below int_keeps hb hn, h.a.below int_keeps hb hn, h.b.below int_keeps hb hn⟩
/-- The cells of a variable that holds a position. -/
def BoxP (W : World) (b : Nat) (p : PlaceD) (vc v0 v1 : Value) : Prop :=
  W.cell? ⟨b, 0, none⟩ = some vc ∧ W.cell? ⟨b, 1, none⟩ = some v0 ∧ W.cell? ⟨b, 2, none⟩ = some v1 ∧ W.cell? ⟨b, 3, none⟩ = some (.int .i64 p.turn) ∧ W.cell? ⟨b, 4, none⟩ = some (.int .i64 p.quiet)
theorem BoxP.below {W W' : World} {b : Nat} {p : PlaceD} {vc v0 v1 : Value} (h : BoxP W b p vc v0 v1) {n : Nat} (hb : Below n W W') (hn : W.heap.size ≤ n) : BoxP W' b p vc v0 v1 := by
  obtain ⟨h0, h1, h2, h3, h4⟩ := h
  exact ⟨cell_keeps hb hn h0, cell_keeps hb hn h1, cell_keeps hb hn h2, cell_keeps hb hn h3, cell_keeps hb hn h4⟩
theorem boxP_new (w : World) (p : PlaceD) (vc v0 v1 : Value) (t : TypeId) : BoxP (w.alloc (.cells (PlaceCells p vc v0 v1) t)) w.heap.size p vc v0 v1 := by
  unfold BoxP
  refine ⟨?_, ?_, ?_, ?_, ?_⟩ <;> (rw [World.cell?_alloc_at (hn := rfl)]; rfl)
/-- A block of a position: what it holds, and that it may be written. -/
def PBox (W : World) (b : Nat) (t : TypeId) (p : PlaceD) (vc v0 v1 : Value) : Prop := W.heap[b]? = some (.cells (PlaceCells p vc v0 v1) t (0, 0))
theorem PBox.below {W W' : World} {b n : Nat} {t : TypeId} {p : PlaceD} {vc v0 v1 : Value} (h : PBox W b t p vc v0 v1) (hb : Below n W W') (hn : b < n) : PBox W' b t p vc v0 v1 := (hb.block b hn).trans h
def PFacts (W : World) (b : Nat) (p : PlaceD) (vc v0 v1 : Value) : Prop := BoxP W b p vc v0 v1 ∧ W.frozen? ⟨b, 0, none⟩ = false ∧ W.frozen? ⟨b, 1, none⟩ = false ∧ W.frozen? ⟨b, 2, none⟩ = false ∧ W.frozen? ⟨b, 3, none⟩ = false ∧ W.frozen? ⟨b, 4, none⟩ = false
theorem PBox.facts {W : World} {b : Nat} {t : TypeId} {p : PlaceD} {vc v0 v1 : Value} (h : PBox W b t p vc v0 v1) : PFacts W b p vc v0 v1 := by
  have hc : ∀ i, W.cell? ⟨b, i, none⟩ = (PlaceCells p vc v0 v1)[i]? := fun i => cell_of_row W b i _ t (0, 0) h
  have hf : ∀ i, W.frozen? ⟨b, i, none⟩ = false := fun i => frozen_of_row W b i _ t h
  exact ⟨⟨hc 0, hc 1, hc 2, hc 3, hc 4⟩, hf 0, hf 1, hf 2, hf 3, hf 4⟩
theorem PBox.lt {W : World} {b : Nat} {t : TypeId} {p : PlaceD} {vc v0 v1 : Value} (h : PBox W b t p vc v0 v1) : b < W.heap.size := (Array.getElem?_eq_some_iff.1 h).1
theorem PBox.new (W : World) (t : TypeId) (p : PlaceD) (vc v0 v1 : Value) : PBox (W.alloc (.cells (PlaceCells p vc v0 v1) t)) W.heap.size t p vc v0 v1 := heap_alloc_new W _
theorem PBox.alloc {W : World} {b : Nat} {t : TypeId} {p : PlaceD} {vc v0 v1 : Value} (h : PBox W b t p vc v0 v1) (o : Obj) : PBox (W.alloc o) b t p vc v0 v1 := (Below.heap_alloc W o b h.lt).trans h
theorem PBox.other {W : World} {b : Nat} {t : TypeId} {p : PlaceD} {vc v0 v1 : Value} (h : PBox W b t p vc v0 v1) {a : Addr} (ha : b ≠ a.block) (u : Value) : PBox (W.setCell a u) b t p vc v0 v1 := (heap_setCell_other W a b u ha).trans h

/-! ### What is wrong with it -/
def inN (m : Int) (x : Int) : Bool := inB x 0 m
def formB (r : RulesD) (p : PlaceD) : Bool := decide ((p.cells.length : Int) = r.width * r.height) && (decide (p.h0.length = r.pieces.length) && decide (p.h1.length = r.pieces.length))
def rangeB (r : RulesD) (p : PlaceD) : Bool :=
  p.cells.all (inN (2 * r.pieces.length)) && (p.h0.all (inN 1000) && (p.h1.all (inN 1000) && (inB p.turn 0 1 && inB p.quiet 0 200)))
def placeE (r : RulesD) (p : PlaceD) : Int := if rulesE r ≠ 0 then rulesE r else if formB r p = false then 3 else if rangeB r p = false then 4 else 0
theorem placeE_rules {r : RulesD} {p : PlaceD} (h : rulesE r ≠ 0) : placeE r p = rulesE r := by rw [placeE, if_pos h]
theorem placeE_form {r : RulesD} {p : PlaceD} (h : rulesE r = 0) (h2 : formB r p = false) : placeE r p = 3 := by rw [placeE, if_neg (by simpa using h), if_pos h2]
theorem placeE_range {r : RulesD} {p : PlaceD} (h : rulesE r = 0) (h2 : formB r p = true) (h3 : rangeB r p = false) : placeE r p = 4 := by rw [placeE, if_neg (by simpa using h), if_neg (by simp [h2]), if_pos h3]
theorem placeE_good {r : RulesD} {p : PlaceD} (h : rulesE r = 0) (h2 : formB r p = true) (h3 : rangeB r p = true) : placeE r p = 0 := by rw [placeE, if_neg (by simpa using h), if_neg (by simp [h2]), if_neg (by simp [h3])]
/-- What a good position is. -/
structure POkay (r : RulesD) (p : PlaceD) : Prop where
  e : rulesE r = 0
  cl : (p.cells.length : Int) = r.width * r.height
  l0 : p.h0.length = r.pieces.length
  l1 : p.h1.length = r.pieces.length
  cs : ∀ c ∈ p.cells, 0 ≤ c ∧ c ≤ 2 * r.pieces.length
  n0 : ∀ c ∈ p.h0, 0 ≤ c ∧ c ≤ 1000
  n1 : ∀ c ∈ p.h1, 0 ≤ c ∧ c ≤ 1000
  t0 : 0 ≤ p.turn
  t1 : p.turn ≤ 1
  q0 : 0 ≤ p.quiet
  q1 : p.quiet ≤ 200
theorem all_inN {m : Int} {l : List Int} : l.all (inN m) = true ↔ ∀ c ∈ l, 0 ≤ c ∧ c ≤ m := by
  rw [List.all_eq_true]
  exact ⟨fun h c hc => inB_iff.1 (h c hc), fun h c hc => inB_iff.2 (h c hc)⟩
theorem placeE_iff {r : RulesD} {p : PlaceD} : placeE r p = 0 ↔ POkay r p := by
  constructor
  · intro h
    have h1 : rulesE r = 0 := by
      by_cases hz : rulesE r = 0
      · exact hz
      · rw [placeE_rules hz] at h; exact absurd h hz
    have h2 : formB r p = true := by
      cases hz : formB r p
      · rw [placeE_form h1 hz] at h; cases h
      · rfl
    have h3 : rangeB r p = true := by
      cases hz : rangeB r p
      · rw [placeE_range h1 h2 hz] at h; cases h
      · rfl
    simp only [formB, Bool.and_eq_true, decide_eq_true_eq] at h2
    simp only [rangeB, Bool.and_eq_true, all_inN, inB_iff] at h3
    exact ⟨h1, h2.1, h2.2.1, h2.2.2, h3.1, h3.2.1, h3.2.2.1, h3.2.2.2.1.1, h3.2.2.2.1.2, h3.2.2.2.2.1, h3.2.2.2.2.2⟩
  · intro h
    refine placeE_good h.e ?_ ?_
    · simp only [formB, Bool.and_eq_true, decide_eq_true_eq]
      exact ⟨h.cl, h.l0, h.l1⟩
    · simp only [rangeB, Bool.and_eq_true, all_inN, inB_iff]
      exact ⟨h.cs, h.n0, h.n1, ⟨h.t0, h.t1⟩, h.q0, h.q1⟩
end Go.Proofs.YtdhhdkbnlddnbaaGreatDoor

set_option maxRecDepth 100000
namespace Go.Proofs.YtdhhdkbnlddnbaaGreatDoor
open Go.ChangeShapes Go.WideShapes Go.ChangeAt Go.RowKit

theorem pWithin_any (x m : Int) (w : World) :
    Calls Tryz.prog 81 #[.int .i64 x, .int .i64 m] w fun e w' => e = .returned (.bool (inN m x)) ∧ w' = w := by
  unfold inN inB
  go_enter Tryz.func81, Tryz.ntmps81
  go_wp2
  all_goals
    go_ret
    refine ⟨ret_bool ?_, rfl⟩
    first | (simp_all; done) | (simp_all; omega)
theorem pNot_any (x m : Int) (b : Addr) (w : World) (hb : w.cell? b = some (.int .i64 m)) :
    Calls Tryz.prog 101 #[.int .i64 x, .pointer (some b)] w fun e w' => e = .returned (.bool (!inN m x)) ∧ w' = w := by
  go_enter Tryz.func101, Tryz.ntmps101
  go_wp2_with fail
  go_at_call 81; refine (turned (pWithin_any _ _ _)).mono ?_; rintro e w' ⟨rfl, rfl⟩
  go_wp2_with fail
  go_ret
  exact ⟨rfl, rfl⟩
set_option maxHeartbeats 1000000 in
theorem indexP (xs : List Int) (m : Int) (v : Value) (b : Addr) (w : World) (hv : IsSl IntAt 1 w v xs) (hl : xs.length ≤ 100) (hb : w.cell? b = some (.int .i64 m)) :
    Calls Tryz.prog 122 #[v, .func (.func 101) #[] #[.pointer (some b)]] w (IdxPost (xs.any fun x => !inN m x) w) := by
  obtain ⟨n, hn⟩ : ∃ n : Nat, n = xs.length := ⟨_, rfl⟩
  obtain ⟨a, cp, rfl, _, hcell⟩ := hv.shape hn
  obtain ⟨p, hp⟩ : ∃ p : Int → Bool, p = fun x => !inN m x := ⟨_, rfl⟩
  have HN : Hid _ := Lib.hid hn
  have HC : Hid _ := Lib.hid hcell
  have HP : Hid (∀ x W', Below w.heap.size w W' → Calls Tryz.prog 101 #[.int .i64 x, .pointer (some b)] W' fun e w2 => e = .returned (.bool (p x)) ∧ W' = w2) := Lib.hid (fun x W' h => by
    rw [hp]; exact turned (pNot_any x m b W' (cell_keeps h (Nat.le_refl _) hb)))
  rw [← hn] at hl
  rw [← hp]
  clear hcell hn hv hp hb
  go_enter Tryz.func122, Tryz.ntmps122
  go_wp2
  go_loopw [8] (fun i wr => ∃ k : Nat, k ≤ n ∧ i = .int .i64 (k : Int) ∧ Hid ((xs.take k).any p = false) ∧ Hid (Below w.heap.size w wr)) (fun i _ => n - (intOf i).toNat)
  case atStart => exact ⟨0, by omega, rfl, Lib.hid rfl, Lib.hid (Below.refl _ _)⟩
  case round =>
    obtain ⟨k, hk, rfl, hall, hbel⟩ := hrel
    by_cases hlt : k < n
    · obtain ⟨g, off, x, rfl, hx, hq⟩ := HC.out k hlt
      have c0 : wr.cell? ⟨g, off + k, none⟩ = some (.int .i64 x) := by
        have h := int_keeps _ _ _ _ _ _ hbel.out (Nat.le_refl _) hq
        rw [Nat.mul_one] at h; exact h
      have HX : Hid _ := Lib.hid hx
      have HQ : Hid _ := Lib.hid (HP.out x wr hbel.out)
      clear hq hx HC HP
      cases hpx : p x
      · rw [hpx] at HQ
        have KP : Hid _ := Lib.hid hpx
        clear hpx
        go_wp2_with fail
        go_at_call 101; refine HQ.out.mono ?_; rintro e w2 ⟨rfl, rfl⟩
        go_wp2_with fail
        go_roundw
        case rel => exact ⟨k + 1, by omega, by go_num, Lib.hid (any_step HX.out hall.out KP.out), hbel⟩
        case measure => simp [intOf]; omega
      · rw [hpx] at HQ
        have KP : Hid (decide ((0 : Int) ≤ (k : Int)) = xs.any p) := Lib.hid (by rw [any_yes HX.out hpx]; simp)
        clear hpx
        go_wp2_with fail
        go_at_call 101; refine HQ.out.mono ?_; rintro e w2 ⟨rfl, rfl⟩
        go_wp2_with fail
        go_ret
        exact ⟨_, rfl, KP.out, hbel.out⟩
    · have KP : Hid (decide ((0 : Int) ≤ -1) = xs.any p) := Lib.hid (by
        have h := hall.out
        rw [List.take_of_length_le (by have := HN.out; omega)] at h
        rw [h]; decide)
      go_wp2_with fail
      go_ret
      exact ⟨_, rfl, KP.out, hbel.out⟩
theorem containsP (xs : List Int) (m : Int) (v : Value) (b : Addr) (w : World) (hv : IsSl IntAt 1 w v xs) (hl : xs.length ≤ 100) (hb : w.cell? b = some (.int .i64 m)) :
    Calls Tryz.prog 100 #[v, .func (.func 101) #[] #[.pointer (some b)]] w (BelPost (.bool (xs.any fun x => !inN m x)) w) := by
  have HI : Hid _ := Lib.hid (indexP xs m v b w hv hl hb)
  clear hv hb
  go_enter Tryz.func100, Tryz.ntmps100
  go_wp2_with fail
  go_at_call 122; refine HI.out.mono ?_; rintro e w' ⟨r, rfl, hr, hb⟩
  have KR : Hid _ := Lib.hid hr
  have HB : Hid _ := Lib.hid hb
  clear hr hb
  go_wp2_with fail
  go_ret
  exact ⟨ret_bool KR.out, HB.out⟩
theorem allWithin_any (xs : List Int) (m : Int) (v : Value) (w : World) (hv : IsSl IntAt 1 w v xs) (hl : xs.length ≤ 100) :
    Calls Tryz.prog 80 #[v, .int .i64 m] w (BelPost (.bool (xs.all (inN m))) w) := by
  have K : Hid ((!xs.any fun x => !inN m x) = xs.all (inN m)) := Lib.hid (by rw [List.all_eq_not_any_not])
  have HA : Hid (∀ W1, Below w.heap.size w W1 → IsSl IntAt 1 W1 v xs) := Lib.hid (fun W1 h => hv.below int_keeps h (Nat.le_refl _))
  clear hv
  go_enter Tryz.func80, Tryz.ntmps80
  go_wp2_with fail
  go_at_call 100
  refine (containsP xs m v _ _ (HA.out _ ((Below.refl w.heap.size w).alloc (Nat.le_refl _) _)) hl (by simp)).mono ?_
  rintro e w2 ⟨rfl, hb2⟩
  have HB : Hid (Below w.heap.size w w2) := Lib.hid (((Below.refl _ _).alloc (Nat.le_refl _) _).trans (hb2.mono (by simp)))
  clear hb2
  go_wp2_with fail
  go_ret
  exact ⟨ret_bool K.out, HB.out⟩

/-! ### Form and range -/
set_option maxHeartbeats 2000000 in
theorem hasForm_any (r : RulesD) (p : PlaceD) (vp vs ve vc v0 v1 : Value) (w : World) (hr : IsRules w r vp vs ve) (hp : PlaceIn w p vc v0 v1) (hz : rulesE r = 0) :
    Calls Tryz.prog 51 #[RulesV r vp vs ve, PlaceV p vc v0 v1] w (BelPost (.bool (formB r p)) w) := by
  obtain ⟨n, hn⟩ : ∃ n : Nat, n = r.pieces.length := ⟨_, rfl⟩
  obtain ⟨m, hm⟩ : ∃ m : Nat, m = p.cells.length := ⟨_, rfl⟩
  obtain ⟨k0, hk0⟩ : ∃ m : Nat, m = p.h0.length := ⟨_, rfl⟩
  obtain ⟨k1, hk1⟩ : ∃ m : Nat, m = p.h1.length := ⟨_, rfl⟩
  obtain ⟨A, hA⟩ : ∃ A : Int, A = r.width * r.height := ⟨_, rfl⟩
  obtain ⟨_, hw, hh, _⟩ := rulesE_ok hz
  rw [inB_iff] at hw hh
  have hA1 : 1 ≤ A := by rw [hA]; have := Int.mul_le_mul hw.1 hh.1 (by omega) (by omega); simpa using this
  have hA2 : A ≤ 64 := by rw [hA]; have := Int.mul_le_mul hw.2 hh.2 (by omega) (by omega); simpa using this
  have HF : Hid (formB r p = (decide ((m : Int) = A) && (decide (k0 = n) && decide (k1 = n)))) := Lib.hid (by rw [formB, hm, hk0, hk1, hn, hA])
  have hmul : r.width * r.height = A := hA.symm
  obtain ⟨ap, cp, rfl, _, _⟩ := hr.1.shape hn
  obtain ⟨ca, cc, rfl, _, _⟩ := hp.c.shape hm
  obtain ⟨a0, c0, rfl, _, _⟩ := hp.a.shape hk0
  obtain ⟨a1, c1, rfl, _, _⟩ := hp.b.shape hk1
  obtain ⟨hw1, hw2⟩ := hw
  obtain ⟨hh1, hh2⟩ := hh
  have hB : Below w.heap.size w ((w.alloc (.cells (RulesCells r (.slice ap n cp) vs ve) 26)).alloc (.cells (PlaceCells p (.slice ca m cc) (.slice a0 k0 c0) (.slice a1 k1 c1)) 29)) := ((Below.refl _ _).alloc (Nat.le_refl _) _).alloc (by simp) _
  have HB : Hid _ := Lib.hid hB
  have hn6 : n ≤ 9223372036854775807 := by rw [hn]; exact hr.1.fit
  have hm6 : m ≤ 9223372036854775807 := by rw [hm]; exact hp.c.fit
  have hk06 : k0 ≤ 9223372036854775807 := by rw [hk0]; exact hp.a.fit
  have hk16 : k1 ≤ 9223372036854775807 := by rw [hk1]; exact hp.b.fit
  unfold RulesCells PlaceCells at HB
  unfold RulesV PlaceV PlaceCells
  clear hr hp hn hm hk0 hk1 hA hz hB
  by_cases h1 : (m : Int) = A
  · have e1 : ((m : Int) == A) = true := by simpa using h1
    by_cases h2 : k0 = n
    · have e2 : ((k0 : Int) == (n : Int)) = true := beq_iff_eq.2 (by omega)
      by_cases h3 : k1 = n
      · have e3 : ((k1 : Int) == (n : Int)) = true := beq_iff_eq.2 (by omega)
        have K : Hid (true = formB r p) := Lib.hid (by rw [HF.out]; simp [h1, h2, h3])
        clear h1 h2 h3 HF
        go_enter Tryz.func51, Tryz.ntmps51
        go_wp2_with fail
        go_ret
        exact ⟨ret_bool K.out, HB.out⟩
      · have e3 : ((k1 : Int) == (n : Int)) = false := by simpa using (by omega : ¬ (k1 : Int) = n)
        have K : Hid (false = formB r p) := Lib.hid (by rw [HF.out]; simp [h3])
        clear h1 h2 h3 HF
        go_enter Tryz.func51, Tryz.ntmps51
        go_wp2_with fail
        go_ret
        exact ⟨ret_bool K.out, HB.out⟩
    · have e2 : ((k0 : Int) == (n : Int)) = false := by simpa using (by omega : ¬ (k0 : Int) = n)
      have K : Hid (false = formB r p) := Lib.hid (by rw [HF.out]; simp [h2])
      clear h1 h2 HF
      go_enter Tryz.func51, Tryz.ntmps51
      go_wp2_with fail
      go_ret
      exact ⟨ret_bool K.out, HB.out⟩
  · have e1 : ((m : Int) == A) = false := by simpa using h1
    have K : Hid (false = formB r p) := Lib.hid (by rw [HF.out]; simp [h1])
    clear h1 HF
    go_enter Tryz.func51, Tryz.ntmps51
    go_wp2_with fail
    go_ret
    exact ⟨ret_bool K.out, HB.out⟩
set_option maxHeartbeats 4000000 in
theorem isInRange_any (r : RulesD) (p : PlaceD) (vp vs ve vc v0 v1 : Value) (w : World) (hr : IsRules w r vp vs ve) (hp : PlaceIn w p vc v0 v1) (hz : rulesE r = 0) (hf : formB r p = true) :
    Calls Tryz.prog 52 #[RulesV r vp vs ve, PlaceV p vc v0 v1] w (BelPost (.bool (rangeB r p)) w) := by
  obtain ⟨n, hn⟩ : ∃ n : Nat, n = r.pieces.length := ⟨_, rfl⟩
  obtain ⟨_, hw, hh, hps, _⟩ := rulesE_ok hz
  have hn6 : n ≤ 6 := by rw [hn]; exact (piecesE_ok hps).2
  rw [inB_iff] at hw hh
  simp only [formB, Bool.and_eq_true, decide_eq_true_eq] at hf
  obtain ⟨f0, f1, f2⟩ := hf
  have hA2 : r.width * r.height ≤ 64 := by have := Int.mul_le_mul hw.2 hh.2 (by omega) (by omega); simpa using this
  obtain ⟨b0, hb0⟩ : ∃ b, b = p.cells.all (inN (2 * (n : Int))) := ⟨_, rfl⟩
  obtain ⟨b1, hb1⟩ : ∃ b, b = p.h0.all (inN 1000) := ⟨_, rfl⟩
  obtain ⟨b2, hb2⟩ : ∃ b, b = p.h1.all (inN 1000) := ⟨_, rfl⟩
  have HF : Hid (rangeB r p = (b0 && (b1 && (b2 && (inN 1 p.turn && inN 200 p.quiet))))) := Lib.hid (by rw [rangeB, hb0, hb1, hb2, hn]; rfl)
  have C0 : Hid (∀ W, Below w.heap.size w W → Calls Tryz.prog 80 #[vc, .int .i64 (2 * (n : Int))] W (BelPost (.bool b0) W)) := Lib.hid (fun W h => by rw [hb0]; exact allWithin_any _ _ _ _ (hp.c.below int_keeps h (Nat.le_refl _)) (by omega))
  have C1 : Hid (∀ W, Below w.heap.size w W → Calls Tryz.prog 80 #[v0, .int .i64 1000] W (BelPost (.bool b1) W)) := Lib.hid (fun W h => by rw [hb1]; exact allWithin_any _ _ _ _ (hp.a.below int_keeps h (Nat.le_refl _)) (by omega))
  have C2 : Hid (∀ W, Below w.heap.size w W → Calls Tryz.prog 80 #[v1, .int .i64 1000] W (BelPost (.bool b2) W)) := Lib.hid (fun W h => by rw [hb2]; exact allWithin_any _ _ _ _ (hp.b.below int_keeps h (Nat.le_refl _)) (by omega))
  obtain ⟨ap, cp, rfl, _, _⟩ := hr.1.shape hn
  have hB : Below w.heap.size w ((w.alloc (.cells (RulesCells r (.slice ap n cp) vs ve) 26)).alloc (.cells (PlaceCells p vc v0 v1) 29)) := ((Below.refl _ _).alloc (Nat.le_refl _) _).alloc (by simp) _
  have HB : Hid _ := Lib.hid hB
  have hX : BoxP ((w.alloc (.cells (RulesCells r (.slice ap n cp) vs ve) 26)).alloc (.cells (PlaceCells p vc v0 v1) 29)) (w.heap.size + 1) p vc v0 v1 := by
    have h := boxP_new (w.alloc (.cells (RulesCells r (.slice ap n cp) vs ve) 26)) p vc v0 v1 29
    rwa [World.size_alloc] at h
  have HX : Hid _ := Lib.hid hX
  unfold RulesCells PlaceCells at HB HX
  unfold RulesV PlaceV PlaceCells
  clear hr hp hn hb0 hb1 hb2 hw hh hps f0 f1 f2 hA2 hB hX hz
  go_enter Tryz.func52, Tryz.ntmps52
  go_wp2_with fail
  go_at_call 80; refine (C0.out _ HB.out).mono ?_; rintro e w1 ⟨rfl, hb⟩
  have HB1 := Lib.hid (HB.out.trans (hb.mono HB.out.size))
  have HX1 := Lib.hid (HX.out.below hb (Nat.le_refl _))
  clear hb HB HX C0
  cases b0
  · have K : Hid (false = rangeB r p) := Lib.hid (by rw [HF.out]; rfl)
    go_wp2_with fail
    go_ret
    exact ⟨ret_bool K.out, HB1.out⟩
  · obtain ⟨x0, x1, x2, x3, x4⟩ := HX1.out
    go_wp2_with fail
    go_at_call 80; refine (C1.out _ HB1.out).mono ?_; rintro e w2 ⟨rfl, hb⟩
    have HB2 := Lib.hid (HB1.out.trans (hb.mono HB1.out.size))
    have HX2 := Lib.hid (HX1.out.below hb (Nat.le_refl _))
    clear hb HB1 HX1 C1 x0 x1 x2 x3 x4
    cases b1
    · have K : Hid (false = rangeB r p) := Lib.hid (by rw [HF.out]; rfl)
      go_wp2_with fail
      go_ret
      exact ⟨ret_bool K.out, HB2.out⟩
    · obtain ⟨x0, x1, x2, x3, x4⟩ := HX2.out
      go_wp2_with fail
      go_at_call 80; refine (C2.out _ HB2.out).mono ?_; rintro e w3 ⟨rfl, hb⟩
      have HB3 := Lib.hid (HB2.out.trans (hb.mono HB2.out.size))
      have HX3 := Lib.hid (HX2.out.below hb (Nat.le_refl _))
      clear hb HB2 HX2 C2 x0 x1 x2 x3 x4
      cases b2
      · have K : Hid (false = rangeB r p) := Lib.hid (by rw [HF.out]; rfl)
        go_wp2_with fail
        go_ret
        exact ⟨ret_bool K.out, HB3.out⟩
      · obtain ⟨x0, x1, x2, x3, x4⟩ := HX3.out
        obtain ⟨b3, hb3⟩ : ∃ b, b = inN 1 p.turn := ⟨_, rfl⟩
        obtain ⟨b4, hb4⟩ : ∃ b, b = inN 200 p.quiet := ⟨_, rfl⟩
        rw [← hb3, ← hb4] at HF
        have C3 : Hid (∀ W, Calls Tryz.prog 81 #[.int .i64 p.turn, .int .i64 1] W fun e w' => e = .returned (.bool b3) ∧ W = w') := Lib.hid (fun W => by rw [hb3]; exact turned (pWithin_any _ _ _))
        have C4 : Hid (∀ W, Calls Tryz.prog 81 #[.int .i64 p.quiet, .int .i64 200] W fun e w' => e = .returned (.bool b4) ∧ W = w') := Lib.hid (fun W => by rw [hb4]; exact turned (pWithin_any _ _ _))
        clear hb3 hb4
        go_wp2_with fail
        go_at_call 81; refine (C3.out _).mono ?_; rintro e w' ⟨rfl, rfl⟩
        cases b3
        · have K : Hid (false = rangeB r p) := Lib.hid (by rw [HF.out]; rfl)
          go_wp2_with fail
          go_ret
          exact ⟨ret_bool K.out, HB3.out⟩
        · go_wp2_with fail
          go_at_call 81; refine (C4.out _).mono ?_; rintro e w' ⟨rfl, rfl⟩
          have K : Hid (b4 = rangeB r p) := Lib.hid (by rw [HF.out]; cases b4 <;> rfl)
          go_wp2_with fail
          go_ret
          exact ⟨ret_bool K.out, HB3.out⟩

set_option maxHeartbeats 4000000 in
theorem pcheck_any (r : RulesD) (p : PlaceD) (vp vs ve vc v0 v1 : Value) (w : World) (hr : RulesIn w r vp vs ve) (hp : PlaceIn w p vc v0 v1) :
    Calls Tryz.prog 36 #[RulesV r vp vs ve, PlaceV p vc v0 v1] w (BelPost (.int .i64 (placeE r p)) w) := by
  obtain ⟨c, hc⟩ : ∃ c : Int, c = rulesE r := ⟨_, rfl⟩
  have HCK : Hid (∀ W, Below w.heap.size w W → Calls Tryz.prog 48 #[RulesV r vp vs ve] W (BelPost (.int .i64 c) W)) := Lib.hid (fun W h => by rw [hc]; exact check_any r vp vs ve W (hr.below h (Nat.le_refl _)))
  have HFM : Hid (c = 0 → ∀ W, Below w.heap.size w W → Calls Tryz.prog 51 #[RulesV r vp vs ve, PlaceV p vc v0 v1] W (BelPost (.bool (formB r p)) W)) := Lib.hid (fun h0 W h => hasForm_any r p vp vs ve vc v0 v1 W (hr.1.below h (Nat.le_refl _)) (hp.below h (Nat.le_refl _)) (by rw [← hc]; exact h0))
  have HRG : Hid (c = 0 → formB r p = true → ∀ W, Below w.heap.size w W → Calls Tryz.prog 52 #[RulesV r vp vs ve, PlaceV p vc v0 v1] W (BelPost (.bool (rangeB r p)) W)) := Lib.hid (fun h0 h1 W h => isInRange_any r p vp vs ve vc v0 v1 W (hr.1.below h (Nat.le_refl _)) (hp.below h (Nat.le_refl _)) (by rw [← hc]; exact h0) h1)
  have HC := Lib.hid hc
  have hB : Below w.heap.size w ((w.alloc (.cells (RulesCells r vp vs ve) 26)).alloc (.cells (PlaceCells p vc v0 v1) 29)) := ((Below.refl _ _).alloc (Nat.le_refl _) _).alloc (by simp) _
  have HB : Hid _ := Lib.hid hB
  have hX : BoxP ((w.alloc (.cells (RulesCells r vp vs ve) 26)).alloc (.cells (PlaceCells p vc v0 v1) 29)) (w.heap.size + 1) p vc v0 v1 := by
    have h := boxP_new (w.alloc (.cells (RulesCells r vp vs ve) 26)) p vc v0 v1 29
    rwa [World.size_alloc] at h
  have HX : Hid _ := Lib.hid hX
  have hY : BoxR ((w.alloc (.cells (RulesCells r vp vs ve) 26)).alloc (.cells (PlaceCells p vc v0 v1) 29)) w.heap.size r vp vs ve :=
    (boxR_new w r vp vs ve 26).below ((Below.refl _ _).alloc (Nat.le_refl _) _) (Nat.le_refl _)
  have HY : Hid _ := Lib.hid hY
  unfold RulesCells PlaceCells at HB HX HY
  unfold RulesV at HCK HFM HRG ⊢
  unfold PlaceV PlaceCells at HFM HRG ⊢
  clear hr hp hc hB hX hY
  go_enter Tryz.func36, Tryz.ntmps36
  go_wp2_with fail
  go_at_call 48; refine (HCK.out _ HB.out).mono ?_; rintro e w1 ⟨rfl, hb⟩
  have HB1 := Lib.hid (HB.out.trans (hb.mono HB.out.size))
  have HX1 := Lib.hid (HX.out.below hb (Nat.le_refl _))
  have HY1 := Lib.hid (HY.out.below hb (Nat.le_refl _))
  clear hb HB HX HY HCK
  by_cases hz : c = 0
  · have HFM1 := Lib.hid (HFM.out hz)
    have HRG1 := Lib.hid (HRG.out hz)
    have HZ : Hid (rulesE r = 0) := Lib.hid (by rw [← HC.out]; exact hz)
    subst hz
    clear HFM HRG HC
    obtain ⟨x0, x1, x2, x3, x4⟩ := HX1.out
    obtain ⟨y0, y1, y2, y3, y4, y5, y6, y7, y8, y9, y10⟩ := HY1.out
    go_wp2_with fail
    go_at_call 51; refine (HFM1.out _ HB1.out).mono ?_; rintro e w2 ⟨rfl, hb⟩
    have HB2 := Lib.hid (HB1.out.trans (hb.mono HB1.out.size))
    have HX2 := Lib.hid (HX1.out.below hb (Nat.le_refl _))
    have HY2 := Lib.hid (HY1.out.below hb (Nat.le_refl _))
    clear hb HB1 HX1 HY1 HFM1 x0 x1 x2 x3 x4 y0 y1 y2 y3 y4 y5 y6 y7 y8 y9 y10
    cases hf : formB r p
    · have K : Hid ((3 : Int) = placeE r p) := Lib.hid (placeE_form HZ.out hf).symm
      clear hf
      go_wp2_with fail
      go_ret
      exact ⟨ret_i64 K.out, HB2.out⟩
    · have HRG2 := Lib.hid (HRG1.out hf)
      have HFF := Lib.hid hf
      clear hf HRG1
      obtain ⟨x0, x1, x2, x3, x4⟩ := HX2.out
      obtain ⟨y0, y1, y2, y3, y4, y5, y6, y7, y8, y9, y10⟩ := HY2.out
      go_wp2_with fail
      go_at_call 52; refine (HRG2.out _ HB2.out).mono ?_; rintro e w3 ⟨rfl, hb⟩
      have HB3 := Lib.hid (HB2.out.trans (hb.mono HB2.out.size))
      clear hb HB2 HX2 HY2 HRG2 x0 x1 x2 x3 x4 y0 y1 y2 y3 y4 y5 y6 y7 y8 y9 y10
      cases hg : rangeB r p
      · have K : Hid ((4 : Int) = placeE r p) := Lib.hid (placeE_range HZ.out HFF.out hg).symm
        clear hg
        go_wp2_with fail
        go_ret
        exact ⟨ret_i64 K.out, HB3.out⟩
      · have K : Hid ((0 : Int) = placeE r p) := Lib.hid (placeE_good HZ.out HFF.out hg).symm
        clear hg
        go_wp2_with fail
        go_ret
        exact ⟨ret_i64 K.out, HB3.out⟩
  · have K : Hid (c = placeE r p) := Lib.hid (by rw [placeE_rules (by rw [← HC.out]; exact hz), HC.out])
    have hne : (c != 0) = true := by simpa using hz
    clear hz HC
    go_wp2_with fail
    go_ret
    exact ⟨ret_i64 K.out, HB1.out⟩
end Go.Proofs.YtdhhdkbnlddnbaaGreatDoor

set_option maxRecDepth 100000
namespace Go.Proofs.YtdhhdkbnlddnbaaGreatDoor
open Go.ChangeShapes Go.WideShapes Go.ChangeAt Go.RowKit

theorem results_row_tmpP {P : Program} {fn : Func} {p u : Tmp} {ty : TypeId} (h : fn.results = #[.cell p ty, .tmp u]) (tmps : Array Value) (w : World) (g : Nat) (t : TypeId) (cs : Array Value) (fr : Nat × Nat) (d : TypeDesc)
    (hp : tmps.getD p undef = .pointer (some ⟨g, 0, none⟩)) (hg : w.heap[g]? = some (.cells cs t fr))
    (hu : P.underlying ty = some d) (hd : (match d with | .struct _ | .array _ _ => true | _ => false) = true) (hi : (P.info? ty).map (·.size) = some cs.size) :
    (results fn tmps).run P w = .ok (.tuple #[.agg cs, tmps.getD u undef]) w := by
  rw [results_cell_tmp h, hp]
  simp [asAddr, run_loadVar_row w g t ty cs fr d hg hu hd hi, Result.andThen]
/-- All five cells of a block of a position, written one behind the other. -/
def fillP (W : World) (b : Nat) (p : PlaceD) (vc v0 v1 : Value) : World :=
  ((((W.setCell ⟨b, 0, none⟩ vc).setCell ⟨b, 1, none⟩ v0).setCell ⟨b, 2, none⟩ v1).setCell ⟨b, 3, none⟩ (.int .i64 p.turn)).setCell ⟨b, 4, none⟩ (.int .i64 p.quiet)
theorem pbox_fill {W : World} {b : Nat} {t : TypeId} {p0 p : PlaceD} {uc u0 u1 vc v0 v1 : Value} (h : PBox W b t p0 uc u0 u1) : PBox (fillP W b p vc v0 v1) b t p vc v0 v1 := by
  have h0 : (W.setCell ⟨b, 0, none⟩ vc).heap[b]? = some (.cells #[vc, u0, u1, .int .i64 p0.turn, .int .i64 p0.quiet] t (0, 0)) := heap_setCell_same _ b 0 _ t vc h
  have h1 : ((W.setCell ⟨b, 0, none⟩ vc).setCell ⟨b, 1, none⟩ v0).heap[b]? = some (.cells #[vc, v0, u1, .int .i64 p0.turn, .int .i64 p0.quiet] t (0, 0)) := heap_setCell_same _ b 1 _ t v0 h0
  have h2 : (((W.setCell ⟨b, 0, none⟩ vc).setCell ⟨b, 1, none⟩ v0).setCell ⟨b, 2, none⟩ v1).heap[b]? = some (.cells #[vc, v0, v1, .int .i64 p0.turn, .int .i64 p0.quiet] t (0, 0)) := heap_setCell_same _ b 2 _ t v1 h1
  have h3 : ((((W.setCell ⟨b, 0, none⟩ vc).setCell ⟨b, 1, none⟩ v0).setCell ⟨b, 2, none⟩ v1).setCell ⟨b, 3, none⟩ (.int .i64 p.turn)).heap[b]? = some (.cells #[vc, v0, v1, .int .i64 p.turn, .int .i64 p0.quiet] t (0, 0)) := heap_setCell_same _ b 3 _ t _ h2
  exact heap_setCell_same _ b 4 _ t _ h3
theorem fillP_below {B : Nat} {w W : World} (h : Below B w W) {b : Nat} (hb : B ≤ b) (p : PlaceD) (vc v0 v1 : Value) : Below B w (fillP W b p vc v0 v1) :=
  ((((h.setCell hb _).setCell hb _).setCell hb _).setCell hb _).setCell hb _
theorem fillP_other (W : World) (b : Nat) (p : PlaceD) (vc v0 v1 : Value) : (∀ k, k ≠ b → (fillP W b p vc v0 v1).heap[k]? = W.heap[k]?) ∧ (fillP W b p vc v0 v1).heap.size = W.heap.size := by
  refine ⟨fun k hk => ?_, by simp [fillP]⟩
  unfold fillP
  rw [heap_setCell_other _ _ _ _ hk, heap_setCell_other _ _ _ _ hk, heap_setCell_other _ _ _ _ hk, heap_setCell_other _ _ _ _ hk, heap_setCell_other _ _ _ _ hk]
theorem IsSl.form {α : Type} {q : World → Nat → Nat → α → Prop} {k : Nat} {W : World} {v : Value} {xs : List α} (h : IsSl q k W v xs) : ∃ a n c, v = .slice a n c := by
  obtain ⟨a, c, e, _⟩ := h.shape rfl
  exact ⟨_, _, _, e⟩
/-- Numbers in blocks of a kind that stay. -/
theorem intBlk_on {b : Nat → Prop} {W W' : World} {v : Value} {xs : List Int} (hs : ∀ k, b k → k < W.heap.size → W'.heap[k]? = W.heap[k]?) (h : IsSl (Blk b IntAt) 1 W v xs) : IsSl (Blk b IntAt) 1 W' v xs :=
  h.mono fun g _ _ hx => ⟨hx.1, (World.cell?_of_block (w := W) (hs g hx.1 (World.block_lt_of_cell? _ _ hx.2))).trans hx.2⟩
theorem ints_off {b : Nat} {W W' : World} {v : Value} {xs : List Int} (hs : ∀ k, k ≠ b → W'.heap[k]? = W.heap[k]?) (h : IsSl (Blk (fun k => k ≠ b) IntAt) 1 W v xs) : IsSl IntAt 1 W' v xs :=
  (intBlk_on (fun k hk _ => hs k hk) h).mono fun _ _ _ hx => hx.2
theorem blk_weak {b d : Nat → Prop} (hbd : ∀ k, b k → d k) {W : World} {v : Value} {xs : List Int} (h : IsSl (Blk b IntAt) 1 W v xs) : IsSl (Blk d IntAt) 1 W v xs := h.mono fun _ _ _ hx => ⟨hbd _ hx.1, hx.2⟩
theorem blk_of {d : Nat → Prop} {W : World} {g o n c : Nat} {xs : List Int} (h : IsSl IntAt 1 W (.slice (some ⟨g, o, none⟩) n c) xs) (hd : d g) : IsSl (Blk d IntAt) 1 W (.slice (some ⟨g, o, none⟩) n c) xs := by
  rcases h with h | ⟨g', off, cap, e1, e2, e3, e4, hc⟩
  · exact .inl h
  · refine .inr ⟨g', off, cap, e1, e2, e3, e4, fun i x hx => ⟨?_, hc i x hx⟩⟩
    simp only [Value.slice.injEq, Option.some.injEq, Addr.mk.injEq, and_true] at e1
    rw [← e1.1.1]; exact hd
def CloneI (xs : List Int) (w : World) (e : Ending) (w' : World) : Prop := ∃ a n c, e = .returned (.slice a n c) ∧ IsSl (Blk (fun k => w.heap.size ≤ k) IntAt) 1 w' (.slice a n c) xs ∧ Below w.heap.size w w'
theorem clone_ints (xs : List Int) (v : Value) (w : World) (hv : IsSl IntAt 1 w v xs) (hl : xs.length ≤ 100) : Calls Tryz.prog 49 #[v] w (CloneI xs w) := by
  refine (clone_start int_moves int_celled xs v w hv hl).mono ?_
  rintro e w' ⟨v', rfl, ⟨news, h2⟩, h3, h4⟩
  obtain ⟨a, n, c, rfl⟩ := h3.form
  refine ⟨a, n, c, rfl, ?_, h4⟩
  rcases h3 with h | ⟨g', off, cap, e1, e2, e3, e4, hc⟩
  · exact .inl h
  · refine .inr ⟨g', off, cap, e1, e2, e3, e4, fun i x hx => ⟨?_, hc i x hx⟩⟩
    exact (h2.lt g' (by rw [e1]; rfl)).1
/-- No list of a position is long. -/
structure Short (p : PlaceD) : Prop where
  c : p.cells.length ≤ 100
  a : p.h0.length ≤ 100
  b : p.h1.length ≤ 100
theorem POkay.short {r : RulesD} {p : PlaceD} (h : POkay r p) : Short p := by
  obtain ⟨_, hw, hh, hps, _⟩ := rulesE_ok h.e
  have hn6 := (piecesE_ok hps).2
  rw [inB_iff] at hw hh
  have hA2 : r.width * r.height ≤ 64 := by have := Int.mul_le_mul hw.2 hh.2 (by omega) (by omega); simpa using this
  have := h.cl
  exact ⟨by omega, by have := h.l0; omega, by have := h.l1; omega⟩
theorem two_boxes (w : World) (p q : PlaceD) (vc v0 v1 uc u0 u1 : Value) (t : TypeId) :
    Below w.heap.size w ((w.alloc (.cells (PlaceCells p vc v0 v1) t)).alloc (.cells (PlaceCells q uc u0 u1) t)) ∧ BoxP ((w.alloc (.cells (PlaceCells p vc v0 v1) t)).alloc (.cells (PlaceCells q uc u0 u1) t)) w.heap.size p vc v0 v1 ∧ BoxP ((w.alloc (.cells (PlaceCells p vc v0 v1) t)).alloc (.cells (PlaceCells q uc u0 u1) t)) (w.heap.size + 1) q uc u0 u1 := by
  refine ⟨((Below.refl _ _).alloc (Nat.le_refl _) _).alloc (by simp) _, (boxP_new w p vc v0 v1 t).below ((Below.refl _ _).alloc (Nat.le_refl _) _) (Nat.le_refl _), ?_⟩
  have h := boxP_new (w.alloc (.cells (PlaceCells p vc v0 v1) t)) q uc u0 u1 t
  rwa [World.size_alloc] at h
def PBad (c : Int) (w : World) (e : Ending) (w' : World) : Prop := e = .returned (.tuple #[.agg #[.slice none 0 0, .slice none 0 0, .slice none 0 0, .int .i64 0, .int .i64 0], .int .i64 c]) ∧ Below w.heap.size w w'
end Go.Proofs.YtdhhdkbnlddnbaaGreatDoor

namespace Go.Proofs.YtdhhdkbnlddnbaaGreatDoor
open Go.RowKit

def otherD (r : RulesD) (p : PlaceD) : PlaceD := ⟨mirL r.width.toNat r.height.toNat p.cells, p.h1, p.h0, 1 - p.turn, p.quiet⟩
/-- The rules whose cells at first are those of a position. -/
def asStart (r : RulesD) (p : PlaceD) : RulesD := { r with start := p.cells }
theorem asStart_E {r : RulesD} {p : PlaceD} (h : POkay r p) : rulesE (asStart r p) = 0 := by
  obtain ⟨k1, k2, k3, k4, k5, k6, k7⟩ := rulesE_ok h.e
  have hs : startE (asStart r p) = 0 := by
    unfold startE
    rw [if_neg (by show ¬ ((p.cells.length : Int) ≠ r.width * r.height); simpa using h.cl), if_pos]
    show p.cells.all (fun c => inB c 0 (2 * r.pieces.length)) = true
    exact all_inN.2 h.cs
  unfold rulesE
  rw [show (asStart r p).name = r.name from rfl, show (asStart r p).width = r.width from rfl, show (asStart r p).height = r.height from rfl, show (asStart r p).pieces = r.pieces from rfl, show endsE (asStart r p) = endsE r from rfl, show otherE (asStart r p) = otherE r from rfl, hs, k1, k2, k3, k4, k6, k7]
  rfl
theorem asStart_mir (r : RulesD) (p : PlaceD) : (mirD (asStart r p)).start = (otherD r p).cells := rfl
theorem mirL_in {W H : Nat} {m : Int} (hW : 0 < W) {st : List Int} (h : st.length = W * H) (hm : m % 2 = 0) (hc : ∀ c ∈ st, 0 ≤ c ∧ c ≤ m) : ∀ c ∈ mirL W H st, 0 ≤ c ∧ c ≤ m := by
  intro c hcm
  obtain ⟨i, hi⟩ := List.getElem?_of_mem hcm
  have hil : i < W * H := by have := (List.getElem?_eq_some_iff.1 hi).1; rwa [mirL, mirTo_length] at this
  have h1 := mirL_at hW st hil
  rw [hi] at h1
  have h2 : c = exch (st[mirSq W H i]?.getD 0) := h1
  have hl2 : mirSq W H i < st.length := by rw [h]; exact mir_lt hW hil
  rw [List.getElem?_eq_getElem hl2, Option.getD_some] at h2
  have h3 := hc _ (List.getElem_mem hl2)
  obtain ⟨n, hn⟩ : ∃ n, m = 2 * n := ⟨m / 2, by omega⟩
  subst hn
  rw [h2]
  exact inB_iff.1 (exch_fits (inB_iff.2 h3))
theorem otherD_ok {r : RulesD} {p : PlaceD} (h : POkay r p) : POkay (mirD r) (otherD r p) := by
  obtain ⟨W, H, hw, hh, w1, w2, h1, h2, _, _⟩ := ok_nats h.e
  have hl : p.cells.length = W * H := by
    have := h.cl; rw [hw, hh, ← Int.natCast_mul] at this; exact_mod_cast this
  refine ⟨mirD_E h.e, ?_, h.l1, h.l0, ?_, h.n1, h.n0, ?_, ?_, h.q0, h.q1⟩
  · show ((mirL r.width.toNat r.height.toNat p.cells).length : Int) = r.width * r.height
    rw [hw, hh, Int.toNat_natCast, Int.toNat_natCast, mirL, mirTo_length, Int.natCast_mul]
  · show ∀ c ∈ mirL r.width.toNat r.height.toNat p.cells, 0 ≤ c ∧ c ≤ 2 * (r.pieces.length : Int)
    rw [hw, hh, Int.toNat_natCast, Int.toNat_natCast]
    exact mirL_in w1 hl (by omega) h.cs
  · show 0 ≤ 1 - p.turn
    have := h.t1; omega
  · show 1 - p.turn ≤ 1
    have := h.t0; omega
theorem otherD_otherD {r : RulesD} {p : PlaceD} (h : POkay r p) : otherD (mirD r) (otherD r p) = p := by
  obtain ⟨W, H, hw, hh, w1, w2, h1, h2, _, _⟩ := ok_nats h.e
  have hl : p.cells.length = W * H := by
    have := h.cl; rw [hw, hh, ← Int.natCast_mul] at this; exact_mod_cast this
  have h3 : mirL r.width.toNat r.height.toNat (mirL r.width.toNat r.height.toNat p.cells) = p.cells := by
    rw [hw, hh, Int.toNat_natCast, Int.toNat_natCast]
    exact mirL_mirL w1 hl (fun c hc => (h.cs c hc).1)
  have h4 : 1 - (1 - p.turn) = p.turn := by omega
  show PlaceD.mk (mirL r.width.toNat r.height.toNat (mirL r.width.toNat r.height.toNat p.cells)) p.h0 p.h1 (1 - (1 - p.turn)) p.quiet = p
  rw [h3, h4]
end Go.Proofs.YtdhhdkbnlddnbaaGreatDoor

set_option maxRecDepth 100000
namespace Go.Proofs.YtdhhdkbnlddnbaaGreatDoor
open Go.ChangeShapes Go.WideShapes Go.ChangeAt Go.RowKit

def nearD : PlaceD := ⟨[1, 1, 0, 2, 2, 0, 0, 0, 0], [3], [3], 0, 0⟩
def PlacePost (p : PlaceD) (w : World) (e : Ending) (w' : World) : Prop := ∃ vc v0 v1, e = .returned (PlaceV p vc v0 v1) ∧ PlaceIn w' p vc v0 v1 ∧ Below w.heap.size w w'
set_option maxHeartbeats 2000000 in
theorem near_any (w : World) : Calls Tryz.prog 8 #[] w (PlacePost nearD w) := by
  go_enter Tryz.func8, Tryz.ntmps8
  go_wp2_with fail
  refine bodyPost_ret (v := PlaceV nearD (.slice (some ⟨w.heap.size + 1, 0, none⟩) 9 9) (.slice (some ⟨w.heap.size + 1 + 1, 0, none⟩) 1 1) (.slice (some ⟨w.heap.size + 1 + 1 + 1, 0, none⟩) 1 1)) (by simp [results, Tryz.results8, go_sem, PlaceV, PlaceCells, nearD]) rfl ⟨_, _, _, rfl, ⟨?_, ?_, ?_⟩, ?_⟩
  · refine .inr ⟨_, 0, 9, rfl, by simp [nearD], by simp [nearD], by decide, fun i x hx => ?_⟩
    have hi : i < 9 := (List.getElem?_eq_some_iff.1 hx).1
    match i, hi, hx with
    | 0, _, hx | 1, _, hx | 2, _, hx | 3, _, hx | 4, _, hx | 5, _, hx | 6, _, hx | 7, _, hx | 8, _, hx => obtain rfl := Option.some.inj hx; simp [IntAt, go_sem]
  · refine .inr ⟨_, 0, 1, rfl, by simp [nearD], by simp [nearD], by decide, fun i x hx => ?_⟩
    have hi : i < 1 := (List.getElem?_eq_some_iff.1 hx).1
    match i, hi, hx with
    | 0, _, hx => obtain rfl := Option.some.inj hx; simp [IntAt, go_sem]
  · refine .inr ⟨_, 0, 1, rfl, by simp [nearD], by simp [nearD], by decide, fun i x hx => ?_⟩
    have hi : i < 1 := (List.getElem?_eq_some_iff.1 hx).1
    match i, hi, hx with
    | 0, _, hx => obtain rfl := Option.some.inj hx; simp [IntAt, go_sem]
  · simp only [World.alloc]
    exact ((((Below.refl _ _).alloc (by simp) _).alloc (by simp <;> omega) _).alloc (by simp <;> omega) _).alloc (by simp <;> omega) _
end Go.Proofs.YtdhhdkbnlddnbaaGreatDoor
