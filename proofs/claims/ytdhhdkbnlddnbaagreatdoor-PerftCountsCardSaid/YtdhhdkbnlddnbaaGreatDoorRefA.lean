/- gamehallref1.After: the position after a move, as the reference makes it; SameInts, SamePlace at the same position twice. (Written by wip/tools/genrefafter.py.) -/
import Derived.Test.YtdhhdkbnlddnbaaGreatDoorRefL
import Derived.Test.YtdhhdkbnlddnbaaGreatDoorPBegin
import Derived.Test.YtdhhdkbnlddnbaaGreatDoorPlcF
import Derived.BigQuiet
import Derived.Deep.CutRange
set_option maxRecDepth 100000
namespace Go.Proofs.YtdhhdkbnlddnbaaGreatDoor
open Go.ChangeShapes Go.WideShapes Go.ChangeAt Go.RowKit


/-! ### What the reference puts where -/
def refCell (p : PlaceD) (m : MoveD) (s : Nat) (c : Int) : Int := if (s : Int) = m.2.1 then 2 * m.2.2 + p.turn + 1 else if (s : Int) = m.1 then 0 else c
theorem setI_at {l : List Int} {i x : Int} {s : Nat} (h0 : 0 ≤ i) (hs : s < l.length) : (setI l i x)[s]? = some (if (s : Int) = i then x else l[s]?.getD 0) := by
  unfold setI
  rw [List.getElem?_set]
  by_cases h : (s : Int) = i
  · rw [if_pos (by omega), if_pos h, if_pos (by omega)]
  · rw [if_neg (by omega), if_neg h, List.getElem?_eq_getElem hs]; rfl
theorem cellsD_len (p : PlaceD) (m : MoveD) : (cellsD p m).length = p.cells.length := by
  unfold cellsD
  rw [setI_length]
  split
  · rfl
  · rw [setI_length]
theorem cellsD_at {r : RulesD} {p : PlaceD} {m : MoveD} (ho : MoveOK r p m) {s : Nat} (hs : s < p.cells.length) : (cellsD p m)[s]? = some (refCell p m s (cellI p (s : Int))) := by
  unfold cellsD refCell
  have h0 := ho.t0
  by_cases h1 : m.1 = -1
  · rw [if_pos h1, setI_at h0 hs, cellI, Int.toNat_natCast]
    by_cases h2 : (s : Int) = m.2.1
    · rw [if_pos h2, if_pos h2]
    · rw [if_neg h2, if_neg h2, if_neg (by omega)]
  · rw [if_neg h1, setI_at h0 (by rw [setI_length]; exact hs)]
    have h3 : 0 ≤ m.1 := by
      rcases ho.src with ⟨h, _⟩ | ⟨h, _⟩
      · exact absurd h h1
      · exact h
    by_cases h2 : (s : Int) = m.2.1
    · rw [if_pos h2, if_pos h2]
    · rw [if_neg h2, if_neg h2, setI_at h3 hs, cellI, Int.toNat_natCast]; rfl
theorem take_map {l : List Int} {s : Nat} {x : Int} (h : l[s]? = some x) : iv (l.take (s + 1)) = iv (l.take s) ++ [.int .i64 x] := by
  unfold iv; rw [List.take_add_one, h]; simp
/-- The hand of the player who moves, its t-th number: first without the piece that is put, then with the one that is taken. -/
def putN (m : MoveD) (t : Nat) (x : Int) : Int := if m.1 = -1 ∧ (t : Int) = m.2.2 then x - 1 else x
def takeN (r : RulesD) (c : Int) (t : Nat) (x : Int) : Int := if r.keeps = true ∧ 0 < c ∧ (t : Int) = kindOfI c ∧ x < 1000 then x + 1 else x
theorem handPut_at {r : RulesD} {p : PlaceD} {m : MoveD} (hk : POkay r p) (ho : MoveOK r p m) {t : Nat} (ht : t < r.pieces.length) : (handPut p m)[t]? = some (putN m t (nth (handI p) (t : Int))) := by
  have hl := hand_len hk
  unfold handPut putN
  by_cases h1 : m.1 = -1
  · rw [if_pos h1, setI_at ho.k0 (by omega)]
    by_cases h2 : (t : Int) = m.2.2
    · rw [if_pos h2, if_pos ⟨h1, h2⟩, h2]
    · rw [if_neg h2, if_neg (fun h => h2 h.2)]; simp [nth]
  · rw [if_neg h1, if_neg (fun h => h1 h.1), List.getElem?_eq_getElem (by omega)]
    simp [nth, List.getElem?_eq_getElem (show t < (handI p).length by omega)]
theorem handD_at {r : RulesD} {p : PlaceD} {m : MoveD} (hk : POkay r p) (ho : MoveOK r p m) {t : Nat} (ht : t < r.pieces.length) : (handD r p m)[t]? = some (takeN r (cellI p m.2.1) t (putN m t (nth (handI p) (t : Int)))) := by
  obtain ⟨hin, hlen⟩ := handPut_in hk ho
  have hx := handPut_at hk ho ht
  have hb := hin _ (List.mem_of_getElem? hx)
  have hc := cell_in hk m.2.1
  unfold handD takeN
  by_cases h1 : cellI p m.2.1 ≠ 0 ∧ r.keeps = true
  · have hkd := kind_in hk h1.1
    rw [if_pos h1, setI_at hkd.1 (by omega)]
    by_cases h2 : (t : Int) = kindOfI (cellI p m.2.1)
    · rw [if_pos h2, ← h2]
      have hn : nth (handPut p m) (t : Int) = putN m t (nth (handI p) (t : Int)) := by rw [nth, Int.toNat_natCast, hx]; rfl
      rw [hn]
      by_cases h3 : putN m t (nth (handI p) (t : Int)) < 1000
      · rw [if_pos ⟨h1.2, by omega, rfl, h3⟩]; congr 1; omega
      · rw [if_neg (fun h => h3 h.2.2.2)]; congr 1; omega
    · rw [if_neg h2, if_neg (fun h => h2 h.2.2.1), hx]; rfl
  · rw [if_neg h1, if_neg (fun h => h1 ⟨by omega, h.1⟩)]
    exact hx
/-- What the o-th hand becomes. -/
def refHands (r : RulesD) (p : PlaceD) (m : MoveD) (o : Nat) : List Int := if (o : Int) = p.turn then handD r p m else if o = 0 then p.h0 else p.h1
def oldHand (p : PlaceD) (o : Nat) : List Int := if o = 0 then p.h0 else p.h1
theorem oldHand_len {r : RulesD} {p : PlaceD} (hk : POkay r p) (o : Nat) : (oldHand p o).length = r.pieces.length := by
  unfold oldHand; split
  · exact hk.l0
  · exact hk.l1
theorem refHands_len {r : RulesD} {p : PlaceD} {m : MoveD} (hk : POkay r p) (ho : MoveOK r p m) (o : Nat) : (refHands r p m o).length = r.pieces.length := by
  unfold refHands; split
  · exact (handD_in hk ho).2
  · exact oldHand_len hk o
theorem refHands_at {r : RulesD} {p : PlaceD} {m : MoveD} (hk : POkay r p) (ho : MoveOK r p m) {o t : Nat} (_h2 : o ≤ 1) (ht : t < r.pieces.length) {x : Int} (hx : (oldHand p o)[t]? = some x) : (refHands r p m o)[t]? = some (if (o : Int) = p.turn then takeN r (cellI p m.2.1) t (putN m t x) else x) := by
  have ht0 := hk.t0
  have ht1 := hk.t1
  unfold refHands
  by_cases h : (o : Int) = p.turn
  · rw [if_pos h, if_pos h, handD_at hk ho ht]
    have e : oldHand p o = handI p := by
      unfold oldHand handI
      by_cases h0 : o = 0
      · rw [if_pos h0, if_pos (by omega)]
      · rw [if_neg h0, if_neg (by omega)]
    rw [e] at hx
    rw [nth, Int.toNat_natCast, hx]; rfl
  · rw [if_neg h, if_neg h]; exact hx
theorem oldHand_in {r : RulesD} {p : PlaceD} (hk : POkay r p) {o t : Nat} {x : Int} (hx : (oldHand p o)[t]? = some x) : 0 ≤ x ∧ x ≤ 1000 := by
  unfold oldHand at hx
  split at hx
  · exact hk.n0 x (List.mem_of_getElem? hx)
  · exact hk.n1 x (List.mem_of_getElem? hx)
theorem refHands_0 {r : RulesD} {p : PlaceD} {m : MoveD} : refHands r p m 0 = (afterD r p m).h0 := by
  show (if ((0 : Nat) : Int) = p.turn then handD r p m else if (0 : Nat) = 0 then p.h0 else p.h1) = if p.turn = 0 then handD r p m else p.h0
  by_cases h : p.turn = 0
  · rw [if_pos (by omega), if_pos h]
  · rw [if_neg (by omega), if_neg h, if_pos rfl]
theorem refHands_1 {r : RulesD} {p : PlaceD} {m : MoveD} (hk : POkay r p) : refHands r p m 1 = (afterD r p m).h1 := by
  have h0 := hk.t0
  have h1 := hk.t1
  show (if ((1 : Nat) : Int) = p.turn then handD r p m else if (1 : Nat) = 0 then p.h0 else p.h1) = if p.turn = 0 then p.h1 else handD r p m
  by_cases h : p.turn = 0
  · rw [if_neg (by omega), if_neg (by decide), if_pos h]
  · rw [if_pos (by omega), if_neg h]
theorem ref_num (r : RulesD) (c m1 mt m3 : Int) (k : Nat) (x : Int) (be kp : Bool) (hkp : r.keeps = kp) :
    (if be = true then takeN r c k (putN (m1, mt, m3) k x) else x) = (if (be && (kp && (decide (0 < c) && (decide ((k : Int) = (c - 1) / 2) && decide ((if (be && (decide (m1 = -1) && decide ((k : Int) = m3))) = true then x - 1 else x) < 1000))))) = true then (if (be && (decide (m1 = -1) && decide ((k : Int) = m3))) = true then x - 1 else x) + 1 else (if (be && (decide (m1 = -1) && decide ((k : Int) = m3))) = true then x - 1 else x)) := by
  cases be
  · simp
  · have h1 : putN (m1, mt, m3) k x = (if (true && (decide (m1 = -1) && decide ((k : Int) = m3))) = true then x - 1 else x) := by
      unfold putN; dsimp only; simp only [Bool.true_and, Bool.and_eq_true, decide_eq_true_eq]
    rw [if_pos rfl, ← h1]
    generalize putN (m1, mt, m3) k x = y
    unfold takeN kindOfI
    rw [hkp]
    simp only [Bool.true_and, Bool.and_eq_true, decide_eq_true_eq]
/-- A position with these two numbers, its lists aside. -/
def numP (t q : Int) : PlaceD := ⟨[], [], [], t, q⟩
/-- What stands while the new position is filled: its block is the one behind V's. -/
structure AInv (V : World) (t q : Int) (vc h0 h1 : Value) (C l0 l1 : List Int) (W : World) : Prop where
  box : PBox W V.heap.size 29 (numP t q) vc h0 h1
  c : IsSl (Blk (fun k => V.heap.size < k) IntAt) 1 W vc C
  a : IsSl (Blk (fun k => V.heap.size < k) IntAt) 1 W h0 l0
  b : IsSl (Blk (fun k => V.heap.size < k) IntAt) 1 W h1 l1
  bel : Below V.heap.size V W
theorem AInv.quiet {V : World} {t q q' : Int} {vc h0 h1 : Value} {C l0 l1 : List Int} {W : World} (h : AInv V t q vc h0 h1 C l0 l1 W) : AInv V t q' vc h0 h1 C l0 l1 (W.setCell ⟨V.heap.size, 4, none⟩ (.int .i64 q')) := by
  have hs : ∀ k, k ≠ V.heap.size → (W.setCell ⟨V.heap.size, 4, none⟩ (.int .i64 q')).heap[k]? = W.heap[k]? := fun k hk => heap_setCell_other W ⟨V.heap.size, 4, none⟩ k _ hk
  refine ⟨heap_setCell_same W V.heap.size 4 _ _ _ h.box, ?_, ?_, ?_, h.bel.setCell (p := ⟨V.heap.size, 4, none⟩) (Nat.le_refl _) _⟩
  · exact intBlk_on (fun k hk _ => hs k (by omega)) h.c
  · exact intBlk_on (fun k hk _ => hs k (by omega)) h.a
  · exact intBlk_on (fun k hk _ => hs k (by omega)) h.b
def RefAft (q : PlaceD) (w : World) (e : Ending) (w' : World) : Prop :=
  ∃ ca cn cc a0 n0 c0 a1 n1 c1, e = .returned (.agg #[.slice ca cn cc, .slice a0 n0 c0, .slice a1 n1 c1, .int .i64 q.turn, .int .i64 q.quiet]) ∧ PlaceIn w' q (.slice ca cn cc) (.slice a0 n0 c0) (.slice a1 n1 c1) ∧ Below w.heap.size w w'
/-- The same; and the lists lie in memory that the call has made. -/
def RefAftF (q : PlaceD) (w : World) (e : Ending) (w' : World) : Prop :=
  ∃ ca cn cc a0 n0 c0 a1 n1 c1, e = .returned (.agg #[.slice ca cn cc, .slice a0 n0 c0, .slice a1 n1 c1, .int .i64 q.turn, .int .i64 q.quiet]) ∧ PlaceF (fun k => w.heap.size ≤ k) w' q (.slice ca cn cc) (.slice a0 n0 c0) (.slice a1 n1 c1) ∧ Below w.heap.size w w'
set_option maxHeartbeats 16000000 in
theorem refAfterF_any (r : RulesD) (p : PlaceD) (vp vs ve vc v0 v1 : Value) (m : MoveD) (w : World) (hp : PlaceIn w p vc v0 v1) (hk : POkay r p) (hl : legalB r p m = true) :
    Calls Tryz.prog 28 #[RulesV r vp vs ve, PlaceV p vc v0 v1, moveV m] w (RefAftF (afterD r p m) w) := by
  obtain ⟨i0, hi, hz0, hz1, hz2⟩ := info_parts infoIntR
  have ho := legal_ok hk hl
  have hcl := cells_len hk
  have hK := pieces_len hk.e
  obtain ⟨n, hn⟩ : ∃ n, n = p.cells.length := ⟨_, rfl⟩
  obtain ⟨K, hKK⟩ : ∃ K, K = r.pieces.length := ⟨_, rfl⟩
  obtain ⟨g, off, cc, rfl, hcc, hcell⟩ := ints_open hp.c hcl.1
  obtain ⟨g0, o0, c0', rfl, hc0, hh0⟩ := ints_open hp.a (by rw [hk.l0]; exact hK.1)
  obtain ⟨g1, o1, c1', rfl, hc1, hh1⟩ := ints_open hp.b (by rw [hk.l1]; exact hK.1)
  have hl0 := hk.l0
  have hl1 := hk.l1
  rw [hl0, ← hKK] at hc0 hh0 hp ⊢
  rw [hl1, ← hKK] at hc1 hh1 hp ⊢
  rw [← hn] at hcc hcell hp hcl ⊢
  rw [← hKK] at hK
  obtain ⟨V, hV, hB, hY, hX, hM, hVS⟩ := rpm_boxes w r p vp vs ve (.slice (some ⟨g, off, none⟩) n cc) (.slice (some ⟨g0, o0, none⟩) K c0') (.slice (some ⟨g1, o1, none⟩) K c1') m
  obtain ⟨tn, htn⟩ : ∃ tn : Nat, p.turn = (tn : Int) := ⟨p.turn.toNat, by have := hk.t0; omega⟩
  have htn1 : tn ≤ 1 := by have := hk.t1; omega
  have q0 := hk.q0
  have q1 := hk.q1
  obtain ⟨c, hc⟩ : ∃ c, c = cellI p m.2.1 := ⟨_, rfl⟩
  have hcr := cell_in hk m.2.1
  rw [← hc, ← hKK] at hcr
  obtain ⟨V1, hV1⟩ : ∃ V1, V1 = V.alloc (.cells (PlaceCells zeroP (.slice none 0 0) (.slice none 0 0) (.slice none 0 0)) 29) := ⟨_, rfl⟩
  have hB1 : Below V.heap.size V V1 := by rw [hV1]; exact (Below.refl _ _).alloc (Nat.le_refl _) _
  have hV1S : V1.heap.size = w.heap.size + 4 := by rw [hV1]; simp [hVS]
  have hZ : PBox V1 (w.heap.size + 3) 29 zeroP (.slice none 0 0) (.slice none 0 0) (.slice none 0 0) := by
    rw [hV1, ← hVS]; exact PBox.new _ _ _ _ _ _
  obtain ⟨U, hU⟩ : ∃ U, U = V1.alloc (.cells (PlaceCells (numP (1 - (tn : Int)) (p.quiet + 1)) (.slice none 0 0) (.slice none 0 0) (.slice none 0 0)) 29) := ⟨_, rfl⟩
  have hB2 : Below V1.heap.size V1 U := by rw [hU]; exact (Below.refl _ _).alloc (Nat.le_refl _) _
  have hUS : U.heap.size = V1.heap.size + 1 := by rw [hU]; simp
  have hQ : PBox U V1.heap.size 29 (numP (1 - (tn : Int)) (p.quiet + 1)) (.slice none 0 0) (.slice none 0 0) (.slice none 0 0) := by
    rw [hU]; exact PBox.new _ _ _ _ _ _
  have HUS := Lib.hid hUS
  have HV1S := Lib.hid hV1S
  have HQ := Lib.hid hQ
  have HZ := Lib.hid hZ
  have HB2 := Lib.hid hB2
  have HBW : Hid (Below w.heap.size w V1) := Lib.hid (hB.trans (hB1.mono hB.size))
  have HX : Hid (∀ W, Below V1.heap.size V1 W → BoxP W (w.heap.size + 1) p (.slice (some ⟨g, off, none⟩) n cc) (.slice (some ⟨g0, o0, none⟩) K c0') (.slice (some ⟨g1, o1, none⟩) K c1')) := Lib.hid (fun W hb => (hX.below hB1 (Nat.le_refl _)).below hb (Nat.le_refl _))
  have HY : Hid (∀ W, Below V1.heap.size V1 W → W.cell? ⟨w.heap.size, 6, none⟩ = some (.bool r.keeps)) := Lib.hid (fun W hb => by
    obtain ⟨_, _, _, _, _, _, y6, _⟩ := (hY.below hB1 (Nat.le_refl _)).below hb (Nat.le_refl _)
    exact y6)
  have HM : Hid (∀ W, Below V1.heap.size V1 W → W.cell? ⟨w.heap.size + 2, 0, none⟩ = some (.int .i64 m.1) ∧ W.cell? ⟨w.heap.size + 2, 1, none⟩ = some (.int .i64 m.2.1) ∧ W.cell? ⟨w.heap.size + 2, 2, none⟩ = some (.int .i64 m.2.2)) := Lib.hid (fun W hb => ((hM.below hB1 (Nat.le_refl _)).below hb (Nat.le_refl _)).parts)
  have hwV1 := HBW.out
  have HC : Hid (∀ W, Below V1.heap.size V1 W → ∀ j, j < n → W.cell? ⟨g, off + j, none⟩ = some (.int .i64 (cellI p (j : Int)))) := Lib.hid (fun W hb j hj => by
    rw [cellI, Int.toNat_natCast]; exact cell_keeps hb (Nat.le_refl _) (cell_keeps hwV1 (Nat.le_refl _) (hcell j hj)))
  have HH0 : Hid (∀ W, Below V1.heap.size V1 W → ∀ j, j < K → ∃ x, (oldHand p 0)[j]? = some x ∧ W.cell? ⟨g0, o0 + j, none⟩ = some (.int .i64 x)) := Lib.hid (fun W hb j hj =>
    ⟨p.h0[j]?.getD 0, by show p.h0[j]? = _; rw [List.getElem?_eq_getElem (by omega)]; rfl, cell_keeps hb (Nat.le_refl _) (cell_keeps hwV1 (Nat.le_refl _) (hh0 j hj))⟩)
  have HH1 : Hid (∀ W, Below V1.heap.size V1 W → ∀ j, j < K → ∃ x, (oldHand p 1)[j]? = some x ∧ W.cell? ⟨g1, o1 + j, none⟩ = some (.int .i64 x)) := Lib.hid (fun W hb j hj =>
    ⟨p.h1[j]?.getD 0, by show p.h1[j]? = _; rw [List.getElem?_eq_getElem (by omega)]; rfl, cell_keeps hb (Nat.le_refl _) (cell_keeps hwV1 (Nat.le_refl _) (hh1 j hj))⟩)
  have HRA : Hid (∀ o t x, o ≤ 1 → t < K → (oldHand p o)[t]? = some x → (refHands r p m o)[t]? = some (if (o : Int) = (tn : Int) then takeN r c t (putN m t x) else x)) := Lib.hid (fun o t x h1 h2 h3 => by rw [← htn, hc]; exact refHands_at hk ho h1 (by omega) h3)
  have HRB : Hid (∀ (o t : Nat) (x : Int), o ≤ 1 → (oldHand p o)[t]? = some x → 0 ≤ x ∧ x ≤ 1000) := Lib.hid (fun o t x _ h2 => oldHand_in hk h2)
  have HRL : Hid (∀ o, (refHands r p m o).length = K) := Lib.hid (fun o => by rw [hKK]; exact refHands_len hk ho o)
  have HCA : Hid (∀ s, s < n → (cellsD p m)[s]? = some (refCell p m s (cellI p (s : Int)))) := Lib.hid (fun s h => cellsD_at ho (by omega))
  have HCL : Hid ((cellsD p m).length = n) := Lib.hid (by rw [hn]; exact cellsD_len p m)
  have HR0 := Lib.hid (refHands_0 (r := r) (p := p) (m := m))
  have HR1 := Lib.hid (refHands_1 (m := m) hk)
  have HQF : Hid ((afterD r p m).quiet = if m.1 = -1 ∨ c ≠ 0 then 0 else min (p.quiet + 1) 200) := Lib.hid (by rw [hc]; rfl)
  have hm0 := ho.t0
  have hm1 := ho.t1
  have hm2 := ho.k0
  have hm3 := ho.k1
  rw [← hn] at hm1
  rw [← hKK] at hm3
  have hkdc : Hid (c ≠ 0 → kindOfI c = (c - 1) / 2) := Lib.hid (fun _ => rfl)
  obtain ⟨m1, m2, m3⟩ := m
  obtain ⟨mt, rfl⟩ : ∃ mt : Nat, m2 = (mt : Int) := ⟨m2.toNat, by dsimp only at hm0; omega⟩
  dsimp only at HM hc hm0 hm1 hm2 hm3
  have hmt : mt < n := by omega
  have HCT := Lib.hid hc
  have HT := Lib.hid htn
  have HTU : Hid ((afterD r p (m1, (mt : Int), m3)).turn = 1 - (tn : Int)) := Lib.hid (by rw [← htn]; rfl)
  have HCD : Hid ((afterD r p (m1, (mt : Int), m3)).cells = cellsD p (m1, (mt : Int), m3)) := Lib.hid rfl
  have HCV : Hid (∀ s c', refCell p (m1, (mt : Int), m3) s c' = if (s : Int) = (mt : Int) then 2 * m3 + (tn : Int) + 1 else if (s : Int) = m1 then 0 else c') := Lib.hid (fun s c' => by rw [← htn]; rfl)
  obtain ⟨A, hA⟩ : ∃ A, A = afterD r p (m1, (mt : Int), m3) := ⟨_, rfl⟩
  rw [← hA] at HR0 HR1 HQF HTU HCD ⊢
  obtain ⟨C, hCd⟩ : ∃ C, C = cellsD p (m1, (mt : Int), m3) := ⟨_, rfl⟩
  rw [← hCd] at HCA HCL HCD
  obtain ⟨R0, hR0d⟩ : ∃ R0, R0 = refHands r p (m1, (mt : Int), m3) 0 := ⟨_, rfl⟩
  obtain ⟨R1, hR1d⟩ : ∃ R1, R1 = refHands r p (m1, (mt : Int), m3) 1 := ⟨_, rfl⟩
  rw [← hR0d] at HR0
  rw [← hR1d] at HR1
  have HRL0 : Hid (R0.length = K) := Lib.hid (by rw [hR0d]; exact HRL.out 0)
  have HRL1 : Hid (R1.length = K) := Lib.hid (by rw [hR1d]; exact HRL.out 1)
  have HRA0 : Hid (∀ t x, t < K → (oldHand p 0)[t]? = some x → R0[t]? = some (if ((0 : Int) == (tn : Int)) = true then takeN r c t (putN (m1, (mt : Int), m3) t x) else x)) := Lib.hid (fun t x h2 h3 => by
    rw [hR0d, HRA.out 0 t x (by omega) h2 h3]
    by_cases h : (0 : Int) = (tn : Int)
    · rw [if_pos (by simpa using h), if_pos (by simpa using h)]
    · rw [if_neg (by simpa using h), if_neg (by simpa using h)])
  have HRA1 : Hid (∀ t x, t < K → (oldHand p 1)[t]? = some x → R1[t]? = some (if ((1 : Int) == (tn : Int)) = true then takeN r c t (putN (m1, (mt : Int), m3) t x) else x)) := Lib.hid (fun t x h2 h3 => by
    rw [hR1d, HRA.out 1 t x (by omega) h2 h3]
    by_cases h : (1 : Int) = (tn : Int)
    · rw [if_pos (by simpa using h), if_pos (by simpa using h)]
    · rw [if_neg (by simpa using h), if_neg (by simpa using h)])
  have HRB0 : Hid (∀ (t : Nat) (x : Int), (oldHand p 0)[t]? = some x → 0 ≤ x ∧ x ≤ 1000) := Lib.hid (fun t x h => HRB.out 0 t x (by omega) h)
  have HRB1 : Hid (∀ (t : Nat) (x : Int), (oldHand p 1)[t]? = some x → 0 ≤ x ∧ x ≤ 1000) := Lib.hid (fun t x h => HRB.out 1 t x (by omega) h)
  have hn64 := hcl.2
  have hK6 := hK.2
  obtain ⟨_, _, _, x3, x4⟩ := HX.out V1 (Below.refl _ _)
  obtain ⟨x0', _, _, _, _⟩ := HX.out U HB2.out
  obtain ⟨_, z1', _⟩ := HM.out U HB2.out
  have C0' := HC.out U HB2.out mt hmt
  rw [← hc] at C0'
  have hmc : mt < cc := by omega
  rw [htn] at x3
  unfold RulesCells PlaceCells at hV
  unfold PlaceCells zeroP at hV1
  unfold PlaceCells numP at hU
  dsimp only at hV hV1 hU
  rw [htn] at hV
  unfold moveV RulesV PlaceV PlaceCells
  dsimp only
  rw [htn]
  rw [hV1, hV] at x3 x4
  rw [hU, hV1, hV] at x0' z1' C0'
  clear hp hk hl ho hB hY hX hM hVS hB1 hV1S hZ hB2 hUS hQ hwV1 hcell hh0 hh1 hl0 hl1 hn hKK hc htn hcl hK HRA HRB HRL hA hCd hR0d hR1d
  go_enter Tryz.func28, Tryz.ntmps28
  go_wp2
  clear x3 x4 x0' z1' C0'
  rw [← hV, ← hV1, ← hU]
  clear hV hV1 hU
  rw [show w.heap.size + 1 + 1 + 1 + 1 = V1.heap.size by have := HV1S.out; omega]
  go_loopw [9, 10, 30] (fun _ _ i W => ∃ (s : Nat) (hv : Value), s ≤ n ∧ i = .int .i64 (s : Int) ∧ W.ownsRow U.heap.size 3 1 hv s (iv (C.take s)) ∧ Hid (PBox W V1.heap.size 29 (numP (1 - (tn : Int)) (p.quiet + 1)) hv (.slice none 0 0) (.slice none 0 0)) ∧ Hid (Below V1.heap.size V1 W) ∧ Hid (U.heap.size ≤ W.heap.size)) (fun _ _ i _ => n - (intOf i).toNat)
  case atStart => exact ⟨0, .slice none 0 0, by omega, rfl, World.ownsRow_nil _ _ _ _, HQ, HB2, Lib.hid (Nat.le_refl _)⟩
  case round =>
    obtain ⟨s, hv, hsn, rfl, hown, hbox, hbel, hsz⟩ := hrel
    by_cases hlt : s < n
    · obtain ⟨ha, hc', rfl⟩ := owns_form hown
      have C0 := HC.out wr hbel.out s hlt
      have hsc : s < cc := by omega
      obtain ⟨x, hx⟩ : ∃ x, x = cellI p (s : Int) := ⟨_, rfl⟩
      have HCS := Lib.hid (HCA.out s hlt)
      rw [← hx] at C0 HCS
      obtain ⟨cv, hcv⟩ : ∃ cv, refCell p (m1, (mt : Int), m3) s x = cv := ⟨_, rfl⟩
      rw [hcv] at HCS
      rw [HCV.out] at hcv
      have HTK : Hid (iv (C.take (s + 1)) = iv (C.take s) ++ [.int .i64 cv]) := Lib.hid (take_map HCS.out)
      obtain ⟨_, _, _, x3, _⟩ := HX.out wr hbel.out
      rw [HT.out] at x3
      obtain ⟨z0, z1, z2⟩ := HM.out wr hbel.out
      obtain ⟨⟨y0, _, _, _, _⟩, f0, _⟩ := hbox.out.facts
      have HOW := Lib.hid hown
      clear hx
      by_cases hs1 : s = mt
      · rw [if_pos (by omega)] at hcv
        subst hcv
        have e1 : ((s : Int) == (mt : Int)) = true := by rw [beq_iff_eq]; omega
        clear hs1
        go_wp2_with (at_builtin; refine wpList_append_own _ rfl _ _ 23 rfl U.heap.size 3 i0 (.int .i64 0) 1 8 Tryz.underlying23 hi hz0 hz1 hz2 rfl (by decide) _ _ _ rfl (hown.alloc _) ⟨wr.heap.size, 0, none⟩ 1 1 [.int .i64 (2 * m3 + (tn : Int) + 1)] rfl rfl (cell_one_new _ _ _) (by simp [Value.oneCell']) (by unfold maxLen; omega) (by omega) (by have := hsz.out; simp; omega) ?_)
        intro v' w3 hown' hgrow _
        have hg' : (wr.alloc (.cells #[.int .i64 (2 * m3 + (tn : Int) + 1)] 3)).grownBy w3 (Value.slice ha s hc').ownBlock := hgrow
        have hb3 : Below V1.heap.size V1 w3 := (hbel.out.alloc hbel.out.size _).grown hg' (by have := hbel.out.size; simp; omega) (fun k e => by have h1 := (hown.lt k e).1; have h2 := HUS.out; omega)
        have hp3 : PBox w3 V1.heap.size 29 (numP (1 - (tn : Int)) (p.quiet + 1)) (.slice ha s hc') (.slice none 0 0) (.slice none 0 0) := (hg'.block V1.heap.size (by have := hbox.out.lt; simp; omega) (fun e => by first | exact absurd (hown.lt V1.heap.size e).1 (by have := HUS.out; omega) | exact absurd (hown.lt V1.heap.size e.symm).1 (by have := HUS.out; omega))).trans (hbox.out.alloc _)
        have hs3 : U.heap.size ≤ w3.heap.size := Nat.le_trans hsz.out (Nat.le_trans (by simp) hg'.size)
        have HT2 : Hid (iv (C.take (s + 1)) = iv (C.take s) ++ [.int .i64 (2 * m3 + (tn : Int) + 1)]) := HTK
        rw [← HT2.out] at hown'
        obtain ⟨a3, c3, rfl⟩ := owns_form hown'
        have HO9 := Lib.hid (own_set (pb := V1.heap.size) (o := 0) (u := .slice a3 (s + 1) c3) hown' (by have := HUS.out; omega))
        have HX9 : Hid (PBox (w3.setCell ⟨V1.heap.size, 0, none⟩ (.slice a3 (s + 1) c3)) V1.heap.size 29 (numP (1 - (tn : Int)) (p.quiet + 1)) (.slice a3 (s + 1) c3) (.slice none 0 0) (.slice none 0 0)) := Lib.hid (heap_setCell_same w3 V1.heap.size 0 _ _ _ hp3)
        have HE9 := Lib.hid (hb3.setCell (p := ⟨V1.heap.size, 0, none⟩) (Nat.le_refl _) (.slice a3 (s + 1) c3))
        have HS9 : Hid (U.heap.size ≤ (w3.setCell ⟨V1.heap.size, 0, none⟩ (.slice a3 (s + 1) c3)).heap.size) := Lib.hid (by rw [World.size_setCell]; exact hs3)
        obtain ⟨⟨y0', _, _, _, _⟩, f0', _⟩ := hp3.facts
        clear hgrow hg' hown hown' hbel hbox hsz hb3 hp3 hs3 y0 f0 x3 z0 z1 z2 C0 HOW HTK HT2 HCS
        go_wp2
        go_roundw
        case rel => exact ⟨s + 1, .slice a3 (s + 1) c3, by omega, by go_num, HO9.out, HX9, HE9, HS9⟩
        case measure => simp [intOf]; omega
      · by_cases hs2 : (s : Int) = m1
        · rw [if_neg (by omega), if_pos hs2] at hcv
          subst hcv
          have e1 : ((s : Int) == (mt : Int)) = false := by rw [beq_eq_false_iff_ne]; omega
          have e2 : ((s : Int) == m1) = true := by rw [beq_iff_eq]; omega
          clear hs1 hs2
          go_wp2_with (at_builtin; refine wpList_append_own _ rfl _ _ 23 rfl U.heap.size 3 i0 (.int .i64 0) 1 8 Tryz.underlying23 hi hz0 hz1 hz2 rfl (by decide) _ _ _ rfl (hown.alloc _) ⟨wr.heap.size, 0, none⟩ 1 1 [.int .i64 0] rfl rfl (cell_one_new _ _ _) (by simp [Value.oneCell']) (by unfold maxLen; omega) (by omega) (by have := hsz.out; simp; omega) ?_)
          intro v' w3 hown' hgrow _
          have hg' : (wr.alloc (.cells #[.int .i64 0] 3)).grownBy w3 (Value.slice ha s hc').ownBlock := hgrow
          have hb3 : Below V1.heap.size V1 w3 := (hbel.out.alloc hbel.out.size _).grown hg' (by have := hbel.out.size; simp; omega) (fun k e => by have h1 := (hown.lt k e).1; have h2 := HUS.out; omega)
          have hp3 : PBox w3 V1.heap.size 29 (numP (1 - (tn : Int)) (p.quiet + 1)) (.slice ha s hc') (.slice none 0 0) (.slice none 0 0) := (hg'.block V1.heap.size (by have := hbox.out.lt; simp; omega) (fun e => by first | exact absurd (hown.lt V1.heap.size e).1 (by have := HUS.out; omega) | exact absurd (hown.lt V1.heap.size e.symm).1 (by have := HUS.out; omega))).trans (hbox.out.alloc _)
          have hs3 : U.heap.size ≤ w3.heap.size := Nat.le_trans hsz.out (Nat.le_trans (by simp) hg'.size)
          have HT2 : Hid (iv (C.take (s + 1)) = iv (C.take s) ++ [.int .i64 0]) := HTK
          rw [← HT2.out] at hown'
          obtain ⟨a3, c3, rfl⟩ := owns_form hown'
          have HO9 := Lib.hid (own_set (pb := V1.heap.size) (o := 0) (u := .slice a3 (s + 1) c3) hown' (by have := HUS.out; omega))
          have HX9 : Hid (PBox (w3.setCell ⟨V1.heap.size, 0, none⟩ (.slice a3 (s + 1) c3)) V1.heap.size 29 (numP (1 - (tn : Int)) (p.quiet + 1)) (.slice a3 (s + 1) c3) (.slice none 0 0) (.slice none 0 0)) := Lib.hid (heap_setCell_same w3 V1.heap.size 0 _ _ _ hp3)
          have HE9 := Lib.hid (hb3.setCell (p := ⟨V1.heap.size, 0, none⟩) (Nat.le_refl _) (.slice a3 (s + 1) c3))
          have HS9 : Hid (U.heap.size ≤ (w3.setCell ⟨V1.heap.size, 0, none⟩ (.slice a3 (s + 1) c3)).heap.size) := Lib.hid (by rw [World.size_setCell]; exact hs3)
          obtain ⟨⟨y0', _, _, _, _⟩, f0', _⟩ := hp3.facts
          clear hgrow hg' hown hown' hbel hbox hsz hb3 hp3 hs3 y0 f0 x3 z0 z1 z2 C0 HOW HTK HT2 HCS
          go_wp2
          go_roundw
          case rel => exact ⟨s + 1, .slice a3 (s + 1) c3, by omega, by go_num, HO9.out, HX9, HE9, HS9⟩
          case measure => simp [intOf]; omega
        · rw [if_neg (by omega), if_neg hs2] at hcv
          subst hcv
          have e1 : ((s : Int) == (mt : Int)) = false := by rw [beq_eq_false_iff_ne]; omega
          have e2 : ((s : Int) == m1) = false := by rw [beq_eq_false_iff_ne]; omega
          clear hs1 hs2
          go_wp2_with (at_builtin; refine wpList_append_own _ rfl _ _ 23 rfl U.heap.size 3 i0 (.int .i64 0) 1 8 Tryz.underlying23 hi hz0 hz1 hz2 rfl (by decide) _ _ _ rfl (hown.alloc _) ⟨wr.heap.size, 0, none⟩ 1 1 [.int .i64 x] rfl rfl (cell_one_new _ _ _) (by simp [Value.oneCell']) (by unfold maxLen; omega) (by omega) (by have := hsz.out; simp; omega) ?_)
          intro v' w3 hown' hgrow _
          have hg' : (wr.alloc (.cells #[.int .i64 x] 3)).grownBy w3 (Value.slice ha s hc').ownBlock := hgrow
          have hb3 : Below V1.heap.size V1 w3 := (hbel.out.alloc hbel.out.size _).grown hg' (by have := hbel.out.size; simp; omega) (fun k e => by have h1 := (hown.lt k e).1; have h2 := HUS.out; omega)
          have hp3 : PBox w3 V1.heap.size 29 (numP (1 - (tn : Int)) (p.quiet + 1)) (.slice ha s hc') (.slice none 0 0) (.slice none 0 0) := (hg'.block V1.heap.size (by have := hbox.out.lt; simp; omega) (fun e => by first | exact absurd (hown.lt V1.heap.size e).1 (by have := HUS.out; omega) | exact absurd (hown.lt V1.heap.size e.symm).1 (by have := HUS.out; omega))).trans (hbox.out.alloc _)
          have hs3 : U.heap.size ≤ w3.heap.size := Nat.le_trans hsz.out (Nat.le_trans (by simp) hg'.size)
          have HT2 : Hid (iv (C.take (s + 1)) = iv (C.take s) ++ [.int .i64 x]) := HTK
          rw [← HT2.out] at hown'
          obtain ⟨a3, c3, rfl⟩ := owns_form hown'
          have HO9 := Lib.hid (own_set (pb := V1.heap.size) (o := 0) (u := .slice a3 (s + 1) c3) hown' (by have := HUS.out; omega))
          have HX9 : Hid (PBox (w3.setCell ⟨V1.heap.size, 0, none⟩ (.slice a3 (s + 1) c3)) V1.heap.size 29 (numP (1 - (tn : Int)) (p.quiet + 1)) (.slice a3 (s + 1) c3) (.slice none 0 0) (.slice none 0 0)) := Lib.hid (heap_setCell_same w3 V1.heap.size 0 _ _ _ hp3)
          have HE9 := Lib.hid (hb3.setCell (p := ⟨V1.heap.size, 0, none⟩) (Nat.le_refl _) (.slice a3 (s + 1) c3))
          have HS9 : Hid (U.heap.size ≤ (w3.setCell ⟨V1.heap.size, 0, none⟩ (.slice a3 (s + 1) c3)).heap.size) := Lib.hid (by rw [World.size_setCell]; exact hs3)
          obtain ⟨⟨y0', _, _, _, _⟩, f0', _⟩ := hp3.facts
          clear hgrow hg' hown hown' hbel hbox hsz hb3 hp3 hs3 y0 f0 x3 z0 z1 z2 C0 HOW HTK HT2 HCS
          go_wp2
          go_roundw
          case rel => exact ⟨s + 1, .slice a3 (s + 1) c3, by omega, by go_num, HO9.out, HX9, HE9, HS9⟩
          case measure => simp [intOf]; omega
    · obtain rfl : s = n := by omega
      rw [List.take_of_length_le (by rw [HCL.out]; exact Nat.le_refl _)] at hown
      have HIc : Hid (IsSl (Blk (fun k => V1.heap.size < k) IntAt) 1 wr hv C) := Lib.hid (ints_of_ownB hown HCL.out.symm (fun k hk => by have := HUS.out; omega))
      obtain ⟨ca, cc2, rfl⟩ := owns_form hown
      have HI0 : Hid (AInv V1 (1 - (tn : Int)) (p.quiet + 1) (.slice ca s cc2) (.slice none 0 0) (.slice none 0 0) C [] [] wr) := Lib.hid ⟨hbox.out, HIc.out, .inl ⟨rfl, _, _, rfl⟩, .inl ⟨rfl, _, _, rfl⟩, hbel.out⟩
      clear hown hbox hbel hsz HIc HCA HCV HCL
      go_wp2
      go_loopw [11, 12, 13, 58] (fun _ _ _ i W => ∃ (i' : Nat) (h0 h1 : Value), i' ≤ 2 ∧ i = .int .i64 (i' : Int) ∧ (i' = 0 → h0 = .slice none 0 0) ∧ (i' ≤ 1 → h1 = .slice none 0 0) ∧ Hid (AInv V1 (1 - (tn : Int)) (p.quiet + 1) (.slice ca s cc2) h0 h1 C (if i' = 0 then [] else R0) (if i' ≤ 1 then [] else R1) W)) (fun _ _ _ i _ => 2 - (intOf i).toNat)
      case atStart => exact ⟨0, .slice none 0 0, .slice none 0 0, by omega, rfl, fun _ => rfl, fun _ => rfl, HI0⟩
      case round =>
        obtain ⟨i, h0, h1, hi2, rfl, hn0, hn1, hinv⟩ := hrel
        clear HI0
        obtain rfl | rfl | rfl : i = 0 ∨ i = 1 ∨ i = 2 := by omega

        · obtain rfl := hn0 rfl
          obtain rfl := hn1 (by omega)
          have hinv : Hid (AInv V1 (1 - (tn : Int)) (p.quiet + 1) (.slice ca s cc2) (.slice none 0 0) (.slice none 0 0) C [] [] wr) := hinv
          clear hn0 hn1
          have HVI := hinv
          obtain ⟨V0, hV0⟩ : ∃ V0, V0 = wr := ⟨_, rfl⟩
          have HV0 := Lib.hid hV0
          obtain ⟨_, x1, _, _, _⟩ := HX.out wr hinv.out.bel
          have hqv : V1.heap.size < V0.heap.size := by rw [hV0]; exact hinv.out.box.lt
          clear hinv hV0
          go_wp2
          clear x1
          go_loopw [12, 13, 66] (fun _ _ j W => ∃ (k : Nat) (hv : Value), k ≤ K ∧ j = .int .i64 (k : Int) ∧ W.ownsRow V0.heap.size 3 1 hv k (iv (R0.take k)) ∧ Hid (PBox W V1.heap.size 29 (numP (1 - (tn : Int)) (p.quiet + 1)) (.slice ca s cc2) hv (.slice none 0 0)) ∧ Hid (Most V1.heap.size V0 W) ∧ Hid (Below V1.heap.size V1 W)) (fun _ _ j _ => K - (intOf j).toNat)
          case atStart => exact ⟨0, .slice none 0 0, by omega, rfl, World.ownsRow_nil _ _ _ _, Lib.hid HVI.out.box, Lib.hid (by rw [HV0.out]; exact ⟨fun _ _ _ => rfl, Nat.le_refl _, rfl⟩), Lib.hid HVI.out.bel⟩
          case round =>
            obtain ⟨k, hv, hk, rfl, hown, hbox, hmost, hbel⟩ := hrel
            by_cases hlt : k < K
            · obtain ⟨ha, hc', rfl⟩ := owns_form hown
              obtain ⟨x, hx, C0⟩ := HH0.out wr hbel.out k hlt
              obtain ⟨hx0, hx1⟩ := HRB0.out k x hx
              have HRT := Lib.hid (HRA0.out k x hlt hx)
              have hkc : k < c0' := by omega
              obtain ⟨_, _, _, x3, _⟩ := HX.out wr hbel.out
              rw [HT.out] at x3
              have y6 := HY.out wr hbel.out
              obtain ⟨z0, z1, z2⟩ := HM.out wr hbel.out
              obtain ⟨⟨_, y1, _, _, _⟩, _, f1, _⟩ := hbox.out.facts
              obtain ⟨be, hbe⟩ : ∃ be, ((0 : Int) == (tn : Int)) = be := ⟨_, rfl⟩
              obtain ⟨kp, hkp⟩ : ∃ kp, r.keeps = kp := ⟨_, rfl⟩
              obtain ⟨b1, hb1⟩ : ∃ b1, b1 = (be && (decide (m1 = -1) && decide ((k : Int) = m3))) := ⟨_, rfl⟩
              obtain ⟨n1, hn1⟩ : ∃ n1, (if b1 = true then x - 1 else x) = n1 := ⟨_, rfl⟩
              obtain ⟨b2, hb2⟩ : ∃ b2, b2 = (be && (kp && (decide (0 < c) && (decide ((k : Int) = (c - 1) / 2) && decide (n1 < 1000))))) := ⟨_, rfl⟩
              obtain ⟨n2, hn2⟩ : ∃ n2, (if b2 = true then n1 + 1 else n1) = n2 := ⟨_, rfl⟩
              have KN : Hid (R0[k]? = some n2) := Lib.hid (by
                rw [HRT.out, hbe, ← hn2, hb2, ← hn1, hb1]
                exact congrArg some (ref_num r c m1 (mt : Int) m3 k x be kp hkp))
              have HTK : Hid (iv (R0.take (k + 1)) = iv (R0.take k) ++ [.int .i64 n2]) := Lib.hid (take_map KN.out)
              have hnb : -1 ≤ n1 ∧ n1 ≤ 1000 := by rw [← hn1]; split <;> omega
              obtain ⟨hnb0, hnb1⟩ := hnb
              have HB1 := Lib.hid hb1
              have HB2 := Lib.hid hb2
              have HN1 := Lib.hid hn1
              have HN2 := Lib.hid hn2
              rw [hkp] at y6
              clear hx HRT hb1 hb2 hn1 hn2 hkp KN
              go_upto_region 19 with fail
              go_cut [85] from 71 to 84 (fun s85 wx => s85 = .bool b1 ∧ wr = wx)
              case first =>
                clear hown hbox hmost hbel HX HY HM HC HH0 HH1 y1 f1 C0 HB2 HN2
                cases be
                · have K1 : Hid (false = b1) := Lib.hid (by rw [HB1.out]; rfl)
                  go_wp2_with fail
                  go_meet
                  exact ⟨congrArg _ K1.out, rfl⟩
                · by_cases q1 : m1 = -1
                  · have d1 : (m1 == -1) = true := by rw [beq_iff_eq]; exact q1
                    by_cases q2 : (k : Int) = m3
                    · have d2 : ((k : Int) == m3) = true := by rw [beq_iff_eq]; exact q2
                      have K1 : Hid (true = b1) := Lib.hid (by rw [HB1.out, decide_eq_true q1, decide_eq_true q2]; rfl)
                      clear q1 q2
                      go_wp2_with fail
                      go_meet
                      exact ⟨congrArg _ K1.out, rfl⟩
                    · have d2 : ((k : Int) == m3) = false := by rw [beq_eq_false_iff_ne]; exact q2
                      have K1 : Hid (false = b1) := Lib.hid (by rw [HB1.out, decide_eq_true q1, decide_eq_false q2]; rfl)
                      clear q1 q2
                      go_wp2_with fail
                      go_meet
                      exact ⟨congrArg _ K1.out, rfl⟩
                  · have d1 : (m1 == -1) = false := by rw [beq_eq_false_iff_ne]; exact q1
                    have K1 : Hid (false = b1) := Lib.hid (by rw [HB1.out, decide_eq_false q1]; rfl)
                    clear q1
                    go_wp2_with fail
                    go_meet
                    exact ⟨congrArg _ K1.out, rfl⟩
              case rest =>
                obtain ⟨rfl, rfl⟩ := hcut
                go_upto_if 85 with fail
                go_cut [13] from 86 to 87 (fun s13 wx => s13 = .int .i64 n1 ∧ wr = wx)
                case first =>
                  clear hown hbox hmost hbel HX HY HM HC HH0 HH1 y1 f1 C0 HB1 HB2 HN2 z0 z1 z2
                  cases b1
                  · go_wp2_with fail
                    go_meet
                    exact ⟨congrArg _ HN1.out, rfl⟩
                  · go_wp2_with fail
                    go_meet
                    exact ⟨congrArg _ HN1.out, rfl⟩
                case rest =>
                  obtain ⟨rfl, rfl⟩ := hcut
                  go_upto_region 21 with fail
                  go_cut [110] from 88 to 109 (fun s110 wx => s110 = .bool b2 ∧ wr = wx)
                  case first =>
                    clear hown hbox hmost hbel HX HY HM HC HH0 HH1 y1 f1 C0 HB1 HN1 HN2
                    cases be
                    · have K1 : Hid (false = b2) := Lib.hid (by rw [HB2.out]; rfl)
                      go_wp2_with fail
                      go_meet
                      exact ⟨congrArg _ K1.out, rfl⟩
                    · cases kp
                      · have K1 : Hid (false = b2) := Lib.hid (by rw [HB2.out]; rfl)
                        go_wp2_with fail
                        go_meet
                        exact ⟨congrArg _ K1.out, rfl⟩
                      · by_cases q1 : 0 < c
                        · have d1 : decide (c > 0) = true := decide_eq_true q1
                          have d0 : 0 ≤ c - 1 := by omega
                          by_cases q2 : (k : Int) = (c - 1) / 2
                          · have d2 : ((k : Int) == (c - 1) / 2) = true := by rw [beq_iff_eq]; exact q2
                            by_cases q3 : n1 < 1000
                            · have d3 : decide (n1 < 1000) = true := decide_eq_true q3
                              have K1 : Hid (true = b2) := Lib.hid (by rw [HB2.out, decide_eq_true q1, decide_eq_true q2, decide_eq_true q3]; rfl)
                              clear q1 q2 q3
                              go_wp2_with fail
                              go_meet
                              exact ⟨congrArg _ K1.out, rfl⟩
                            · have d3 : decide (n1 < 1000) = false := decide_eq_false q3
                              have K1 : Hid (false = b2) := Lib.hid (by rw [HB2.out, decide_eq_true q1, decide_eq_true q2, decide_eq_false q3]; rfl)
                              clear q1 q2 q3
                              go_wp2_with fail
                              go_meet
                              exact ⟨congrArg _ K1.out, rfl⟩
                          · have d2 : ((k : Int) == (c - 1) / 2) = false := by rw [beq_eq_false_iff_ne]; exact q2
                            have K1 : Hid (false = b2) := Lib.hid (by rw [HB2.out, decide_eq_true q1, decide_eq_false q2]; rfl)
                            clear q1 q2
                            go_wp2_with fail
                            go_meet
                            exact ⟨congrArg _ K1.out, rfl⟩
                        · have d1 : decide (c > 0) = false := decide_eq_false q1
                          have K1 : Hid (false = b2) := Lib.hid (by rw [HB2.out, decide_eq_false q1]; rfl)
                          clear q1
                          go_wp2_with fail
                          go_meet
                          exact ⟨congrArg _ K1.out, rfl⟩
                  case rest =>
                    obtain ⟨rfl, rfl⟩ := hcut
                    go_upto_if 110 with fail
                    go_cut [13] from 111 to 112 (fun s13 wx => s13 = .int .i64 n2 ∧ wr = wx)
                    case first =>
                      clear hown hbox hmost hbel HX HY HM HC HH0 HH1 y1 f1 C0 HB1 HB2 HN1 z0 z1 z2 x3 y6
                      cases b2
                      · go_wp2_with fail
                        go_meet
                        exact ⟨congrArg _ HN2.out, rfl⟩
                      · go_wp2_with fail
                        go_meet
                        exact ⟨congrArg _ HN2.out, rfl⟩
                    case rest =>
                      obtain ⟨rfl, rfl⟩ := hcut
                      clear HB1 HB2 HN1 HN2 hbe x3 y6 z0 z1 z2 C0
                      go_wp2_with (at_builtin; refine wpList_append_own _ rfl _ _ 23 rfl V0.heap.size 3 i0 (.int .i64 0) 1 8 Tryz.underlying23 hi hz0 hz1 hz2 rfl (by decide) _ _ _ rfl (hown.alloc _) ⟨wr.heap.size, 0, none⟩ 1 1 [.int .i64 n2] rfl rfl (cell_one_new _ _ _) (by simp [Value.oneCell']) (by unfold maxLen; omega) (by omega) (by have := hmost.out.sz; simp; omega) ?_)
                      intro v' w3 hown' hgrow _
                      have hg' : (wr.alloc (.cells #[.int .i64 n2] 3)).grownBy w3 (Value.slice ha k hc').ownBlock := hgrow
                      have hb3 : Below V1.heap.size V1 w3 := (hbel.out.alloc hbel.out.size _).grown hg' (by have := hbel.out.size; simp; omega) (fun k e => by have h1 := (hown.lt k e).1; omega)
                      have hp3 : PBox w3 V1.heap.size 29 (numP (1 - (tn : Int)) (p.quiet + 1)) (.slice ca s cc2) (.slice ha k hc') (.slice none 0 0) := (hg'.block V1.heap.size (by have := hbox.out.lt; simp; omega) (fun e => by first | exact absurd (hown.lt V1.heap.size e).1 (by omega) | exact absurd (hown.lt V1.heap.size e.symm).1 (by omega))).trans (hbox.out.alloc _)
                      have hm3' : Most V1.heap.size V0 w3 := ⟨fun k' hk' hne => (hg'.block k' (by have := hmost.out.sz; simp; omega) (fun e => by first | exact absurd (hown.lt k' e).1 (by omega) | exact absurd (hown.lt k' e.symm).1 (by omega))).trans ((Below.heap_alloc wr _ k' (show k' < wr.heap.size by have := hmost.out.sz; omega)).trans (hmost.out.on k' hk' hne)), Nat.le_trans hmost.out.sz (Nat.le_trans (by simp) hg'.size), hg'.os.trans hmost.out.os⟩
                      rw [← HTK.out] at hown'
                      obtain ⟨a3, c3, rfl⟩ := owns_form hown'
                      have HO9 := Lib.hid (own_set (pb := V1.heap.size) (o := 1) (u := .slice a3 (k + 1) c3) hown' hqv)
                      have HX9 : Hid (PBox (w3.setCell ⟨V1.heap.size, 1, none⟩ (.slice a3 (k + 1) c3)) V1.heap.size 29 (numP (1 - (tn : Int)) (p.quiet + 1)) (.slice ca s cc2) (.slice a3 (k + 1) c3) (.slice none 0 0)) := Lib.hid (heap_setCell_same w3 V1.heap.size 1 _ _ _ hp3)
                      have HE9 := Lib.hid (hb3.setCell (p := ⟨V1.heap.size, 1, none⟩) (Nat.le_refl _) (.slice a3 (k + 1) c3))
                      have HM9 : Hid (Most V1.heap.size V0 (w3.setCell ⟨V1.heap.size, 1, none⟩ (.slice a3 (k + 1) c3))) := Lib.hid ⟨fun k' hk' hne => (heap_setCell_other w3 ⟨V1.heap.size, 1, none⟩ k' _ hne).trans (hm3'.on k' hk' hne), by rw [World.size_setCell]; exact hm3'.sz, hm3'.os⟩
                      obtain ⟨⟨_, y1', _, _, _⟩, _, f1', _⟩ := hp3.facts
                      clear hgrow hg' hown hown' hbel hbox hmost hb3 hp3 hm3' y1 f1 HTK
                      go_wp2
                      go_roundw
                      case rel => first | exact ⟨k + 1, .slice a3 (k + 1) c3, by omega, by go_num, HO9.out, HX9, HM9, HE9⟩ | ((repeat apply Exists.intro); exact ⟨⟨k + 1, .slice a3 (k + 1) c3, by omega, by go_num, HO9.out, HX9, HM9, HE9⟩, rfl⟩)
                      case measure => simp [intOf]; omega
            · obtain rfl : k = K := by omega
              have hvi := HVI.out
              rw [← HV0.out] at hvi
              rw [List.take_of_length_le (by rw [HRL0.out]; exact Nat.le_refl _)] at hown
              have HNX : Hid (AInv V1 (1 - (tn : Int)) (p.quiet + 1) (.slice ca s cc2) hv (.slice none 0 0) C R0 [] wr) := Lib.hid ⟨hbox.out, intBlk_on (fun k' hk' hl => hmost.out.on k' hl (by omega)) hvi.c, ints_of_ownB hown HRL0.out.symm (fun k' hk' => by omega), .inl ⟨rfl, _, _, rfl⟩, hbel.out⟩
              clear hown hbox hmost hbel hvi
              go_wp2
              go_roundw
              case rel => exact ⟨1, hv, .slice none 0 0, by omega, by go_num, fun h => absurd h (by decide), fun _ => rfl, HNX⟩
              case measure => simp [intOf]
        · obtain rfl := hn1 (by omega)
          have hinv : Hid (AInv V1 (1 - (tn : Int)) (p.quiet + 1) (.slice ca s cc2) h0 (.slice none 0 0) C R0 [] wr) := hinv
          obtain ⟨la0, lm0, lc0, rfl⟩ := hinv.out.a.form
          clear hn0 hn1
          have HVI := hinv
          obtain ⟨V0, hV0⟩ : ∃ V0, V0 = wr := ⟨_, rfl⟩
          have HV0 := Lib.hid hV0
          obtain ⟨_, _, x1, _, _⟩ := HX.out wr hinv.out.bel
          have hqv : V1.heap.size < V0.heap.size := by rw [hV0]; exact hinv.out.box.lt
          clear hinv hV0
          go_wp2
          clear x1
          go_loopw [12, 13, 66] (fun _ _ j W => ∃ (k : Nat) (hv : Value), k ≤ K ∧ j = .int .i64 (k : Int) ∧ W.ownsRow V0.heap.size 3 1 hv k (iv (R1.take k)) ∧ Hid (PBox W V1.heap.size 29 (numP (1 - (tn : Int)) (p.quiet + 1)) (.slice ca s cc2) (.slice la0 lm0 lc0) hv) ∧ Hid (Most V1.heap.size V0 W) ∧ Hid (Below V1.heap.size V1 W)) (fun _ _ j _ => K - (intOf j).toNat)
          case atStart => exact ⟨0, .slice none 0 0, by omega, rfl, World.ownsRow_nil _ _ _ _, Lib.hid HVI.out.box, Lib.hid (by rw [HV0.out]; exact ⟨fun _ _ _ => rfl, Nat.le_refl _, rfl⟩), Lib.hid HVI.out.bel⟩
          case round =>
            obtain ⟨k, hv, hk, rfl, hown, hbox, hmost, hbel⟩ := hrel
            by_cases hlt : k < K
            · obtain ⟨ha, hc', rfl⟩ := owns_form hown
              obtain ⟨x, hx, C0⟩ := HH1.out wr hbel.out k hlt
              obtain ⟨hx0, hx1⟩ := HRB1.out k x hx
              have HRT := Lib.hid (HRA1.out k x hlt hx)
              have hkc : k < c1' := by omega
              obtain ⟨_, _, _, x3, _⟩ := HX.out wr hbel.out
              rw [HT.out] at x3
              have y6 := HY.out wr hbel.out
              obtain ⟨z0, z1, z2⟩ := HM.out wr hbel.out
              obtain ⟨⟨_, _, y1, _, _⟩, _, _, f1, _⟩ := hbox.out.facts
              obtain ⟨be, hbe⟩ : ∃ be, ((1 : Int) == (tn : Int)) = be := ⟨_, rfl⟩
              obtain ⟨kp, hkp⟩ : ∃ kp, r.keeps = kp := ⟨_, rfl⟩
              obtain ⟨b1, hb1⟩ : ∃ b1, b1 = (be && (decide (m1 = -1) && decide ((k : Int) = m3))) := ⟨_, rfl⟩
              obtain ⟨n1, hn1⟩ : ∃ n1, (if b1 = true then x - 1 else x) = n1 := ⟨_, rfl⟩
              obtain ⟨b2, hb2⟩ : ∃ b2, b2 = (be && (kp && (decide (0 < c) && (decide ((k : Int) = (c - 1) / 2) && decide (n1 < 1000))))) := ⟨_, rfl⟩
              obtain ⟨n2, hn2⟩ : ∃ n2, (if b2 = true then n1 + 1 else n1) = n2 := ⟨_, rfl⟩
              have KN : Hid (R1[k]? = some n2) := Lib.hid (by
                rw [HRT.out, hbe, ← hn2, hb2, ← hn1, hb1]
                exact congrArg some (ref_num r c m1 (mt : Int) m3 k x be kp hkp))
              have HTK : Hid (iv (R1.take (k + 1)) = iv (R1.take k) ++ [.int .i64 n2]) := Lib.hid (take_map KN.out)
              have hnb : -1 ≤ n1 ∧ n1 ≤ 1000 := by rw [← hn1]; split <;> omega
              obtain ⟨hnb0, hnb1⟩ := hnb
              have HB1 := Lib.hid hb1
              have HB2 := Lib.hid hb2
              have HN1 := Lib.hid hn1
              have HN2 := Lib.hid hn2
              rw [hkp] at y6
              clear hx HRT hb1 hb2 hn1 hn2 hkp KN
              go_upto_region 19 with fail
              go_cut [85] from 71 to 84 (fun s85 wx => s85 = .bool b1 ∧ wr = wx)
              case first =>
                clear hown hbox hmost hbel HX HY HM HC HH0 HH1 y1 f1 C0 HB2 HN2
                cases be
                · have K1 : Hid (false = b1) := Lib.hid (by rw [HB1.out]; rfl)
                  go_wp2_with fail
                  go_meet
                  exact ⟨congrArg _ K1.out, rfl⟩
                · by_cases q1 : m1 = -1
                  · have d1 : (m1 == -1) = true := by rw [beq_iff_eq]; exact q1
                    by_cases q2 : (k : Int) = m3
                    · have d2 : ((k : Int) == m3) = true := by rw [beq_iff_eq]; exact q2
                      have K1 : Hid (true = b1) := Lib.hid (by rw [HB1.out, decide_eq_true q1, decide_eq_true q2]; rfl)
                      clear q1 q2
                      go_wp2_with fail
                      go_meet
                      exact ⟨congrArg _ K1.out, rfl⟩
                    · have d2 : ((k : Int) == m3) = false := by rw [beq_eq_false_iff_ne]; exact q2
                      have K1 : Hid (false = b1) := Lib.hid (by rw [HB1.out, decide_eq_true q1, decide_eq_false q2]; rfl)
                      clear q1 q2
                      go_wp2_with fail
                      go_meet
                      exact ⟨congrArg _ K1.out, rfl⟩
                  · have d1 : (m1 == -1) = false := by rw [beq_eq_false_iff_ne]; exact q1
                    have K1 : Hid (false = b1) := Lib.hid (by rw [HB1.out, decide_eq_false q1]; rfl)
                    clear q1
                    go_wp2_with fail
                    go_meet
                    exact ⟨congrArg _ K1.out, rfl⟩
              case rest =>
                obtain ⟨rfl, rfl⟩ := hcut
                go_upto_if 85 with fail
                go_cut [13] from 86 to 87 (fun s13 wx => s13 = .int .i64 n1 ∧ wr = wx)
                case first =>
                  clear hown hbox hmost hbel HX HY HM HC HH0 HH1 y1 f1 C0 HB1 HB2 HN2 z0 z1 z2
                  cases b1
                  · go_wp2_with fail
                    go_meet
                    exact ⟨congrArg _ HN1.out, rfl⟩
                  · go_wp2_with fail
                    go_meet
                    exact ⟨congrArg _ HN1.out, rfl⟩
                case rest =>
                  obtain ⟨rfl, rfl⟩ := hcut
                  go_upto_region 21 with fail
                  go_cut [110] from 88 to 109 (fun s110 wx => s110 = .bool b2 ∧ wr = wx)
                  case first =>
                    clear hown hbox hmost hbel HX HY HM HC HH0 HH1 y1 f1 C0 HB1 HN1 HN2
                    cases be
                    · have K1 : Hid (false = b2) := Lib.hid (by rw [HB2.out]; rfl)
                      go_wp2_with fail
                      go_meet
                      exact ⟨congrArg _ K1.out, rfl⟩
                    · cases kp
                      · have K1 : Hid (false = b2) := Lib.hid (by rw [HB2.out]; rfl)
                        go_wp2_with fail
                        go_meet
                        exact ⟨congrArg _ K1.out, rfl⟩
                      · by_cases q1 : 0 < c
                        · have d1 : decide (c > 0) = true := decide_eq_true q1
                          have d0 : 0 ≤ c - 1 := by omega
                          by_cases q2 : (k : Int) = (c - 1) / 2
                          · have d2 : ((k : Int) == (c - 1) / 2) = true := by rw [beq_iff_eq]; exact q2
                            by_cases q3 : n1 < 1000
                            · have d3 : decide (n1 < 1000) = true := decide_eq_true q3
                              have K1 : Hid (true = b2) := Lib.hid (by rw [HB2.out, decide_eq_true q1, decide_eq_true q2, decide_eq_true q3]; rfl)
                              clear q1 q2 q3
                              go_wp2_with fail
                              go_meet
                              exact ⟨congrArg _ K1.out, rfl⟩
                            · have d3 : decide (n1 < 1000) = false := decide_eq_false q3
                              have K1 : Hid (false = b2) := Lib.hid (by rw [HB2.out, decide_eq_true q1, decide_eq_true q2, decide_eq_false q3]; rfl)
                              clear q1 q2 q3
                              go_wp2_with fail
                              go_meet
                              exact ⟨congrArg _ K1.out, rfl⟩
                          · have d2 : ((k : Int) == (c - 1) / 2) = false := by rw [beq_eq_false_iff_ne]; exact q2
                            have K1 : Hid (false = b2) := Lib.hid (by rw [HB2.out, decide_eq_true q1, decide_eq_false q2]; rfl)
                            clear q1 q2
                            go_wp2_with fail
                            go_meet
                            exact ⟨congrArg _ K1.out, rfl⟩
                        · have d1 : decide (c > 0) = false := decide_eq_false q1
                          have K1 : Hid (false = b2) := Lib.hid (by rw [HB2.out, decide_eq_false q1]; rfl)
                          clear q1
                          go_wp2_with fail
                          go_meet
                          exact ⟨congrArg _ K1.out, rfl⟩
                  case rest =>
                    obtain ⟨rfl, rfl⟩ := hcut
                    go_upto_if 110 with fail
                    go_cut [13] from 111 to 112 (fun s13 wx => s13 = .int .i64 n2 ∧ wr = wx)
                    case first =>
                      clear hown hbox hmost hbel HX HY HM HC HH0 HH1 y1 f1 C0 HB1 HB2 HN1 z0 z1 z2 x3 y6
                      cases b2
                      · go_wp2_with fail
                        go_meet
                        exact ⟨congrArg _ HN2.out, rfl⟩
                      · go_wp2_with fail
                        go_meet
                        exact ⟨congrArg _ HN2.out, rfl⟩
                    case rest =>
                      obtain ⟨rfl, rfl⟩ := hcut
                      clear HB1 HB2 HN1 HN2 hbe x3 y6 z0 z1 z2 C0
                      go_wp2_with (at_builtin; refine wpList_append_own _ rfl _ _ 23 rfl V0.heap.size 3 i0 (.int .i64 0) 1 8 Tryz.underlying23 hi hz0 hz1 hz2 rfl (by decide) _ _ _ rfl (hown.alloc _) ⟨wr.heap.size, 0, none⟩ 1 1 [.int .i64 n2] rfl rfl (cell_one_new _ _ _) (by simp [Value.oneCell']) (by unfold maxLen; omega) (by omega) (by have := hmost.out.sz; simp; omega) ?_)
                      intro v' w3 hown' hgrow _
                      have hg' : (wr.alloc (.cells #[.int .i64 n2] 3)).grownBy w3 (Value.slice ha k hc').ownBlock := hgrow
                      have hb3 : Below V1.heap.size V1 w3 := (hbel.out.alloc hbel.out.size _).grown hg' (by have := hbel.out.size; simp; omega) (fun k e => by have h1 := (hown.lt k e).1; omega)
                      have hp3 : PBox w3 V1.heap.size 29 (numP (1 - (tn : Int)) (p.quiet + 1)) (.slice ca s cc2) (.slice la0 lm0 lc0) (.slice ha k hc') := (hg'.block V1.heap.size (by have := hbox.out.lt; simp; omega) (fun e => by first | exact absurd (hown.lt V1.heap.size e).1 (by omega) | exact absurd (hown.lt V1.heap.size e.symm).1 (by omega))).trans (hbox.out.alloc _)
                      have hm3' : Most V1.heap.size V0 w3 := ⟨fun k' hk' hne => (hg'.block k' (by have := hmost.out.sz; simp; omega) (fun e => by first | exact absurd (hown.lt k' e).1 (by omega) | exact absurd (hown.lt k' e.symm).1 (by omega))).trans ((Below.heap_alloc wr _ k' (show k' < wr.heap.size by have := hmost.out.sz; omega)).trans (hmost.out.on k' hk' hne)), Nat.le_trans hmost.out.sz (Nat.le_trans (by simp) hg'.size), hg'.os.trans hmost.out.os⟩
                      rw [← HTK.out] at hown'
                      obtain ⟨a3, c3, rfl⟩ := owns_form hown'
                      have HO9 := Lib.hid (own_set (pb := V1.heap.size) (o := 2) (u := .slice a3 (k + 1) c3) hown' hqv)
                      have HX9 : Hid (PBox (w3.setCell ⟨V1.heap.size, 2, none⟩ (.slice a3 (k + 1) c3)) V1.heap.size 29 (numP (1 - (tn : Int)) (p.quiet + 1)) (.slice ca s cc2) (.slice la0 lm0 lc0) (.slice a3 (k + 1) c3)) := Lib.hid (heap_setCell_same w3 V1.heap.size 2 _ _ _ hp3)
                      have HE9 := Lib.hid (hb3.setCell (p := ⟨V1.heap.size, 2, none⟩) (Nat.le_refl _) (.slice a3 (k + 1) c3))
                      have HM9 : Hid (Most V1.heap.size V0 (w3.setCell ⟨V1.heap.size, 2, none⟩ (.slice a3 (k + 1) c3))) := Lib.hid ⟨fun k' hk' hne => (heap_setCell_other w3 ⟨V1.heap.size, 2, none⟩ k' _ hne).trans (hm3'.on k' hk' hne), by rw [World.size_setCell]; exact hm3'.sz, hm3'.os⟩
                      obtain ⟨⟨_, _, y1', _, _⟩, _, _, f1', _⟩ := hp3.facts
                      clear hgrow hg' hown hown' hbel hbox hmost hb3 hp3 hm3' y1 f1 HTK
                      go_wp2
                      go_roundw
                      case rel => first | exact ⟨k + 1, .slice a3 (k + 1) c3, by omega, by go_num, HO9.out, HX9, HM9, HE9⟩ | ((repeat apply Exists.intro); exact ⟨⟨k + 1, .slice a3 (k + 1) c3, by omega, by go_num, HO9.out, HX9, HM9, HE9⟩, rfl⟩)
                      case measure => simp [intOf]; omega
            · obtain rfl : k = K := by omega
              have hvi := HVI.out
              rw [← HV0.out] at hvi
              rw [List.take_of_length_le (by rw [HRL1.out]; exact Nat.le_refl _)] at hown
              have HNX : Hid (AInv V1 (1 - (tn : Int)) (p.quiet + 1) (.slice ca s cc2) (.slice la0 lm0 lc0) hv C R0 R1 wr) := Lib.hid ⟨hbox.out, intBlk_on (fun k' hk' hl => hmost.out.on k' hl (by omega)) hvi.c, intBlk_on (fun k' hk' hl => hmost.out.on k' hl (by omega)) hvi.a, ints_of_ownB hown HRL1.out.symm (fun k' hk' => by omega), hbel.out⟩
              clear hown hbox hmost hbel hvi
              go_wp2
              go_roundw
              case rel => exact ⟨2, .slice la0 lm0 lc0, hv, by omega, by go_num, fun h => absurd h (by decide), fun h => absurd h (by decide), HNX⟩
              case measure => simp [intOf]
        · have hinv : Hid (AInv V1 (1 - (tn : Int)) (p.quiet + 1) (.slice ca s cc2) h0 h1 C R0 R1 wr) := hinv
          obtain ⟨la0, lm0, lc0, rfl⟩ := hinv.out.a.form
          obtain ⟨lb0, lm1, lc1, rfl⟩ := hinv.out.b.form
          clear hn0 hn1 HRA0 HRA1 HH0 HH1 HC HRB0 HRB1
          have HAV : Hid (∀ q' W, AInv V1 (1 - (tn : Int)) q' (.slice ca s cc2) (.slice la0 lm0 lc0) (.slice lb0 lm1 lc1) C R0 R1 W → W.cell? ⟨V1.heap.size, 4, none⟩ = some (.int .i64 q') ∧ W.frozen? ⟨V1.heap.size, 4, none⟩ = false) := Lib.hid (fun q' W h => ⟨h.box.facts.1.2.2.2.2, h.box.facts.2.2.2.2.2⟩)
          obtain ⟨y4, f4⟩ := HAV.out _ _ hinv.out
          obtain ⟨bq, hbq⟩ : ∃ bq, decide (p.quiet + 1 > 200) = bq := ⟨_, rfl⟩
          have HBQ : Hid (if bq = true then min (p.quiet + 1) 200 = 200 else min (p.quiet + 1) 200 = p.quiet + 1) := Lib.hid (by
            rw [← hbq]; split
            · rename_i h; have := of_decide_eq_true h; omega
            · rename_i h; have : ¬ (p.quiet + 1 > 200) := fun x => h (decide_eq_true x); omega)
          go_upto_if 127 with fail
          go_cut [] from 128 to 128 (fun wx => Hid (AInv V1 (1 - (tn : Int)) (min (p.quiet + 1) 200) (.slice ca s cc2) (.slice la0 lm0 lc0) (.slice lb0 lm1 lc1) C R0 R1 wx))
          case first =>
            clear HX HY HM HZ HAV
            cases bq
            · have K1 : Hid (min (p.quiet + 1) 200 = p.quiet + 1) := Lib.hid (by simpa using HBQ.out)
              go_wp2_with fail
              go_meet
              rw [K1.out]; exact hinv
            · have K1 : Hid (min (p.quiet + 1) 200 = 200) := Lib.hid (by simpa using HBQ.out)
              go_wp2_with fail
              go_meet
              rw [K1.out]; exact Lib.hid hinv.out.quiet
          case rest =>
            clear hinv y4 f4 hbq HBQ
            have hinv := hcut
            obtain ⟨y4, f4⟩ := HAV.out _ _ hinv.out
            obtain ⟨z0, _, _⟩ := HM.out wc hinv.out.bel
            obtain ⟨b3, hb3⟩ : ∃ b3, b3 = (decide (c > 0) || decide (m1 = -1)) := ⟨_, rfl⟩
            have HB3 := Lib.hid hb3
            have HQF2 : Hid (A.quiet = if b3 = true then 0 else min (p.quiet + 1) 200) := Lib.hid (by
              rw [HQF.out, hb3]
              by_cases q1 : c > 0
              · rw [if_pos (.inr (by omega)), decide_eq_true q1]; rfl
              · rw [decide_eq_false q1, Bool.false_or]
                by_cases q2 : m1 = -1
                · rw [if_pos (.inl q2), if_pos (decide_eq_true q2)]
                · rw [if_neg (by omega), if_neg (by simpa using q2)])
            clear hb3 HQF hcut
            go_upto_region 28 with fail
            go_cut [135] from 129 to 134 (fun s135 wx => s135 = .bool b3 ∧ wc = wx)
            case first =>
              clear HX HY HM HZ HAV y4 f4 hinv
              by_cases q1 : c > 0
              · have d1 : decide (c > 0) = true := decide_eq_true q1
                have K1 : Hid (true = b3) := Lib.hid (by rw [HB3.out, d1]; rfl)
                clear q1
                go_wp2_with fail
                go_meet
                exact ⟨congrArg _ K1.out, rfl⟩
              · have d1 : decide (c > 0) = false := decide_eq_false q1
                by_cases q2 : m1 = -1
                · have d2 : (m1 == -1) = true := by rw [beq_iff_eq]; exact q2
                  have K1 : Hid (true = b3) := Lib.hid (by rw [HB3.out, d1, decide_eq_true q2]; rfl)
                  clear q1 q2
                  go_wp2_with fail
                  go_meet
                  exact ⟨congrArg _ K1.out, rfl⟩
                · have d2 : (m1 == -1) = false := by rw [beq_eq_false_iff_ne]; exact q2
                  have K1 : Hid (false = b3) := Lib.hid (by rw [HB3.out, d1, decide_eq_false q2]; rfl)
                  clear q1 q2
                  go_wp2_with fail
                  go_meet
                  exact ⟨congrArg _ K1.out, rfl⟩
            case rest =>
              obtain ⟨rfl, rfl⟩ := hcut
              go_upto_if 135 with fail
              go_cut [] from 136 to 136 (fun wx => Hid (AInv V1 (1 - (tn : Int)) A.quiet (.slice ca s cc2) (.slice la0 lm0 lc0) (.slice lb0 lm1 lc1) C R0 R1 wx))
              case first =>
                clear HX HY HM HZ HAV z0 HB3
                cases b3
                · have K1 : Hid (A.quiet = min (p.quiet + 1) 200) := Lib.hid HQF2.out
                  go_wp2_with fail
                  go_meet
                  rw [K1.out]; exact hinv
                · have K1 : Hid (A.quiet = 0) := Lib.hid HQF2.out
                  go_wp2_with fail
                  go_meet
                  rw [K1.out]; exact Lib.hid hinv.out.quiet
              case rest =>
                clear hinv y4 f4 z0 HB3 HQF2 HX HY HM HAV
                have hinv := hcut
                obtain ⟨⟨y0, y1, y2, y3, y4⟩, _⟩ := hinv.out.box.facts
                obtain ⟨qf, hqf⟩ : ∃ qf, A.quiet = qf := ⟨_, rfl⟩
                have HQQ := Lib.hid hqf
                have HTT := HTU
                have y3' : wc.cell? ⟨V1.heap.size, 3, none⟩ = some (.int .i64 (1 - (tn : Int))) := y3
                have y4' : wc.cell? ⟨V1.heap.size, 4, none⟩ = some (.int .i64 qf) := by rw [← hqf]; exact y4
                have hz := HZ.out.below hinv.out.bel HZ.out.lt
                obtain ⟨⟨r0, r1, r2, r3, r4⟩, e0, e1, e2, e3, e4⟩ := hz.facts
                have HIV := hinv
                have HZZ := Lib.hid hz
                clear hinv hcut hz y3 y4 hqf HZ
                go_wp2_with fail
                have HR2 := pbox_fill (p := numP (1 - (tn : Int)) qf) (vc := .slice ca s cc2) (v0 := .slice la0 lm0 lc0) (v1 := .slice lb0 lm1 lc1) HZZ.out
                refine bodyPost_ret (results_cell_row rfl _ _ (w.heap.size + 3) 29 _ (0, 0) _ rfl HR2 Tryz.underlying29 rfl (by kernel_rfl)) rfl ?_
                have hfo := fillP_other wc (w.heap.size + 3) (numP (1 - (tn : Int)) qf) (.slice ca s cc2) (.slice la0 lm0 lc0) (.slice lb0 lm1 lc1)
                have hws := HV1S.out
                refine ⟨ca, s, cc2, la0, lm0, lc0, lb0, lm1, lc1, by rw [HTU.out, HQQ.out]; rfl, ⟨?_, ?_, ?_⟩, fillP_below (HBW.out.trans (HIV.out.bel.mono HBW.out.size)) (by omega) (numP (1 - (tn : Int)) qf) _ _ _⟩
                · rw [HCD.out]; exact blk_weak (fun k hk => by omega) (intBlk_on (fun k hk _ => hfo.1 k (by omega)) HIV.out.c)
                · rw [← HR0.out]; exact blk_weak (fun k hk => by omega) (intBlk_on (fun k hk _ => hfo.1 k (by omega)) HIV.out.a)
                · rw [← HR1.out]; exact blk_weak (fun k hk => by omega) (intBlk_on (fun k hk _ => hfo.1 k (by omega)) HIV.out.b)
theorem refAfter_any (r : RulesD) (p : PlaceD) (vp vs ve vc v0 v1 : Value) (m : MoveD) (w : World) (hp : PlaceIn w p vc v0 v1) (hk : POkay r p) (hl : legalB r p m = true) :
    Calls Tryz.prog 28 #[RulesV r vp vs ve, PlaceV p vc v0 v1, moveV m] w (RefAft (afterD r p m) w) :=
  (refAfterF_any r p vp vs ve vc v0 v1 m w hp hk hl).mono fun _ _ ⟨ca, cn, cc, a0, n0, c0, a1, n1, c1, h1, h2, h3⟩ => ⟨ca, cn, cc, a0, n0, c0, a1, n1, c1, h1, h2.plain, h3⟩
end Go.Proofs.YtdhhdkbnlddnbaaGreatDoor
