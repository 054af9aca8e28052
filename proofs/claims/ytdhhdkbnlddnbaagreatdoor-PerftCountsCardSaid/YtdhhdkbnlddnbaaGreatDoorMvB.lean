/- Merged by merge.py of the texts MvM MovW MovP MvC MvK MovF MovA MovL. -/
import Derived.Test.YtdhhdkbnlddnbaaGreatDoorMvA
import Derived.Test.YtdhhdkbnlddnbaaGreatDoorShelf
import Derived.Lib.SlicesCompact
import Derived.Laws.StructEq
import Derived.Shelf.SlSortCmp.NoneTotal
import Derived.Shelf.SlicesQ.Contains
import Derived.OwnWalk
import Derived.Lib.SliceRun
import Derived.Deep.LoopGhost
import Derived.Deep.Draws
import Derived.Deep.RegionHeld3
import Derived.WalkKit
import Derived.Laws.AppendOwnNone
set_option maxRecDepth 100000
namespace Go.Proofs.YtdhhdkbnlddnbaaGreatDoor
open Go.ChangeShapes Go.WideShapes Go.ChangeAt Go.RowKit

def MoveAt (W : World) (g o : Nat) (x : MoveD) : Prop :=
  W.cell? ⟨g, o, none⟩ = some (.int .i64 x.1) ∧ W.cell? ⟨g, o + 1, none⟩ = some (.int .i64 x.2.1) ∧ W.cell? ⟨g, o + 2, none⟩ = some (.int .i64 x.2.2)
theorem move_keeps : Keeps MoveAt := fun _ _ _ _ _ _ hb hn h => ⟨cell_keeps hb hn h.1, cell_keeps hb hn h.2.1, cell_keeps hb hn h.2.2⟩
theorem move_moves : Moves MoveAt 3 := fun W W' n g o g' o' x _ _ h hx => ⟨(h 0 (by decide)).trans hx.1, (h 1 (by decide)).trans hx.2.1, (h 2 (by decide)).trans hx.2.2⟩
theorem move_celled : Celled MoveAt 3 := fun W g o x hx j hj => by
  match j, hj with
  | 0, _ => exact ⟨_, hx.1, rfl⟩
  | 1, _ => exact ⟨_, hx.2.1, rfl⟩
  | 2, _ => exact ⟨_, hx.2.2, rfl⟩
/-- The three cells of a move. -/
def mc (x : MoveD) : List Value := [.int .i64 x.1, .int .i64 x.2.1, .int .i64 x.2.2]
def mcs (xs : List MoveD) : List Value := xs.flatMap mc
theorem mc_length (x : MoveD) : (mc x).length = 3 := rfl
theorem mcs_length : ∀ xs : List MoveD, (mcs xs).length = xs.length * 3
  | [] => rfl
  | x :: l => by
    have h := mcs_length l
    unfold mcs at h ⊢
    rw [List.flatMap_cons, List.length_append, h, mc_length, List.length_cons]; omega
theorem mcs_append (a b : List MoveD) : mcs (a ++ b) = mcs a ++ mcs b := by unfold mcs; exact List.flatMap_append
theorem mcs_one (x : MoveD) : mcs [x] = mc x := by simp [mcs]
theorem mcs_cons (x : MoveD) (l : List MoveD) : mcs (x :: l) = mc x ++ mcs l := rfl
theorem mcs_at : ∀ (xs : List MoveD) (i : Nat) (x : MoveD) (j : Nat), xs[i]? = some x → j < 3 → (mcs xs)[i * 3 + j]? = (mc x)[j]?
  | [], i, x, j, h, _ => by simp at h
  | y :: l, 0, x, j, h, hj => by
    obtain rfl : y = x := by simpa using h
    rw [show mcs (y :: l) = mc y ++ mcs l from mcs_cons y l, Nat.zero_mul, Nat.zero_add, List.getElem?_append_left (by rw [mc_length]; exact hj)]
  | y :: l, i + 1, x, j, h, hj => by
    have h2 : l[i]? = some x := by simpa using h
    rw [show mcs (y :: l) = mc y ++ mcs l from mcs_cons y l, List.getElem?_append_right (by rw [mc_length]; omega), mc_length, show (i + 1) * 3 + j - 3 = i * 3 + j by omega]
    exact mcs_at l i x j h2 hj
theorem mcs_one_cell (xs : List MoveD) : ∀ u ∈ mcs xs, u.oneCell' = true := by
  intro u hu
  obtain ⟨x, _, h⟩ := List.mem_flatMap.1 hu
  unfold mc at h
  simp only [List.mem_cons, List.not_mem_nil, or_false] at h
  rcases h with rfl | rfl | rfl <;> rfl
theorem IsSl.cells3 {W : World} {ad : Addr} {cap n : Nat} {xs : List MoveD} (h : IsSl MoveAt 3 W (.slice (some ad) n cap) xs) : ∀ j u, (mcs xs)[j]? = some u → W.cell? (ad.add j) = some u := by
  intro j u hj
  have hl : j < xs.length * 3 := by have := (List.getElem?_eq_some_iff.1 hj).1; rwa [mcs_length] at this
  rcases h with ⟨rfl, _⟩ | ⟨g', off', cap', e1, _, _, _, hc⟩
  · simp at hl
  · simp only [Value.slice.injEq, Option.some.injEq] at e1
    obtain ⟨rfl, _, _⟩ := e1
    rw [Addr.add_lit]
    have hi : j / 3 < xs.length := (Nat.div_lt_iff_lt_mul (by decide)).2 hl
    have h1 := hc (j / 3) _ (List.getElem?_eq_getElem hi)
    have h2 := mcs_at xs (j / 3) _ (j % 3) (List.getElem?_eq_getElem hi) (Nat.mod_lt _ (by decide))
    rw [show j / 3 * 3 + j % 3 = j by omega, hj] at h2
    have h3 : j % 3 = 0 ∨ j % 3 = 1 ∨ j % 3 = 2 := by omega
    rcases h3 with h3 | h3 | h3 <;> rw [h3] at h2 <;> obtain rfl := Option.some.inj h2
    · rw [← h1.1]; congr 2; omega
    · rw [← h1.2.1]; congr 2; omega
    · rw [← h1.2.2]; congr 2; omega
theorem moves_of_owns {W : World} {B : Nat} {e : TypeId} {v : Value} {n : Nat} {xs : List MoveD} (h : W.ownsRow B e 3 v n (mcs xs)) : IsSl MoveAt 3 W v xs := by
  have hl : xs.length = n := by have := h.1; rw [mcs_length] at this; omega
  rcases h.2 with ⟨rfl, rfl⟩ | ⟨g, cap, cur, rfl, _, _, hkc, hcm, _, _⟩
  · exact .inl ⟨List.eq_nil_of_length_eq_zero hl, none, 0, rfl⟩
  · by_cases e : xs = []
    · subst e
      obtain rfl : n = 0 := by simpa using hl.symm
      exact .inl ⟨rfl, _, _, rfl⟩
    · refine .inr ⟨g, 0, cap, by rw [hl], e, by omega, hcm, fun i x hx => ?_⟩
      have hi : i < n := by rw [← hl]; exact (List.getElem?_eq_some_iff.1 hx).1
      have h2 : ∀ j, j < 3 → W.cell? ⟨g, i * 3 + j, none⟩ = (mc x)[j]? := fun j hj => by
        rw [h.cellAt (i * 3 + j) (by omega)]; exact mcs_at xs i x j hx hj
      rw [Nat.zero_add]
      exact ⟨h2 0 (by decide), h2 1 (by decide), h2 2 (by decide)⟩
/-- All cells of a row, flat. -/
theorem flat_list (f : Int → MoveD) (zs : List Int) : Go.Sort.flatK (fun t => mc (f t)) 3 zs.toArray = (mcs (zs.map f)).toArray := by
  refine Go.Sort.ext_get! (by simp [mcs_length]) fun t ht => ?_
  have ht' : t < zs.toArray.size * 3 := by simpa using ht
  rw [Go.Sort.get_flatK _ _ _ _ ht']
  have hi : t / 3 < zs.length := (Nat.div_lt_iff_lt_mul (by decide)).2 (by simpa using ht')
  have h2 := mcs_at (zs.map f) (t / 3) (f zs[t / 3]) (t % 3) (by rw [List.getElem?_map, List.getElem?_eq_getElem hi]; rfl) (Nat.mod_lt _ (by decide))
  rw [show t / 3 * 3 + t % 3 = t by omega] at h2
  have h3 : (mcs (zs.map f)).toArray[t]! = ((mcs (zs.map f))[t]?).getD default := by simp
  rw [h3, h2]
  simp [hi]
theorem flat_moves (zs : List MoveD) : Go.Sort.flatK mc 3 zs.toArray = (mcs zs).toArray := by
  refine Go.Sort.ext_get! (by simp [mcs_length]) fun t ht => ?_
  have ht' : t < zs.toArray.size * 3 := by simpa using ht
  rw [Go.Sort.get_flatK _ _ _ _ ht']
  have hi : t / 3 < zs.length := (Nat.div_lt_iff_lt_mul (by decide)).2 (by simpa using ht')
  have h2 := mcs_at zs (t / 3) zs[t / 3] (t % 3) (List.getElem?_eq_getElem hi) (Nat.mod_lt _ (by decide))
  rw [show t / 3 * 3 + t % 3 = t by omega] at h2
  have h3 : (mcs zs).toArray[t]! = ((mcs zs)[t]?).getD default := by simp
  rw [h3, h2]
  simp [hi]

/-! ### A row of one's own, put anew -/
theorem holds_of_row {w : World} {g : Nat} {cur : Array Value} {e : TypeId} {vs : List Value} (hb : w.heap[g]? = some (.cells cur e (0, 0))) (ht : cur.toList.take vs.length = vs) : Go.Sort.Holds id w g 0 vs.toArray := by
  intro j hj
  have hj' : j < vs.length := by simpa using hj
  refine ⟨?_, by simp [World.frozen?, hb]⟩
  have h1 : (cur.toList.take vs.length)[j]? = vs[j]? := by rw [ht]
  rw [List.getElem?_take_of_lt hj'] at h1
  simp only [World.cell?, hb, Nat.zero_add]
  simp only [Option.isSome_none, Bool.false_eq_true, if_false]
  rw [← Array.getElem?_toList, h1]
  simp [hj']
theorem heap_put {w : World} {g n : Nat} {os : Array Obj} {cur : Array Value} {e : TypeId} {fr : Nat × Nat} (d : Array Value) (hb : w.heap[g]? = some (.cells cur e fr)) :
    (Go.Sort.grow (Go.Sort.putRow id (Go.Sort.ahead w n) g 0 d) os).heap[g]? = some (.cells (Go.Sort.putCells id 0 d cur) e fr) := by
  have hg : g < w.heap.size := (Array.getElem?_eq_some_iff.1 hb).1
  rw [Go.Sort.heap_grow_old _ _ (by simpa using hg)]
  simp [Go.Sort.putRow, Go.Sort.mapBlock, Go.Sort.ahead, Array.getElem?_modify, hb, Go.Sort.onCells]
theorem grownBy_put {w : World} {g n : Nat} {os : Array Obj} (d : Array Value) : w.grownBy (Go.Sort.grow (Go.Sort.putRow id (Go.Sort.ahead w n) g 0 d) os) (some g) := by
  refine ⟨rfl, rfl, rfl, by simp, fun k hk hne => ?_⟩
  rw [Go.Sort.heap_grow_old _ _ (by simpa using hk)]
  have : g ≠ k := fun e => hne (by rw [e])
  simp [Go.Sort.putRow, Go.Sort.mapBlock, Go.Sort.ahead, Array.getElem?_modify, this]
theorem take_put (cur : Array Value) (ts : List Value) (h : ts.length ≤ cur.size) : (Go.Sort.putCells id 0 ts.toArray cur).toList.take ts.length = ts := by
  apply List.ext_getElem?
  intro j
  by_cases hj : j < ts.length
  · rw [List.getElem?_take_of_lt hj, Array.getElem?_toList]
    simp [Go.Sort.putCells, hj, show j < cur.size by omega]
  · rw [List.getElem?_take_eq_none (by omega), List.getElem?_eq_none (by omega)]
theorem ownsRow_put {w : World} {base g cap n q : Nat} {e : TypeId} {os : Array Obj} {cur : Array Value} {ts : List Value} (hl : ts.length = n * 3) (hbase : base ≤ g) (hb : w.heap[g]? = some (.cells cur e (0, 0)))
    (h1 : n ≤ cap) (h2 : cap ≤ maxLen) (h3 : cur.size = cap * 3) :
    (Go.Sort.grow (Go.Sort.putRow id (Go.Sort.ahead w q) g 0 ts.toArray) os).ownsRow base e 3 (.slice (some ⟨g, 0, none⟩) n cap) n ts :=
  ⟨hl, .inr ⟨g, cap, _, rfl, hbase, heap_put _ hb, h1, h2, by simp [Go.Sort.putCells, h3], by rw [← hl]; exact take_put cur ts (by rw [h3]; have := Nat.mul_le_mul_right 3 h1; omega)⟩⟩

/-! ### slices.SortFunc by To -/
def mvF (src : Int) (kf : Int → Int) (t : Int) : MoveD := (src, t, kf t)
set_option maxHeartbeats 1000000 in
theorem cmpTo_any (x y : MoveD) (W : World) : Calls Tryz.prog 77 #[.agg (mc x).toArray, .agg (mc y).toArray] W fun e w' => e = .returned (.int .i64 (Lib.compareInt x.2.1 y.2.1)) ∧ ∃ q os', w' = Go.Sort.grow (W.drewN q) os' := by
  have hcon : ∀ W', Calls Tryz.prog 78 #[.int .i64 x.2.1, .int .i64 y.2.1] W' fun e w' => e = .returned (.int .i64 (Lib.compareInt x.2.1 y.2.1)) ∧ w' = W' := fun W' => Tryz.cmp_Compare_int x.2.1 y.2.1 W'
  generalize Lib.compareInt x.2.1 y.2.1 = r at hcon ⊢
  have HC := Lib.hid hcon
  clear hcon
  obtain ⟨x1, x2, x3⟩ := x
  obtain ⟨y1, y2, y3⟩ := y
  unfold mc
  dsimp only at HC ⊢
  go_enter Tryz.func77, Tryz.ntmps77
  go_wp2_with fail
  go_at_call 78; refine (HC.out _).mono ?_; rintro e w' ⟨rfl, rfl⟩
  go_wp2_with fail
  go_ret
  exact ⟨rfl, 0, _, by rw [Go.Sort.alloc_eq_grow, Go.Sort.alloc_eq_grow, Go.Sort.grow_grow]; rfl⟩
def toCmp (x y : Int) : Int := Lib.compareInt x y
theorem ltTo (x y : Int) : ltOf toCmp x y = decide (x < y) := by
  unfold ltOf toCmp Lib.compareInt
  by_cases h1 : x < y
  · simp [h1]
  · by_cases h2 : y < x <;> simp [h1, h2]
theorem swoTo : Go.Sort.SWO (ltOf toCmp) where
  irrefl x := by rw [ltTo]; simp
  trans x y z h1 h2 := by rw [ltTo] at *; simp at *; omega
  ntrans x y z h1 h2 := by rw [ltTo] at *; simp at *; omega
def sortTo (zs : List Int) : List Int := zs.mergeSort fun x y => !(ltOf toCmp) y x
theorem sort_own {w : World} {base n : Nat} {v : Value} {src : Int} {kf : Int → Int} {zs : List Int} (h : w.ownsRow base 37 3 v n (mcs (zs.map (mvF src kf)))) (hn : 1 ≤ n) (hl : zs.length = n) (h64 : n ≤ 1000) :
    Calls Tryz.prog 76 #[v, .func (.func 77) #[] #[]] w fun en w' => en = .returned (.tuple #[]) ∧ w'.ownsRow base 37 3 v n (mcs ((sortTo zs).map (mvF src kf))) ∧ ∀ w0, Below base w0 w → base ≤ w.heap.size → Below base w0 w' := by
  subst hl
  rcases h.2 with ⟨_, h0⟩ | ⟨g, cap, cur, rfl, hb, hg, hnc, hcm, hcs, ht⟩
  · omega
  · have hlt : g < w.heap.size := (Array.getElem?_eq_some_iff.1 hg).1
    have hH : Go.Sort.HoldsK (fun t => mc (mvF src kf t)) 3 w g 0 zs.toArray := by
      unfold Go.Sort.HoldsK
      rw [flat_list]
      exact holds_of_row hg (by rw [mcs_length, List.length_map]; exact ht)
    have eg : ∀ args w, (callFunc 77 args).run Tryz.prog w = .ok (.enter 77 args) w := enters_of Tryz.func77 (by kernel_rfl) rfl
    have hcmp : CmpLays Tryz.prog 77 #[] (fun t => mc (mvF src kf t)) 3 toCmp g 0 zs.toArray.size w := fun m os dk _ x y => cmpTo_any (mvF src kf x) (mvF src kf y) _
    have hcon := AnyQ.slices_SortFunc_total Tryz.sortMove 3 Tryz.isAgg37 Tryz.sizeOf37 (fun t => mc (mvF src kf t)) (fun _ => rfl) (fun x v hv => mcs_one_cell [mvF src kf x] v (by rw [mcs_one]; exact hv)) toCmp swoTo 77 #[] g 0 cap zs.toArray w eg hcmp hH hlt (by simp; omega) (fun x y h1 h2 => by rw [ltTo] at h1 h2; simp at h1 h2; omega)
    change Calls Tryz.prog 76 _ _ _ at hcon
    refine Calls.mono (by simpa using hcon) ?_
    rintro en w' ⟨rfl, m, os, rfl⟩
    have hfl : ((sortTo zs).map (mvF src kf)).length = zs.length := by rw [List.length_map, sortTo, List.length_mergeSort]
    have hw : sortWorldK (fun t => mc (mvF src kf t)) 3 w g 0 m (sortTo zs).toArray os = Go.Sort.grow (Go.Sort.putRow id (Go.Sort.ahead w m) g 0 (mcs ((sortTo zs).map (mvF src kf))).toArray) os := by
      unfold sortWorldK Go.Sort.putRowK
      rw [flat_list]
    show _ = _ ∧ World.ownsRow (sortWorldK (fun t => mc (mvF src kf t)) 3 w g 0 m (sortTo zs).toArray os) _ _ _ _ _ _ ∧ ∀ w0, Below base w0 w → base ≤ w.heap.size → Below base w0 (sortWorldK (fun t => mc (mvF src kf t)) 3 w g 0 m (sortTo zs).toArray os)
    rw [hw]
    refine ⟨rfl, ownsRow_put (by rw [mcs_length, hfl]) hb hg hnc hcm hcs, fun w0 hB hle => hB.grown (grownBy_put _) hle (fun k e => by cases e; exact hb)⟩
end Go.Proofs.YtdhhdkbnlddnbaaGreatDoor

set_option maxRecDepth 100000
namespace Go.Proofs.YtdhhdkbnlddnbaaGreatDoor
open Go.ChangeShapes Go.WideShapes Go.ChangeAt Go.RowKit

theorem infoIntM : (Tryz.prog.info? 3).map (fun i => (i.zero, i.size, i.bytes)) = some (some (.int .i64 0), 1, 8) := by kernel_rfl
theorem cell_new1 (W : World) (x : Value) (t : TypeId) : ∀ j u, ([x] : List Value)[j]? = some u → (W.alloc (.cells #[x] t)).cell? (Addr.add ⟨W.heap.size, 0, none⟩ j) = some u := by
  intro j u hj
  match j, hj with
  | 0, hj =>
    obtain rfl : x = u := by simpa using hj
    rw [Addr.add_lit, World.cell?_alloc_at (hn := rfl)]; rfl
/-- A result that is a slice of the call's own. -/
def OwnPost (t : TypeId) (k n : Nat) (cs : List Value) (w : World) (e : Ending) (w' : World) : Prop := ∃ a c, e = .returned (.slice a n c) ∧ w'.ownsRow w.heap.size t k (.slice a n c) n cs ∧ Below w.heap.size w w'
theorem owns_weak {W : World} {B B' : Nat} {e : TypeId} {k : Nat} {v : Value} {n : Nat} {xs : List Value} (h : W.ownsRow B e k v n xs) (hb : B' ≤ B) : W.ownsRow B' e k v n xs := by
  refine ⟨h.1, ?_⟩
  rcases h.2 with h2 | ⟨g, cap, cur, e1, e2, e3⟩
  · exact .inl h2
  · exact .inr ⟨g, cap, cur, e1, Nat.le_trans hb e2, e3⟩
theorem owns_form {W : World} {B : Nat} {e : TypeId} {k : Nat} {v : Value} {n : Nat} {xs : List Value} (h : W.ownsRow B e k v n xs) : ∃ a c, v = .slice a n c := by
  rcases h.2 with ⟨rfl, rfl⟩ | ⟨g, cap, cur, rfl, _⟩
  · exact ⟨_, _, rfl⟩
  · exact ⟨_, _, rfl⟩
/-- The boxes of rules, of a position and of a way that a call begins with. -/
theorem rpw_boxes (w : World) (r : RulesD) (p : PlaceD) (vp vs ve vc v0 v1 : Value) (a b c d : Value) : ∃ V, V = ((w.alloc (.cells (RulesCells r vp vs ve) 26)).alloc (.cells (PlaceCells p vc v0 v1) 29)).alloc (.cells #[a, b, c, d] 94) ∧ Below w.heap.size w V ∧ BoxR V w.heap.size r vp vs ve ∧ BoxP V (w.heap.size + 1) p vc v0 v1 ∧
    (V.cell? ⟨w.heap.size + 2, 0, none⟩ = some a ∧ V.cell? ⟨w.heap.size + 2, 1, none⟩ = some b ∧ V.cell? ⟨w.heap.size + 2, 2, none⟩ = some c ∧ V.cell? ⟨w.heap.size + 2, 3, none⟩ = some d) := by
  obtain ⟨hB, hY, hX⟩ := rp_boxes w r p vp vs ve vc v0 v1
  have hs : ((w.alloc (.cells (RulesCells r vp vs ve) 26)).alloc (.cells (PlaceCells p vc v0 v1) 29)).heap.size = w.heap.size + 2 := by simp
  generalize (w.alloc (.cells (RulesCells r vp vs ve) 26)).alloc (.cells (PlaceCells p vc v0 v1) 29) = V0 at hB hY hX hs ⊢
  have h1 := (Below.refl V0.heap.size V0).alloc (Nat.le_refl _) (.cells #[a, b, c, d] 94)
  have h2 := cells4_new V0 a b c d 94 _ (Below.refl _ _)
  rw [hs] at h2
  exact ⟨_, rfl, hB.trans (h1.mono hB.size), hY.below h1 (Nat.le_refl _), hX.below h1 (Nat.le_refl _), h2⟩
theorem wrap_div {a b : Int} (h0 : 0 ≤ a) (h1 : a ≤ 1000) (hb : 1 ≤ b) : wrap64 (a.tdiv b) = a / b := by
  rw [Int.tdiv_eq_ediv_of_nonneg h0]
  have h2 := Int.ediv_nonneg h0 (b := b) (by omega)
  have h3 : a / b ≤ a := Int.ediv_le_self b h0
  generalize a / b = q at h2 h3 ⊢
  unfold wrap64
  omega
set_option maxHeartbeats 8000000 in
theorem reached_any (r : RulesD) (p : PlaceD) (vp vs ve vc v0 v1 : Value) (src : Int) (way : WayD) (w : World) (hp : PlaceIn w p vc v0 v1) (hk : POkay r p) (s0 : 0 ≤ src) (s1 : src < p.cells.length) (hy : wayB way = true) :
    Calls Tryz.prog 74 #[RulesV r vp vs ve, PlaceV p vc v0 v1, .int .i64 src, .agg #[.int .i64 way.dx, .int .i64 way.dy, .int .i64 way.most, .int .i64 way.take]] w (OwnPost 3 1 (reachOf r p src way).length (iv (reachOf r p src way)) w) := by
  obtain ⟨i0, hi, hz0, hz1, hz2⟩ := info_parts infoIntM
  obtain ⟨_, hw, hh, _⟩ := rulesE_ok hk.e
  rw [inB_iff] at hw hh
  obtain ⟨hw1, hw2⟩ := hw
  obtain ⟨hh1, hh2⟩ := hh
  have hcl := cells_len hk
  obtain ⟨⟨dx1, dx2⟩, ⟨dy1, dy2⟩, _, ⟨ms1, ms2⟩, _, _⟩ := way_facts hy
  obtain ⟨wdx, wdy, wmost, wtake⟩ := way
  dsimp only at dx1 dx2 dy1 dy2 ms1 ms2 ⊢
  obtain ⟨N, rfl⟩ : ∃ N : Nat, wmost = (N : Int) := ⟨wmost.toNat, by omega⟩
  obtain ⟨g, off, cc, rfl, hcc, hcell⟩ := ints_open hp.c hcl.1
  obtain ⟨m, hm⟩ : ∃ m, m = p.cells.length := ⟨_, rfl⟩
  have HQ : Hid (∀ x y, onB r x y = true → 0 ≤ y * r.width + x ∧ y * r.width + x < m) := Lib.hid (fun x y h => by rw [hm]; exact sq_in hk h)
  have HCI : Hid (∀ s, 0 ≤ cellI p s ∧ cellI p s ≤ 12) := Lib.hid (fun s => by have h1 := cell_in hk s; have h2 := (pieces_len hk.e).2; omega)
  have t0 := hk.t0
  have t1 := hk.t1
  have HST : Hid (onB r (src % r.width) (src / r.width) = true) := Lib.hid (by
    rw [onB_iff]
    have h1 := Int.emod_nonneg src (b := r.width) (by omega)
    have h2 := Int.emod_lt_of_pos src (b := r.width) (by omega)
    have h3 := Int.ediv_nonneg s0 (b := r.width) (by omega)
    have h4 := hk.cl
    have h5 : src / r.width < r.height := Int.ediv_lt_of_lt_mul (by omega) (by rw [Int.mul_comm]; omega)
    exact ⟨h1, h2, h3, h5⟩)
  rw [← hm] at s1 hcc hcell hcl ⊢
  obtain ⟨V, hV, hB, hY, hX, hW⟩ := rpw_boxes w r p vp vs ve (.slice (some ⟨g, off, none⟩) m cc) v0 v1 (.int .i64 wdx) (.int .i64 wdy) (.int .i64 (N : Int)) (.int .i64 wtake)
  have HB := Lib.hid hB
  have HVS := hB.size
  have HC : Hid (∀ W, Below V.heap.size V W → ∀ j, j < m → W.cell? ⟨g, off + j, none⟩ = some (.int .i64 (cellI p (j : Int)))) := Lib.hid (fun W hb j hj => by
    rw [cellI, Int.toNat_natCast]; exact cell_keeps hb (Nat.le_refl _) (cell_keeps hB (Nat.le_refl _) (hcell j hj)))
  have HX : Hid (∀ W, Below V.heap.size V W → BoxP W (w.heap.size + 1) p (.slice (some ⟨g, off, none⟩) m cc) v0 v1) := Lib.hid (fun W hb => hX.below hb (Nat.le_refl _))
  have HY : Hid (∀ W, Below V.heap.size V W → BoxR W w.heap.size r vp vs ve) := Lib.hid (fun W hb => hY.below hb (Nat.le_refl _))
  have HW : Hid (∀ W, Below V.heap.size V W → (W.cell? ⟨w.heap.size + 2, 0, none⟩ = some (.int .i64 wdx) ∧ W.cell? ⟨w.heap.size + 2, 1, none⟩ = some (.int .i64 wdy) ∧ W.cell? ⟨w.heap.size + 2, 2, none⟩ = some (.int .i64 (N : Int)) ∧ W.cell? ⟨w.heap.size + 2, 3, none⟩ = some (.int .i64 wtake))) := Lib.hid (fun W hb => ⟨cell_keeps hb (Nat.le_refl _) hW.1, cell_keeps hb (Nat.le_refl _) hW.2.1, cell_keeps hb (Nat.le_refl _) hW.2.2.1, cell_keeps hb (Nat.le_refl _) hW.2.2.2⟩)
  obtain ⟨D, hD⟩ : ∃ D, D = upI p wdy := ⟨_, rfl⟩
  have hcase : ((p.turn == 1) = true ∧ -wdy = D) ∨ ((p.turn == 1) = false ∧ D = wdy) := by
    by_cases h : p.turn = 1
    · exact .inl ⟨by simpa using h, by rw [hD, upI, if_pos h]⟩
    · exact .inr ⟨by simpa using h, by rw [hD, upI, if_neg h]⟩
  have hD1 : -7 ≤ D ∧ D ≤ 7 := by rcases hcase with ⟨_, h⟩ | ⟨_, h⟩ <;> omega
  obtain ⟨hD1, hD2⟩ := hD1
  obtain ⟨LL, hLL⟩ : ∃ l, l = reachOf r p src ⟨wdx, wdy, (N : Int), wtake⟩ := ⟨_, rfl⟩
  have HR : Hid (LL = reach r p wdx D wtake N (src % r.width) (src / r.width)) := Lib.hid (by rw [hLL, reachOf, ← hD, Int.toNat_natCast])
  rw [← hLL]
  have hN7 : N ≤ 7 := by omega
  unfold RulesCells PlaceCells at hV
  unfold RulesV PlaceV PlaceCells
  have hm64 : m ≤ 64 := hcl.2
  clear hp hm hcell hB hy hcl hD hLL
  rcases hcase with ⟨e1, e2⟩ | ⟨e1, rfl⟩
  all_goals
    have hW1 := hW
    obtain ⟨x0, x1, x2, x3, x4⟩ := hX
    obtain ⟨y0, y1, y2, y3, y4, y5, y6, y7, y8, y9, y10⟩ := hY
    obtain ⟨z0, z1, z2, z3⟩ := hW1
    rw [hV] at x0 x1 x2 x3 x4 y0 y1 y2 y3 y4 y5 y6 y7 y8 y9 y10 z0 z1 z2 z3
    go_enter Tryz.func74, Tryz.ntmps74
    go_wp2_with fail
    clear x0 x1 x2 x3 x4 y0 y1 y2 y3 y4 y5 y6 y7 y8 y9 y10 z0 z1 z2 z3
    rw [← hV]
    clear hV hW
    obtain ⟨y0, y1, y2, y3, y4, y5, y6, y7, y8, y9, y10⟩ := HY.out V (Below.refl _ _)
    obtain ⟨z0, z1, z2, z3⟩ := HW.out V (Below.refl _ _)
    go_quiet (fail)
    clear y0 y1 y2 y3 y4 y5 y6 y7 y8 y9 y10
    go_wp2
    clear z0 z1 z2 z3
    go_loopw [10, 11, 12, 13, 31] (fun l vx vy _ vi wr => ∃ (k : Nat) (x y : Int) (pre : List Int), k ≤ N ∧ vi = .int .i64 (k : Int) ∧ vx = .int .i64 x ∧ vy = .int .i64 y ∧ Hid (onB r x y = true) ∧ Hid (LL = pre ++ reach r p wdx D wtake (N - k) x y) ∧ pre.length ≤ k ∧ wr.ownsRow V.heap.size 3 1 l pre.length (iv pre) ∧ Hid (Below V.heap.size V wr)) (fun _ _ _ _ i _ => N - (intOf i).toNat)
    case atStart => exact ⟨0, src % r.width, src / r.width, [], by omega, rfl, rfl, rfl, HST, Lib.hid (by rw [HR.out]; rfl), Nat.le_refl _, World.ownsRow_nil _ _ _ _, Lib.hid (below_drewN (Below.refl _ _) _)⟩
    case round =>
      clear HST HR
      obtain ⟨k, x, y, pre, hkN, rfl, rfl, rfl, hon, hre, hpl, hown, hbel⟩ := hrel
      obtain ⟨la, lc, rfl⟩ := owns_form hown
      have hon1 := onB_iff.1 hon.out
      obtain ⟨o1, o2, o3, o4⟩ := hon1
      obtain ⟨z0, z1, z2, z3⟩ := HW.out wr hbel.out
      obtain ⟨y0, y1, y2, y3, y4, y5, y6, y7, y8, y9, y10⟩ := HY.out wr hbel.out
      obtain ⟨x0, x1, x2, x3, x4⟩ := HX.out wr hbel.out
      by_cases hlt : k < N
      · obtain ⟨X, hX⟩ : ∃ X, x + wdx = X := ⟨_, rfl⟩
        obtain ⟨Y, hY⟩ : ∃ Y, y + D = Y := ⟨_, rfl⟩
        have X1 : -7 ≤ X ∧ X ≤ 14 := by omega
        have Y1 : -7 ≤ Y ∧ Y ≤ 14 := by omega
        obtain ⟨X1, X2⟩ := X1
        obtain ⟨Y1, Y2⟩ := Y1
        by_cases hoff : onB r X Y = false
        · have KR : Hid (LL = pre) := Lib.hid (by rw [hre.out, reach_off (by rw [hX, hY]; exact hoff), List.append_nil])
          have hoffs : X < 0 ∨ r.width ≤ X ∨ Y < 0 ∨ r.height ≤ Y := by
            have h := hoff
            rw [Bool.eq_false_iff] at h
            rw [Ne, onB_iff] at h
            omega
          have HO := Lib.hid hown
          have HBE : Hid (Below w.heap.size w wr) := Lib.hid (HB.out.trans (hbel.out.mono HB.out.size))
          clear hoff hre hon hown hbel HC HX HY HW HQ HCI HB
          go_wp2
          all_goals
            go_ret
            rw [KR.out]
            exact ⟨_, _, rfl, owns_weak HO.out HVS, HBE.out⟩
        · have hon2 : onB r X Y = true := by simpa using hoff
          obtain ⟨q1, q2, q3, q4⟩ := onB_iff.1 hon2
          obtain ⟨A, hA⟩ : ∃ A, Y * r.width = A := ⟨_, rfl⟩
          have hT0 := HQ.out X Y hon2
          rw [hA] at hT0
          obtain ⟨tn, hT⟩ : ∃ tn : Nat, A + X = (tn : Int) := ⟨(A + X).toNat, by omega⟩
          have hA0 : 0 ≤ A := by rw [← hA]; exact Int.mul_nonneg q3 (by omega)
          have htm : tn < m := by omega
          have htc : tn < cc := by omega
          have hA1 : A ≤ 64 := by omega
          obtain ⟨c, hc⟩ : ∃ c, c = cellI p (tn : Int) := ⟨_, rfl⟩
          have hcr := HCI.out (tn : Int)
          rw [← hc] at hcr
          have C0 := HC.out wr hbel.out tn htm
          rw [← hc] at C0
          obtain ⟨b, hb⟩ : ∃ b, b = canEndB wtake c p.turn := ⟨_, rfl⟩
          have HCE : Hid (∀ W, Calls Tryz.prog 96 #[.int .i64 wtake, .int .i64 c, .int .i64 p.turn] W fun e w' => e = .returned (.bool b) ∧ w' = W) := Lib.hid (fun W => by rw [hb]; exact canEnd_any _ _ _ _ hcr.1 (by omega) t0 t1)
          have KR : Hid (LL = pre ++ ((if b = true then [(tn : Int)] else []) ++ (if c = 0 then reach r p wdx D wtake (N - (k + 1)) X Y else []))) := Lib.hid (by
            rw [hre.out, show N - k = (N - (k + 1)) + 1 by omega, reach_on (T := (tn : Int)) hX hY (by rw [hA]; exact hT) hon2, hb, hc])
          have HON := Lib.hid hon2
          have d1 : decide (X < 0) = false := by simp; omega
          have d2 : decide (X ≥ r.width) = false := by simp; omega
          have d3 : decide (Y < 0) = false := by simp; omega
          have d4 : decide (Y ≥ r.height) = false := by simp; omega
          have HCC := Lib.hid hc
          have HCC := Lib.hid hc
          clear hoff hre hon hon2 HQ HCI hb hc hT0
          go_wp2_with fail
          go_quiet ((go_at_call 96; exact Calls.quiet_of_same (HCE.out _)))
          have HBQ : Hid (Below V.heap.size V (wr.drewN nq)) := Lib.hid (below_drewN hbel.out _)
          have hownq : (wr.drewN nq).ownsRow V.heap.size 3 1 (.slice la pre.length lc) pre.length (iv pre) := hown
          generalize wr.drewN nq = wq at HBQ hownq ⊢
          have HBQw : Hid (Below w.heap.size w wq) := Lib.hid (HB.out.trans (HBQ.out.mono HB.out.size))
          obtain ⟨pre1, hpre1⟩ : ∃ l, l = pre ++ (if b = true then [(tn : Int)] else []) := ⟨_, rfl⟩
          have KR1 : Hid (LL = pre1 ++ (if c = 0 then reach r p wdx D wtake (N - (k + 1)) X Y else [])) := Lib.hid (by rw [KR.out, hpre1, List.append_assoc])
          have hpl1 : pre1.length ≤ k + 1 := by rw [hpre1, List.length_append]; split <;> simp <;> omega
          have HP1 := Lib.hid hpre1
          clear KR hpre1
          clear x0 x1 x2 x3 x4 C0 y0 y1 y2 y3 y4 y5 y6 y7 y8 y9 y10 z0 z1 z2 z3 hown hbel
          cases b
          · have hp1 : pre1 = pre := by rw [HP1.out]; simp
            subst hp1
            obtain ⟨x0, x1, x2, x3, x4⟩ := HX.out wq HBQ.out
            have C1 := HC.out wq HBQ.out tn htm
            rw [← HCC.out] at C1
            have HBW : Hid (Below w.heap.size w wq) := Lib.hid (HB.out.trans (HBQ.out.mono HB.out.size))
            have HOW := Lib.hid hownq
            by_cases hz : c = 0
            · have hzb : (c != 0) = false := by simpa using hz
              have KR2 : Hid (LL = pre1 ++ reach r p wdx D wtake (N - (k + 1)) X Y) := Lib.hid (by rw [KR1.out, if_pos hz])
              clear hz KR1 HC HX HY HW HB HCE HCC
              go_wp2
              go_roundw
              case rel => exact ⟨k + 1, X, Y, pre1, by omega, by go_num, rfl, rfl, HON, KR2, hpl1, HOW.out, HBQ⟩
              case measure => simp [intOf]; omega
            · have hzb : (c != 0) = true := by simpa using hz
              have KR2 : Hid (LL = pre1) := Lib.hid (by rw [KR1.out, if_neg hz, List.append_nil])
              clear hz KR1 HC HX HY HW HB HCE HCC
              go_wp2
              go_ret
              rw [KR2.out]
              exact ⟨_, _, rfl, owns_weak HOW.out HVS, HBW.out⟩
          · have hp1 : pre1 = pre ++ [(tn : Int)] := by rw [HP1.out]; simp
            have hlen : pre1.length = pre.length + 1 := by rw [hp1]; simp
            have HIV : Hid (iv pre1 = iv pre ++ [.int .i64 (tn : Int)]) := Lib.hid (by rw [hp1, iv_append])
            clear hp1 HP1
            go_wp2_with (at_builtin; refine wpList_append_own _ rfl _ _ 23 rfl V.heap.size 3 i0 (.int .i64 0) 1 8 Tryz.underlying23 hi hz0 hz1 hz2 rfl (by decide) _ _ _ rfl (hownq.alloc _) ⟨wq.heap.size, 0, none⟩ 1 1 [.int .i64 (tn : Int)] rfl rfl (cell_new1 _ _ _) (by simp [Value.oneCell']) (by unfold maxLen; omega) (by omega) (by have := HBQ.out.size; simp; omega) ?_)
            intro v' w1 hown' hgrow _
            have hg' : (wq.alloc (.cells #[.int .i64 (tn : Int)] 3)).grownBy w1 (Value.slice la pre.length lc).ownBlock := hgrow
            have HB1 : Hid (Below V.heap.size V w1) := Lib.hid ((HBQ.out.alloc HBQ.out.size _).grown hg' (by have := HBQ.out.size; simp; omega) (fun k e => (hownq.lt k e).1))
            rw [← hlen, ← HIV.out] at hown'
            obtain ⟨l1, c1, rfl⟩ := owns_form hown'
            clear hgrow hg' hownq HBQ HBQw
            obtain ⟨x0, x1, x2, x3, x4⟩ := HX.out w1 HB1.out
            have C1 := HC.out w1 HB1.out tn htm
            rw [← HCC.out] at C1
            have HBW : Hid (Below w.heap.size w w1) := Lib.hid (HB.out.trans (HB1.out.mono HB.out.size))
            have HOW := Lib.hid hown'
            by_cases hz : c = 0
            · have hzb : (c != 0) = false := by simpa using hz
              have KR2 : Hid (LL = pre1 ++ reach r p wdx D wtake (N - (k + 1)) X Y) := Lib.hid (by rw [KR1.out, if_pos hz])
              clear hz KR1 HC HX HY HW HB HCE HCC
              go_wp2
              go_roundw
              case rel => exact ⟨k + 1, X, Y, pre1, by omega, by go_num, rfl, rfl, HON, KR2, hpl1, HOW.out, HB1⟩
              case measure => simp [intOf]; omega
            · have hzb : (c != 0) = true := by simpa using hz
              have KR2 : Hid (LL = pre1) := Lib.hid (by rw [KR1.out, if_neg hz, List.append_nil])
              clear hz KR1 HC HX HY HW HB HCE HCC
              go_wp2
              go_ret
              rw [KR2.out]
              exact ⟨_, _, rfl, owns_weak HOW.out HVS, HBW.out⟩
      · have KR : Hid (LL = pre) := Lib.hid (by rw [hre.out, show N - k = 0 by omega]; exact List.append_nil _)
        have HO := Lib.hid hown
        have HBE : Hid (Below w.heap.size w wr) := Lib.hid (HB.out.trans (hbel.out.mono HB.out.size))
        have hd : decide ((k : Int) < (N : Int)) = false := by simp; omega
        clear hre hon hown hbel HC HX HY HW HQ HCI HB
        go_wp2
        go_ret
        rw [KR.out]
        exact ⟨_, _, rfl, owns_weak HO.out HVS, HBE.out⟩
end Go.Proofs.YtdhhdkbnlddnbaaGreatDoor

set_option maxRecDepth 100000
namespace Go.Proofs.YtdhhdkbnlddnbaaGreatDoor
open Go.ChangeShapes Go.WideShapes Go.ChangeAt Go.RowKit

theorem infoMove : (Tryz.prog.info? 37).map (fun i => (i.zero, i.size, i.bytes)) = some (some (.agg #[.int .i64 0, .int .i64 0, .int .i64 0]), 3, 24) := by kernel_rfl
theorem cell_new3 (W : World) (a b c : Int) (t : TypeId) : ∀ j u, (mc (a, b, c))[j]? = some u → (W.alloc (.cells #[.int .i64 a, .int .i64 b, .int .i64 c] t)).cell? (Addr.add ⟨W.heap.size, 0, none⟩ j) = some u := by
  intro j u hj
  rw [Addr.add_lit, World.cell?_alloc_at (hn := rfl), Nat.zero_add]
  unfold mc at hj
  rw [← hj]
  show (#[Value.int .i64 a, .int .i64 b, .int .i64 c] : Array Value)[j]? = _
  rw [List.getElem?_toArray]
theorem owns_below {W W' : World} {B : Nat} {e : TypeId} {k : Nat} {v : Value} {n : Nat} {xs : List Value} (h : W.ownsRow B e k v n xs) (hb : Below W.heap.size W W') : W'.ownsRow B e k v n xs := by
  refine ⟨h.1, ?_⟩
  rcases h.2 with h2 | ⟨g, cap, cur, e1, e2, e3, e4⟩
  · exact .inl h2
  · exact .inr ⟨g, cap, cur, e1, e2, (hb.block g (Array.getElem?_eq_some_iff.1 e3).1).trans e3, e4⟩
def putsTo (r : RulesD) (p : PlaceD) (k : Nat) : List MoveD := ((squares p).take k).flatMap (putAt r p)
theorem putsTo_succ (r : RulesD) (p : PlaceD) {k : Nat} (hk : k < p.cells.length) : putsTo r p (k + 1) = putsTo r p k ++ putAt r p (k : Int) := by
  unfold putsTo
  have h : (squares p)[k]? = some (k : Int) := by simp [squares, hk]
  rw [List.take_add_one, h, List.flatMap_append]
  simp
theorem putsTo_all (r : RulesD) (p : PlaceD) : putsTo r p p.cells.length = putsD r p := by
  unfold putsTo putsD
  rw [List.take_of_length_le (by rw [squares_length]; exact Nat.le_refl _)]
theorem putsTo_length {r : RulesD} {p : PlaceD} (h : POkay r p) (k : Nat) (hk : k ≤ p.cells.length) : (putsTo r p k).length ≤ 384 := by
  have h1 := flat_length (putAt r p) 6 ((squares p).take k) fun t _ => putAt_length h t
  rw [List.length_take, squares_length] at h1
  have := (cells_len h).2
  unfold putsTo
  omega
def kindsTo (p : PlaceD) (j : Nat) : List Int := ((List.range j).filter fun k => decide (0 < (handI p)[k]?.getD 0)).map fun k : Nat => (k : Int)
theorem kindsTo_succ (p : PlaceD) (j : Nat) : kindsTo p (j + 1) = kindsTo p j ++ (if 0 < (handI p)[j]?.getD 0 then [(j : Int)] else []) := by
  unfold kindsTo
  rw [List.range_succ, List.filter_append, List.map_append]
  congr 1
  by_cases h : 0 < (handI p)[j]?.getD 0 <;> simp [h]
def putK (t : Int) (ks : List Int) : List MoveD := ks.map fun k => (-1, t, k)
theorem putAt_free {r : RulesD} {p : PlaceD} {t : Int} (h : freeB r p t = true) : putAt r p t = putK t (kindsTo p (handI p).length) := by
  unfold putAt putK kindsTo kindsOf; rw [if_pos h]
theorem putAt_not {r : RulesD} {p : PlaceD} {t : Int} (h : freeB r p t = false) : putAt r p t = [] := by unfold putAt; rw [if_neg (by simp [h])]
set_option maxHeartbeats 8000000 in
theorem puts_any (r : RulesD) (p : PlaceD) (vp vs ve vc v0 v1 : Value) (w : World) (hp : PlaceIn w p vc v0 v1) (hk : POkay r p) :
    Calls Tryz.prog 72 #[RulesV r vp vs ve, PlaceV p vc v0 v1] w (SlPost MoveAt 3 (putsD r p) w) := by
  obtain ⟨i0, hi, hz0, hz1, hz2⟩ := info_parts infoMove
  have hcl := cells_len hk
  have hnl := pieces_len hk.e
  have hHL := hand_len hk
  have HSU : Hid (∀ (t : Int), 0 ≤ t → t < p.cells.length → ∀ W, PlaceIn W p vc v0 v1 → Calls Tryz.prog 95 #[RulesV r vp vs ve, PlaceV p vc v0 v1, .int .i64 t] W (BelPost (.bool (suppB r p t)) W)) := Lib.hid (fun t h0 h1 W h => isSupported_any r p vp vs ve vc v0 v1 t W h hk h0 h1)
  have HPL : Hid (∀ k, k ≤ p.cells.length → (putsTo r p k).length ≤ 384) := Lib.hid (fun k h => putsTo_length hk k h)
  have HP := Lib.hid hp
  obtain ⟨g, off, cc, rfl, hcc, hcell⟩ := ints_open hp.c hcl.1
  obtain ⟨hv, hhv⟩ : ∃ v, v = if p.turn = 0 then v0 else v1 := ⟨_, rfl⟩
  have hIH : IsSl IntAt 1 w hv (handI p) := by
    unfold handI; rw [hhv]; split
    · exact hp.a
    · exact hp.b
  obtain ⟨gh, oh, ch, rfl, hch, hhc⟩ := ints_open hIH (by omega)
  obtain ⟨m, hm⟩ : ∃ m, m = p.cells.length := ⟨_, rfl⟩
  obtain ⟨n, hn⟩ : ∃ n, n = (handI p).length := ⟨_, rfl⟩
  have HNN := Lib.hid hn
  have HM := Lib.hid hm
  rw [← hm] at hcl hcc hcell HSU HPL
  have HP2 : Hid (PlaceIn w p (.slice (some ⟨g, off, none⟩) m cc) v0 v1) := Lib.hid (by rw [hm]; exact HP.out)
  rw [← hm] at ⊢
  rw [← hn] at hch hhc hhv hHL
  have hn6 : n ≤ 6 := by omega
  have hm64 := hcl.2
  obtain ⟨tn, htn⟩ : ∃ tn : Nat, p.turn = (tn : Int) := ⟨p.turn.toNat, by have := hk.t0; omega⟩
  have htn1 : tn ≤ 1 := by have := hk.t1; omega
  obtain ⟨hB, hY, hX⟩ := rp_boxes w r p vp vs ve (.slice (some ⟨g, off, none⟩) m cc) v0 v1
  have hXH : ((w.alloc (.cells (RulesCells r vp vs ve) 26)).alloc (.cells (PlaceCells p (.slice (some ⟨g, off, none⟩) m cc) v0 v1) 29)).cell? ⟨w.heap.size + 1, 1 + tn, none⟩ = some (.slice (some ⟨gh, oh, none⟩) n ch) := by
    obtain ⟨_, x1, x2, _, _⟩ := hX
    have h2 : tn = 0 ∨ tn = 1 := by omega
    rcases h2 with h2 | h2
    · rw [hhv, if_pos (by rw [htn, h2]; rfl), h2]; exact x1
    · rw [hhv, if_neg (by rw [htn, h2]; decide), h2]; exact x2
  unfold RulesV PlaceV at HSU
  unfold RulesCells at hB hY hX hXH
  unfold PlaceCells at hB hY hX hXH HSU
  unfold RulesV PlaceV PlaceCells
  obtain ⟨f, hf⟩ : ∃ f, r.falls = f := ⟨_, rfl⟩
  rw [htn, hf] at hB hX hXH HSU ⊢
  rw [htn, hf] at hY
  have HF := Lib.hid hf
  have HV : ∃ V, V = ((w.alloc (.cells #[.string r.name, .int .i64 r.width, .int .i64 r.height, vp, vs, .bool f, .bool r.keeps, ve, .int .i64 r.blocked, .int .i64 r.quiet, .int .i64 r.rep] 26)).alloc (.cells #[.slice (some ⟨g, off, none⟩) m cc, v0, v1, .int .i64 (tn : Int), .int .i64 p.quiet] 29)) := ⟨_, rfl⟩
  obtain ⟨V, hV⟩ := HV
  rw [← hV] at hB hY hX hXH
  have HB := Lib.hid hB
  have HC : Hid (∀ W, Below V.heap.size V W → ∀ j, j < m → W.cell? ⟨g, off + j, none⟩ = some (.int .i64 (cellI p (j : Int)))) := Lib.hid (fun W hb j hj => by
    rw [cellI, Int.toNat_natCast]; exact cell_keeps hb (Nat.le_refl _) (cell_keeps hB (Nat.le_refl _) (hcell j hj)))
  have HHC : Hid (∀ W, Below V.heap.size V W → ∀ j, j < n → W.cell? ⟨gh, oh + j, none⟩ = some (.int .i64 ((handI p)[j]?.getD 0))) := Lib.hid (fun W hb j hj => cell_keeps hb (Nat.le_refl _) (cell_keeps hB (Nat.le_refl _) (hhc j hj)))
  have HX : Hid (∀ W, Below V.heap.size V W → (BoxP W (w.heap.size + 1) p (.slice (some ⟨g, off, none⟩) m cc) v0 v1) ∧ W.cell? ⟨w.heap.size + 1, 1 + tn, none⟩ = some (.slice (some ⟨gh, oh, none⟩) n ch)) := Lib.hid (fun W hb => ⟨hX.below hb (Nat.le_refl _), cell_keeps hb (Nat.le_refl _) hXH⟩)
  have HY : Hid (∀ W, Below V.heap.size V W → BoxR W w.heap.size r vp vs ve) := Lib.hid (fun W hb => hY.below hb (Nat.le_refl _))
  have HSV : Hid (∀ (j : Nat), j < m → ∀ W, Below V.heap.size V W → Calls Tryz.prog 95 #[.agg #[.string r.name, .int .i64 r.width, .int .i64 r.height, vp, vs, .bool f, .bool r.keeps, ve, .int .i64 r.blocked, .int .i64 r.quiet, .int .i64 r.rep], .agg #[.slice (some ⟨g, off, none⟩) m cc, v0, v1, .int .i64 (tn : Int), .int .i64 p.quiet], .int .i64 (j : Int)] W (BelPost (.bool (suppB r p (j : Int))) W)) := Lib.hid (fun j hj W hb => HSU.out (j : Int) (by omega) (by omega) W (HP2.out.below (hB.trans (hb.mono hB.size)) (Nat.le_refl _)))
  have HT := Lib.hid htn
  obtain ⟨x0, x1, x2, x3, x4⟩ := hX
  obtain ⟨y0, y1, y2, y3, y4, y5, y6, y7, y8, y9, y10⟩ := hY
  rw [hV] at x0 x1 x2 x3 x4 y0 y1 y2 y3 y4 y5 y6 y7 y8 y9 y10
  rw [htn] at x3
  rw [hf] at y5
  clear hHL hp hcell hhc hIH HSU HP HP2 hhv hB hXH hk htn hm hn hf
  go_enter Tryz.func72, Tryz.ntmps72
  go_wp2
  clear x0 x1 x2 x3 x4 y0 y1 y2 y3 y4 y5 y6 y7 y8 y9 y10
  rw [← hV]
  clear hV
  go_loopw [5, 6, 7, 8, 9, 13] (fun l _ _ _ _ i wr => ∃ k : Nat, k ≤ m ∧ i = .int .i64 (k : Int) ∧ wr.ownsRow V.heap.size 37 3 l (putsTo r p k).length (mcs (putsTo r p k)) ∧ Hid (Below V.heap.size V wr)) (fun _ _ _ _ _ i _ => m - (intOf i).toNat)
  case atStart => exact ⟨0, by omega, rfl, World.ownsRow_nil _ _ _ _, Lib.hid (Below.refl _ _)⟩
  case round =>
    obtain ⟨k, hkm, rfl, hown, hbel⟩ := hrel
    obtain ⟨la, lc, rfl⟩ := owns_form hown
    by_cases hlt : k < m
    · obtain ⟨⟨x0, x1, x2, x3, x4⟩, x5⟩ := HX.out wr hbel.out
      obtain ⟨y0, y1, y2, y3, y4, y5, y6, y7, y8, y9, y10⟩ := HY.out wr hbel.out
      rw [HT.out] at x3
      rw [HF.out] at y5
      have C0 := HC.out wr hbel.out k hlt
      have hkc : k < cc := by omega
      have HPS : Hid (putsTo r p (k + 1) = putsTo r p k ++ putAt r p (k : Int)) := Lib.hid (putsTo_succ r p (by rw [← HM.out]; exact hlt))
      obtain ⟨c, hc⟩ : ∃ c, c = cellI p (k : Int) := ⟨_, rfl⟩
      rw [← hc] at C0
      by_cases hz : c = 0
      · subst hz
        cases hfr : freeB r p (k : Int)
        · have KP : Hid (putsTo r p (k + 1) = putsTo r p k) := Lib.hid (by rw [HPS.out, putAt_not hfr, List.append_nil])
          cases f
          · exfalso
            rw [freeB, ← hc, HF.out] at hfr
            simp at hfr
          · have hsp : suppB r p (k : Int) = false := by
              rw [freeB, ← hc, HF.out] at hfr
              simpa using hfr
            have HSC := Lib.hid (HSV.out k hlt wr hbel.out)
            rw [hsp] at HSC
            have HO := Lib.hid hown
            clear hc HPS hown HC HHC HX HY HSV hfr hsp
            go_wp2_with fail
            go_at_call 95; refine HSC.out.mono ?_; rintro e w1 ⟨rfl, hb1⟩
            have HB1 : Hid (Below V.heap.size V w1) := Lib.hid (hbel.out.trans (hb1.mono hbel.out.size))
            have HO1 := Lib.hid (owns_below HO.out hb1)
            clear hb1 HO hbel
            go_wp2
            go_roundw
            case rel => exact ⟨k + 1, by omega, by go_num, by rw [KP.out]; exact HO1.out, HB1⟩
            case measure => simp [intOf]; omega
        have HFR := Lib.hid hfr
        cases f
        rotate_left
        · have hsp : suppB r p (k : Int) = true := by
            rw [freeB, ← hc, HF.out] at hfr
            simpa using hfr
          have HSC := Lib.hid (HSV.out k hlt wr hbel.out)
          rw [hsp] at HSC
          have HO := Lib.hid hown
          clear hc hown hfr hsp
          go_wp2_with fail
          go_at_call 95; refine HSC.out.mono ?_; rintro e w1 ⟨rfl, hb1⟩
          have hbel1 : Hid (Below V.heap.size V w1) := Lib.hid (hbel.out.trans (hb1.mono hbel.out.size))
          have hown1 := owns_below HO.out hb1
          clear hb1 HO hbel HSC
          obtain ⟨⟨x0, x1, x2, x3, x4⟩, x5⟩ := HX.out w1 hbel1.out
          rw [HT.out] at x3
          go_wp2
          clear x0 x1 x2 x3 x4 x5 y0 y1 y2 y3 y4 y5 y6 y7 y8 y9 y10
          have HL : Hid (∀ j, j ≤ n → (putsTo r p k ++ putK (k : Int) (kindsTo p j)).length ≤ 384 + 6) := Lib.hid (fun j hj => by
            have h1 := HPL.out k hkm
            have h2 : (kindsTo p j).length ≤ j := by
              unfold kindsTo
              rw [List.length_map]
              have := List.length_filter_le (fun k => decide (0 < (handI p)[k]?.getD 0)) (List.range j)
              simpa using this
            rw [List.length_append, putK, List.length_map]; omega)
          go_loopw [5, 8, 9, 37] (fun l _ _ i wx => ∃ j : Nat, j ≤ n ∧ i = .int .i64 (j : Int) ∧ wx.ownsRow V.heap.size 37 3 l (putsTo r p k ++ putK (k : Int) (kindsTo p j)).length (mcs (putsTo r p k ++ putK (k : Int) (kindsTo p j))) ∧ Hid (Below V.heap.size V wx)) (fun _ _ _ i _ => n - (intOf i).toNat)
          case atStart => exact ⟨0, by omega, rfl, by simpa [kindsTo, putK] using hown1, hbel1⟩
          case round =>
            obtain ⟨j, hjn, rfl, hown2, hbel2⟩ := hrel
            obtain ⟨l2, c2, rfl⟩ := owns_form hown2
            by_cases hlt2 : j < n
            · have C2 := HHC.out _ hbel2.out j hlt2
              have hjc : j < ch := by omega
              obtain ⟨x, hx⟩ : ∃ x, x = (handI p)[j]?.getD 0 := ⟨_, rfl⟩
              rw [← hx] at C2
              have HKS := Lib.hid (kindsTo_succ p j)
              by_cases hpos : 0 < x
              · have KP : Hid (putsTo r p k ++ putK (k : Int) (kindsTo p (j + 1)) = (putsTo r p k ++ putK (k : Int) (kindsTo p j)) ++ [(-1, (k : Int), (j : Int))]) := Lib.hid (by
                  rw [HKS.out, if_pos (by rw [← hx]; exact hpos), List.append_assoc]; unfold putK; rw [List.map_append]; rfl)
                have hll := HL.out j hjn
                generalize putsTo r p k ++ putK (k : Int) (kindsTo p j) = pre at hown2 KP hll ⊢
                have KL : Hid ((pre ++ [(-1, (k : Int), (j : Int))]).length = pre.length + 1) := Lib.hid (by simp)
                have KM : Hid (mcs (pre ++ [(-1, (k : Int), (j : Int))]) = mcs pre ++ mc (-1, (k : Int), (j : Int))) := Lib.hid (by rw [mcs_append, mcs_one])
                have hposb : decide (x > 0) = true := by simpa using hpos
                clear hx HKS hpos HL HHC HC HX HY HSV
                go_wp2_with (at_builtin; refine wpList_append_own _ rfl _ _ 53 rfl V.heap.size 37 i0 (.agg #[.int .i64 0, .int .i64 0, .int .i64 0]) 3 24 Tryz.underlying53 hi hz0 hz1 hz2 rfl (by decide) _ _ _ rfl (hown2.alloc _) ⟨wr.heap.size, 0, none⟩ 1 1 (mc (-1, (k : Int), (j : Int))) rfl rfl (cell_new3 _ _ _ _ _) (fun u hu => mcs_one_cell [(-1, (k : Int), (j : Int))] u (by rw [mcs_one]; exact hu)) (by unfold maxLen; omega) (by omega) (by have := hbel2.out.size; simp; omega) ?_)
                intro v' w2 hown' hgrow _
                have hg' : (wr.alloc (.cells #[.int .i64 (-1), .int .i64 (k : Int), .int .i64 (j : Int)] 37)).grownBy w2 (Value.slice l2 pre.length c2).ownBlock := hgrow
                have HB1 : Hid (Below V.heap.size V w2) := Lib.hid ((hbel2.out.alloc hbel2.out.size _).grown hg' (by have := hbel2.out.size; simp; omega) (fun k e => (hown2.lt k e).1))
                rw [← KM.out, ← KL.out] at hown'
                have HO2 := Lib.hid hown'
                clear hgrow hg' hown2 hown' hbel2
                go_wp2
                go_roundw
                case rel => exact ⟨j + 1, by omega, by go_num, by rw [KP.out]; exact HO2.out, HB1⟩
                case measure => simp [intOf]; omega
              · have KP : Hid (putsTo r p k ++ putK (k : Int) (kindsTo p (j + 1)) = putsTo r p k ++ putK (k : Int) (kindsTo p j)) := Lib.hid (by
                  rw [HKS.out, if_neg (by rw [← hx]; exact hpos), List.append_nil])
                have hposb : decide (x > 0) = false := by simpa using hpos
                have HO2 := Lib.hid hown2
                clear hx HKS hpos HL HHC HC HX HY HSV hown2
                go_wp2
                go_roundw
                case rel => exact ⟨j + 1, by omega, by go_num, by rw [KP.out]; exact HO2.out, hbel2⟩
                case measure => simp [intOf]; omega
            · have KP : Hid (putsTo r p (k + 1) = putsTo r p k ++ putK (k : Int) (kindsTo p j)) := Lib.hid (by
                rw [HPS.out, putAt_free HFR.out, ← HNN.out, show j = n by omega])
              have HO2 := Lib.hid hown2
              clear HL HHC HC HX HY HSV hown2
              go_wp2
              go_roundw
              case rel => exact ⟨k + 1, by omega, by go_num, by rw [KP.out]; exact HO2.out, hbel2⟩
              case measure => simp [intOf]; omega
        · have hbel1 := hbel
          have hown1 := hown
          clear hc hown hfr hbel
          go_wp2
          clear x0 x1 x2 x3 x4 x5 y0 y1 y2 y3 y4 y5 y6 y7 y8 y9 y10
          have HL : Hid (∀ j, j ≤ n → (putsTo r p k ++ putK (k : Int) (kindsTo p j)).length ≤ 384 + 6) := Lib.hid (fun j hj => by
            have h1 := HPL.out k hkm
            have h2 : (kindsTo p j).length ≤ j := by
              unfold kindsTo
              rw [List.length_map]
              have := List.length_filter_le (fun k => decide (0 < (handI p)[k]?.getD 0)) (List.range j)
              simpa using this
            rw [List.length_append, putK, List.length_map]; omega)
          go_loopw [5, 8, 9, 37] (fun l _ _ i wx => ∃ j : Nat, j ≤ n ∧ i = .int .i64 (j : Int) ∧ wx.ownsRow V.heap.size 37 3 l (putsTo r p k ++ putK (k : Int) (kindsTo p j)).length (mcs (putsTo r p k ++ putK (k : Int) (kindsTo p j))) ∧ Hid (Below V.heap.size V wx)) (fun _ _ _ i _ => n - (intOf i).toNat)
          case atStart => exact ⟨0, by omega, rfl, by simpa [kindsTo, putK] using hown1, hbel1⟩
          case round =>
            obtain ⟨j, hjn, rfl, hown2, hbel2⟩ := hrel
            obtain ⟨l2, c2, rfl⟩ := owns_form hown2
            by_cases hlt2 : j < n
            · have C2 := HHC.out _ hbel2.out j hlt2
              have hjc : j < ch := by omega
              obtain ⟨x, hx⟩ : ∃ x, x = (handI p)[j]?.getD 0 := ⟨_, rfl⟩
              rw [← hx] at C2
              have HKS := Lib.hid (kindsTo_succ p j)
              by_cases hpos : 0 < x
              · have KP : Hid (putsTo r p k ++ putK (k : Int) (kindsTo p (j + 1)) = (putsTo r p k ++ putK (k : Int) (kindsTo p j)) ++ [(-1, (k : Int), (j : Int))]) := Lib.hid (by
                  rw [HKS.out, if_pos (by rw [← hx]; exact hpos), List.append_assoc]; unfold putK; rw [List.map_append]; rfl)
                have hll := HL.out j hjn
                generalize putsTo r p k ++ putK (k : Int) (kindsTo p j) = pre at hown2 KP hll ⊢
                have KL : Hid ((pre ++ [(-1, (k : Int), (j : Int))]).length = pre.length + 1) := Lib.hid (by simp)
                have KM : Hid (mcs (pre ++ [(-1, (k : Int), (j : Int))]) = mcs pre ++ mc (-1, (k : Int), (j : Int))) := Lib.hid (by rw [mcs_append, mcs_one])
                have hposb : decide (x > 0) = true := by simpa using hpos
                clear hx HKS hpos HL HHC HC HX HY HSV
                go_wp2_with (at_builtin; refine wpList_append_own _ rfl _ _ 53 rfl V.heap.size 37 i0 (.agg #[.int .i64 0, .int .i64 0, .int .i64 0]) 3 24 Tryz.underlying53 hi hz0 hz1 hz2 rfl (by decide) _ _ _ rfl (hown2.alloc _) ⟨wr.heap.size, 0, none⟩ 1 1 (mc (-1, (k : Int), (j : Int))) rfl rfl (cell_new3 _ _ _ _ _) (fun u hu => mcs_one_cell [(-1, (k : Int), (j : Int))] u (by rw [mcs_one]; exact hu)) (by unfold maxLen; omega) (by omega) (by have := hbel2.out.size; simp; omega) ?_)
                intro v' w2 hown' hgrow _
                have hg' : (wr.alloc (.cells #[.int .i64 (-1), .int .i64 (k : Int), .int .i64 (j : Int)] 37)).grownBy w2 (Value.slice l2 pre.length c2).ownBlock := hgrow
                have HB1 : Hid (Below V.heap.size V w2) := Lib.hid ((hbel2.out.alloc hbel2.out.size _).grown hg' (by have := hbel2.out.size; simp; omega) (fun k e => (hown2.lt k e).1))
                rw [← KM.out, ← KL.out] at hown'
                have HO2 := Lib.hid hown'
                clear hgrow hg' hown2 hown' hbel2
                go_wp2
                go_roundw
                case rel => exact ⟨j + 1, by omega, by go_num, by rw [KP.out]; exact HO2.out, HB1⟩
                case measure => simp [intOf]; omega
              · have KP : Hid (putsTo r p k ++ putK (k : Int) (kindsTo p (j + 1)) = putsTo r p k ++ putK (k : Int) (kindsTo p j)) := Lib.hid (by
                  rw [HKS.out, if_neg (by rw [← hx]; exact hpos), List.append_nil])
                have hposb : decide (x > 0) = false := by simpa using hpos
                have HO2 := Lib.hid hown2
                clear hx HKS hpos HL HHC HC HX HY HSV hown2
                go_wp2
                go_roundw
                case rel => exact ⟨j + 1, by omega, by go_num, by rw [KP.out]; exact HO2.out, hbel2⟩
                case measure => simp [intOf]; omega
            · have KP : Hid (putsTo r p (k + 1) = putsTo r p k ++ putK (k : Int) (kindsTo p j)) := Lib.hid (by
                rw [HPS.out, putAt_free HFR.out, ← HNN.out, show j = n by omega])
              have HO2 := Lib.hid hown2
              clear HL HHC HC HX HY HSV hown2
              go_wp2
              go_roundw
              case rel => exact ⟨k + 1, by omega, by go_num, by rw [KP.out]; exact HO2.out, hbel2⟩
              case measure => simp [intOf]; omega
      · have hzb : (c != 0) = true := by simpa using hz
        have KP : Hid (putsTo r p (k + 1) = putsTo r p k) := Lib.hid (by
          rw [HPS.out, putAt_not (by rw [freeB, ← hc, decide_eq_false hz]; rfl), List.append_nil])
        have HO := Lib.hid hown
        clear hz hc HPS hown HC HHC HX HY HSV
        go_wp2
        go_roundw
        case rel => exact ⟨k + 1, by omega, by go_num, by rw [KP.out]; exact HO.out, hbel⟩
        case measure => simp [intOf]; omega
    · obtain rfl : k = m := by omega
      have KP : Hid (putsTo r p k = putsD r p) := Lib.hid (by rw [HM.out]; exact putsTo_all r p)
      have HO := Lib.hid hown
      have HBE : Hid (Below w.heap.size w wr) := Lib.hid (HB.out.trans (hbel.out.mono HB.out.size))
      clear hown hbel HC HHC HX HY HSV
      go_wp2
      go_ret
      exact ⟨_, _, _, rfl, by rw [← KP.out]; exact moves_of_owns HO.out, owns_nil HO.out, HBE.out⟩
end Go.Proofs.YtdhhdkbnlddnbaaGreatDoor

set_option maxRecDepth 100000
namespace Go.Proofs.YtdhhdkbnlddnbaaGreatDoor
open Go.ChangeShapes Go.WideShapes Go.ChangeAt Go.RowKit

/-- Are two moves the same? -/
def sameM (x y : MoveD) : Bool := decide (x = y)
theorem sameM_eq {x y : MoveD} (h : x = y) : sameM x y = true := decide_eq_true h
theorem sameM_ne {x y : MoveD} (h : x ≠ y) : sameM x y = false := decide_eq_false h
theorem eqMove : ∀ (a b c a' b' c' : Int) (w : World), Sem.run Tryz.prog (binOp .eql 37 (.agg #[.int .i64 a, .int .i64 b, .int .i64 c]) (.agg #[.int .i64 a', .int .i64 b', .int .i64 c'])) w = .ok (.bool (sameM (a, b, c) (a', b', c'))) w := by
  intro a b c a' b' c' w
  have u3 := Tryz.underlying3
  have a3 := Tryz.isAgg3
  have z3 := Tryz.sizeOf3
  have hS : Tryz.prog.underlying 37 = some (.struct (Tryz.prog.fieldsOf 37)) := by kernel_rfl
  have hp : Tryz.prog.stoodInHeld 37 = false := by kernel_rfl
  rw [run_eql_struct, show (10000 : Nat) = 9999 + 1 from rfl, run_equalIn_agg w 9999 37 _ _ hS hp]
  simp only [Program.fieldsOf, Tryz.underlying37]
  go_simp
  unfold sameM
  by_cases h1 : a = a' <;> by_cases h2 : b = b' <;> by_cases h3 : c = c' <;> simp [h1, h2, h3]
theorem neqMove : ∀ (a b c a' b' c' : Int) (w : World), Sem.run Tryz.prog (binOp .neq 37 (.agg #[.int .i64 a, .int .i64 b, .int .i64 c]) (.agg #[.int .i64 a', .int .i64 b', .int .i64 c'])) w = .ok (.bool (!sameM (a, b, c) (a', b', c'))) w := by
  intro a b c a' b' c' w
  have u3 := Tryz.underlying3
  have a3 := Tryz.isAgg3
  have z3 := Tryz.sizeOf3
  have hS : Tryz.prog.underlying 37 = some (.struct (Tryz.prog.fieldsOf 37)) := by kernel_rfl
  have hp : Tryz.prog.stoodInHeld 37 = false := by kernel_rfl
  rw [run_neq_struct, show (10000 : Nat) = 9999 + 1 from rfl, run_equalIn_agg w 9999 37 _ _ hS hp]
  simp only [Program.fieldsOf, Tryz.underlying37]
  go_simp
  unfold sameM
  by_cases h1 : a = a' <;> by_cases h2 : b = b' <;> by_cases h3 : c = c' <;> simp [h1, h2, h3]
theorem guardMove : ∀ (op : BinOp) (x y : Operand) (a b c a' b' c' : Int) (w : World), Sem.run Tryz.prog (eqGuard op 37 x y (.agg #[.int .i64 a, .int .i64 b, .int .i64 c]) (.agg #[.int .i64 a', .int .i64 b', .int .i64 c'])) w = .ok () w :=
  fun op x y a b c a' b' c' w => run_eqGuard_agg w op 37 x y #[.int .i64 a, .int .i64 b, .int .i64 c] #[.int .i64 a', .int .i64 b', .int .i64 c'] (by kernel_rfl)

/-! ### A row of moves, written element by element -/
theorem flatK_set (d : Array MoveD) (i : Nat) (x : MoveD) (hi : i < d.size) : Go.Sort.setMany (Go.Sort.flatK mc 3 d) (i * 3) (mc x) = Go.Sort.flatK mc 3 (d.setIfInBounds i x) := by
  refine Go.Sort.ext_get! (by simp) fun t ht => ?_
  have ht' : t < d.size * 3 := by simpa using ht
  rw [Go.Sort.get_setMany _ _ _ t (by simpa using ht'), Go.Sort.get_flatK _ _ _ t ht', Go.Sort.get_flatK _ _ _ t (by simpa using ht'), mc_length]
  by_cases a : t / 3 = i
  · rw [if_pos (by omega), show t - i * 3 = t % 3 by omega, a]
    congr 1
    rw [Go.Sort.getElem!_set_same d i x hi]
  · rw [if_neg (by omega)]
    congr 1
    rw [Go.Sort.getElem!_set_other d i _ x a]
theorem put_move {w : World} {n blk off : Nat} {d : Array MoveD} {i : Nat} (hi : i < d.size) (x : MoveD) :
    ((((Go.Sort.putRowK mc 3 (Go.Sort.ahead w n) blk off d).setCell ⟨blk, off + i * 3, none⟩ (.int .i64 x.1)).setCell ⟨blk, off + i * 3 + 1, none⟩ (.int .i64 x.2.1)).setCell ⟨blk, off + i * 3 + 2, none⟩ (.int .i64 x.2.2)) = Go.Sort.putRowK mc 3 (Go.Sort.ahead w n) blk off (d.setIfInBounds i x) := by
  have h := Go.Sort.setCells_putRow (Go.Sort.ahead w n) blk off (mc x) (i * 3) (Go.Sort.flatK mc 3 d) (by rw [mc_length, Go.Sort.size_flatK]; omega)
  rw [flatK_set d i x hi] at h
  unfold Go.Sort.putRowK
  rw [← h]
  rfl
theorem setCells_app (b : Nat) : ∀ (xs ys : List Value) (o : Nat) (w : World), w.setCells b o (xs ++ ys) = (w.setCells b o xs).setCells b (o + xs.length) ys
  | [], ys, o, w => rfl
  | x :: xs, ys, o, w => by
    rw [List.cons_append, World.setCells, setCells_app b xs ys (o + 1), World.setCells, List.length_cons, show o + 1 + xs.length = o + (xs.length + 1) by omega]
theorem put_moves (w : World) (blk off : Nat) : ∀ (xs : List MoveD) (d : Array MoveD) (k : Nat), k + xs.length ≤ d.size → (Go.Sort.putRowK mc 3 w blk off d).setCells blk (off + k * 3) (mcs xs) = Go.Sort.putRowK mc 3 w blk off (Go.Lib.lay d k xs)
  | [], _, _, _ => rfl
  | x :: r, d, k, h => by
    have hl : k + (r.length + 1) ≤ d.size := by simpa using h
    rw [mcs_cons, setCells_app, mc_length]
    have h1 := Go.Sort.setCells_putRow w blk off (mc x) (k * 3) (Go.Sort.flatK mc 3 d) (by rw [mc_length, Go.Sort.size_flatK]; omega)
    rw [flatK_set d k x (by omega)] at h1
    have h2 := put_moves w blk off r (d.setIfInBounds k x) (k + 1) (by simp; omega)
    rw [Go.Lib.lay, ← h2, show off + k * 3 + 3 = off + (k + 1) * 3 by omega]
    exact congrArg (fun W : World => W.setCells blk (off + (k + 1) * 3) (mcs r)) h1
def zm : MoveD := (0, 0, 0)
theorem zero_moves : ∀ n, (Builtin.zeroCells #[.int .i64 0, .int .i64 0, .int .i64 0] n).toList = mcs (List.replicate n zm) := by
  intro n
  apply List.ext_getElem?
  intro t
  by_cases ht : t < n * 3
  · have hi : t / 3 < n := (Nat.div_lt_iff_lt_mul (by decide)).2 ht
    have h2 := mcs_at (List.replicate n zm) (t / 3) zm (t % 3) (by simp [hi]) (Nat.mod_lt _ (by decide))
    rw [show t / 3 * 3 + t % 3 = t by omega] at h2
    rw [h2]
    have h3 : t % 3 = 0 ∨ t % 3 = 1 ∨ t % 3 = 2 := by omega
    simp only [Builtin.zeroCells]
    rcases h3 with h3 | h3 | h3 <;> simp [ht, h3, mc, zm]
  · rw [List.getElem?_eq_none (by simp [Builtin.zeroCells]; omega), List.getElem?_eq_none (by rw [mcs_length]; simp; omega)]
theorem run_clear_moves (w : World) (ty : TypeId) (b o n c : Nat) (hn : 0 < n) (hc : ∀ j, j < n * 3 → (w.cell? ⟨b, o + j, none⟩).isSome = true) (hf : ∀ j, j < n * 3 → w.frozen? ⟨b, o + j, none⟩ = false) :
    (Builtin.clear_ #[53] ty #[.slice (some ⟨b, o, none⟩) n c]).run Tryz.prog w = .ok (.tuple #[]) (w.setCells b o (mcs (List.replicate n zm))) := by
  have hv : ∀ w, (zeroValue 37).run Tryz.prog w = .ok (.agg #[.int .i64 0, .int .i64 0, .int .i64 0]) w := Tryz.zeroValue37
  have hst := run_storeCells_cells (P := Tryz.prog) b o (mcs (List.replicate n zm)) 0 w (by rw [mcs_length]; simpa using hc) (by rw [mcs_length]; simpa using hf) (mcs_one_cell _)
  simp only [Nat.add_zero] at hst
  obtain ⟨m, rfl⟩ : ∃ m, n = m + 1 := ⟨n - 1, by omega⟩
  have hz := zero_moves (m + 1)
  simp [Builtin.clear_, run_underlying Tryz.underlying53, hv, Value.cells, hz, hst]
end Go.Proofs.YtdhhdkbnlddnbaaGreatDoor

set_option maxRecDepth 100000
namespace Go.Proofs.YtdhhdkbnlddnbaaGreatDoor
open Go.ChangeShapes Go.WideShapes Go.ChangeAt Go.RowKit

theorem row_cell {w : World} {blk off : Nat} {d : Array MoveD} (h : Go.Sort.HoldsK mc 3 w blk off d) {i : Nat} (hi : i < d.size) {a b c : Int} (e : d[i]! = (a, b, c)) :
    w.cell? ⟨blk, off + i * 3, none⟩ = some (.int .i64 a) ∧ w.cell? ⟨blk, off + i * 3 + 1, none⟩ = some (.int .i64 b) ∧ w.cell? ⟨blk, off + i * 3 + 2, none⟩ = some (.int .i64 c) ∧
    w.frozen? ⟨blk, off + i * 3, none⟩ = false ∧ w.frozen? ⟨blk, off + i * 3 + 1, none⟩ = false ∧ w.frozen? ⟨blk, off + i * 3 + 2, none⟩ = false := by
  have h0 := h.cell (c := 0) hi (by decide)
  have h1 := h.cell (c := 1) hi (by decide)
  have h2 := h.cell (c := 2) hi (by decide)
  rw [e] at h0 h1 h2
  exact ⟨h0.1, h1.1, h2.1, h0.2, h1.2, h2.2⟩
theorem row_cells {w : World} {blk off : Nat} {d : Array MoveD} (h : Go.Sort.HoldsK mc 3 w blk off d) {t : Nat} (ht : t < d.size * 3) : (w.cell? ⟨blk, off + t, none⟩).isSome = true ∧ w.frozen? ⟨blk, off + t, none⟩ = false := by
  have h1 := h t (by rw [Go.Sort.size_flatK]; exact ht)
  exact ⟨by rw [h1.1]; rfl, h1.2⟩
def CompPost (blk off cap : Nat) (d : Array MoveD) (w : World) (e : Ending) (w' : World) : Prop :=
  e = .returned (.slice (some ⟨blk, off, none⟩) (Go.Lib.compactUpTo d d.size).length cap) ∧ ∃ q, w' = Go.Sort.putRowK mc 3 (Go.Sort.ahead w q) blk off (Go.Lib.compactUpTo d d.size ++ List.replicate (d.size - (Go.Lib.compactUpTo d d.size).length) zm).toArray
theorem comp_same {w : World} {blk off : Nat} {d : Array MoveD} (hH : Go.Sort.HoldsK mc 3 w blk off d) (q : Nat) (hall : ∀ j, j < d.size → Go.Lib.keeps d j = true) :
    (Go.Lib.compactUpTo d d.size).length = d.size ∧ w.drewN q = Go.Sort.putRowK mc 3 (Go.Sort.ahead w q) blk off (Go.Lib.compactUpTo d d.size ++ List.replicate (d.size - (Go.Lib.compactUpTo d d.size).length) zm).toArray := by
  have e : Go.Lib.compactUpTo d d.size = d.toList := by rw [Go.Lib.compactUpTo_all d _ hall, Go.Lib.range_map_get]
  rw [e]
  refine ⟨by simp, ?_⟩
  simp only [Array.length_toList, Nat.sub_self, List.replicate_zero, List.append_nil, Array.toArray_toList]
  exact (Go.Sort.putRowK_self mc 3 (Go.Sort.ahead w q) blk off d (Go.Sort.holdsK_ahead mc 3 w q blk off d hH)).symm
set_option maxHeartbeats 8000000 in
theorem compact_moves (blk off cap : Nat) (d : Array MoveD) (w : World) (hH : Go.Sort.HoldsK mc 3 w blk off d) (hsz : d.size ≤ 1000) (hcap : d.size ≤ cap) :
    Calls Tryz.prog 79 #[.slice (some ⟨blk, off, none⟩) d.size cap] w (CompPost blk off cap d w) := by
  obtain ⟨n, hn⟩ : ∃ n, n = d.size := ⟨_, rfl⟩
  have HS : Hid (∀ q, (∀ j, j < n → Go.Lib.keeps d j = true) → (Go.Lib.compactUpTo d d.size).length = n ∧ w.drewN q = Go.Sort.putRowK mc 3 (Go.Sort.ahead w q) blk off (Go.Lib.compactUpTo d d.size ++ List.replicate (d.size - (Go.Lib.compactUpTo d d.size).length) zm).toArray) := Lib.hid (fun q h => by
    have := comp_same hH q (by rw [← hn]; exact h)
    exact ⟨by rw [hn]; exact this.1, this.2⟩)
  have heq := eqMove
  have hne := neqMove
  have hgd := guardMove
  have HN := Lib.hid hn
  have HH := Lib.hid hH
  rw [← hn] at hsz hcap ⊢
  clear hn hH
  by_cases h2 : n < 2
  · go_enter Tryz.func79, Tryz.ntmps79
    go_wp2
    go_ret
    obtain ⟨e1, e2⟩ := HS.out 0 (fun j hj => Go.Lib.keeps_lt_one d j (by omega))
    exact ⟨by rw [e1]; rfl, 0, e2⟩
  · go_enter Tryz.func79, Tryz.ntmps79
    go_wp2
    go_loopg [3] n (fun g s3 wr => ∃ k q : Nat, 1 ≤ k ∧ k ≤ n ∧ n - k ≤ g ∧ s3 = .int .i64 k ∧ wr = w.drewN q ∧ Hid (∀ j, j < k → Go.Lib.keeps d j = true))
    case atStart => exact ⟨1, 0, Nat.le_refl _, by omega, by omega, rfl, rfl, Lib.hid (Go.Lib.keeps_lt_one d)⟩
    case round =>
      obtain ⟨k, q, hk1, hk, hg, rfl, rfl, hall⟩ := hrel
      by_cases hlt : k < n
      · obtain ⟨⟨xa, xb, xc⟩, hx⟩ : ∃ x, d[k]! = x := ⟨_, rfl⟩
        obtain ⟨⟨ya, yb, yc⟩, hy⟩ : ∃ x, d[k - 1]! = x := ⟨_, rfl⟩
        obtain ⟨c1, c2, c3, f1, f2, f3⟩ := row_cell (Go.Sort.holdsK_ahead mc 3 w q blk off d HH.out) (by rw [← HN.out]; exact hlt) hx
        obtain ⟨e1, e2, e3, _⟩ := row_cell (Go.Sort.holdsK_ahead mc 3 w q blk off d HH.out) (i := k - 1) (by rw [← HN.out]; omega) hy
        have B := Lib.hid (And.intro hx hy)
        clear hx hy f1 f2 f3
        change (w.drewN q).cell? _ = _ at c1 c2 c3 e1 e2 e3
        generalize hwq : w.drewN q = wq at c1 c2 c3 e1 e2 e3 ⊢
        have HWQ := Lib.hid hwq
        clear hwq
        by_cases hdup : ((xa, xb, xc) : MoveD) = (ya, yb, yc)
        · have hd : sameM (xa, xb, xc) (ya, yb, yc) = true := sameM_eq hdup
          have KK : Hid (Go.Lib.keeps d k = false) := Lib.hid (Go.Lib.keeps_neg (by omega) (by rw [B.out.1, B.out.2]; exact hdup))
          clear hdup B
          go_wp2
          go_quiet (fail)
          go_wp2
          clear c1 c2 c3 e1 e2 e3
          go_loopg [3, 5] n (fun g s3 s5 wr => ∃ (kk k2 q2 : Nat) (dk : Array MoveD), s3 = .int .i64 kk ∧ s5 = .int .i64 k2 ∧ 1 ≤ k2 ∧ k + k2 ≤ n ∧ n - (k + k2) ≤ g ∧ Hid (wr = Go.Sort.putRowK mc 3 (Go.Sort.ahead w q2) blk off dk) ∧ Hid (Go.Lib.CompInv d (k + k2) kk dk))
          case atStart => exact ⟨k, 1, q + nq, d, rfl, rfl, Nat.le_refl _, by omega, by omega, Lib.hid (by rw [← HWQ.out, World.drewN_drewN]; exact (Go.Sort.putRowK_self mc 3 (Go.Sort.ahead w (q + nq)) blk off d (Go.Sort.holdsK_ahead mc 3 w (q + nq) blk off d HH.out)).symm), Lib.hid (Go.Lib.CompInv.start hall.out KK.out)⟩
          case round =>
            obtain ⟨kk, k2, q2, dk, rfl, rfl, h1, hle, hg2, hwr, hI⟩ := hrel
            have hkk := hI.out.lt
            have hds := hI.out.size
            have hHk : Hid (Go.Sort.HoldsK mc 3 wr blk off dk) := Lib.hid (by rw [hwr.out]; exact Go.Sort.holdsK_putRowK mc 3 _ blk off d dk (Go.Sort.holdsK_ahead mc 3 w q2 blk off d HH.out) hds)
            rw [← HN.out] at hds
            by_cases hlt2 : k + k2 < n
            · have hm1 := hI.out.high (k + k2) (by omega)
              have hm2 := hI.out.high (k + k2 - 1) (by omega)
              obtain ⟨⟨ua, ub, uc⟩, hu⟩ : ∃ x, d[k + k2]! = x := ⟨_, rfl⟩
              obtain ⟨⟨va, vb, vc⟩, hv⟩ : ∃ x, d[k + k2 - 1]! = x := ⟨_, rfl⟩
              obtain ⟨⟨oa, ob, oc⟩, ho⟩ : ∃ x, dk[kk]! = x := ⟨_, rfl⟩
              obtain ⟨c1, c2, c3, _⟩ := row_cell hHk.out (i := k + k2) (by omega) (hm1.trans hu)
              obtain ⟨e1, e2, e3, _⟩ := row_cell hHk.out (i := k + k2 - 1) (by omega) (hm2.trans hv)
              obtain ⟨o1, o2, o3, f1, f2, f3⟩ := row_cell hHk.out (i := kk) (by omega) ho
              rw [show off + (k + k2) * 3 = off + k * 3 + k2 * 3 by omega] at c1 c2 c3
              rw [show off + (k + k2 - 1) * 3 = off + k * 3 + (k2 - 1) * 3 by omega] at e1 e2 e3
              have CU := Lib.hid (And.intro hu hv)
              have HDS := Lib.hid hds
              clear hm1 hm2 hu hv ho hHk hds
              by_cases huv : ((ua, ub, uc) : MoveD) = (va, vb, vc)
              · have hd2 : sameM (ua, ub, uc) (va, vb, vc) = true := sameM_eq huv
                have KS : Hid (Go.Lib.CompInv d (k + (k2 + 1)) kk dk) := Lib.hid (hI.out.skip (Go.Lib.keeps_neg (by omega) (by rw [CU.out.1, CU.out.2]; exact huv)))
                clear huv CU hI o1 o2 o3 f1 f2 f3
                go_wp2
                go_quiet (fail)
                go_wp2
                go_roundg (n - (k + (k2 + 1)))
                case measure => omega
                case rel => exact ⟨kk, k2 + 1, q2 + nq, dk, rfl, by go_num, by omega, by omega, Nat.le_refl _, Lib.hid (by rw [hwr.out]; exact Go.Sort.putRowK_drewN mc 3 w q2 nq blk off dk), KS⟩
              · have hd2 : sameM (ua, ub, uc) (va, vb, vc) = false := sameM_ne huv
                have KS : Hid (Go.Lib.CompInv d (k + (k2 + 1)) (kk + 1) (dk.setIfInBounds kk (ua, ub, uc))) := Lib.hid (by
                  have h := hI.out.keep (by rw [← HN.out]; exact hlt2) (Go.Lib.keeps_pos (by rw [CU.out.1, CU.out.2]; exact huv))
                  rw [CU.out.1] at h; exact h)
                clear huv CU hI
                go_wp2
                go_quiet (fail)
                go_wp2
                go_roundg (n - (k + (k2 + 1)))
                case measure => omega
                case rel => exact ⟨kk + 1, k2 + 1, q2 + nq, dk.setIfInBounds kk (ua, ub, uc), by go_num, by go_num, by omega, by omega, Nat.le_refl _, Lib.hid (by rw [hwr.out, Go.Sort.putRowK_drewN mc 3 w q2 nq blk off dk]; exact put_move (by have := HDS.out; omega) (ua, ub, uc)), KS⟩
            · have hend : k + k2 = n := by omega
              have hcl : ∀ ty, (Builtin.clear_ #[53] ty #[.slice (some ⟨blk, off + kk * 3, none⟩) (n - kk) (cap - kk)]).run Tryz.prog wr = .ok (.tuple #[]) (wr.setCells blk (off + kk * 3) (mcs (List.replicate (n - kk) zm))) := fun ty =>
                run_clear_moves wr ty blk (off + kk * 3) (n - kk) (cap - kk) (by omega) (fun j hj => by rw [Nat.add_assoc]; exact (row_cells hHk.out (by omega)).1) (fun j hj => by rw [Nat.add_assoc]; exact (row_cells hHk.out (by omega)).2)
              have HE : Hid ((Go.Lib.compactUpTo d d.size).length = kk) := Lib.hid (by have := hI.out.len; rwa [hend, HN.out] at this)
              have HW : Hid (wr.setCells blk (off + kk * 3) (mcs (List.replicate (n - kk) zm)) = Go.Sort.putRowK mc 3 (Go.Sort.ahead w q2) blk off (Go.Lib.compactUpTo d d.size ++ List.replicate (d.size - (Go.Lib.compactUpTo d d.size).length) zm).toArray) := Lib.hid (by
                have hi2 := hI.out
                rw [hend, HN.out] at hi2
                rw [HE.out, ← hi2.done zm, hwr.out, put_moves _ blk off _ dk kk (by simp; omega), HN.out])
              clear hI hHk hwr
              go_wp2
              go_ret
              exact ⟨by rw [HE.out]; rfl, q2, HW.out⟩
        · have hd : sameM (xa, xb, xc) (ya, yb, yc) = false := sameM_ne hdup
          have KA : Hid (∀ j, j < k + 1 → Go.Lib.keeps d j = true) := Lib.hid (fun j hj => by
            by_cases e : j = k
            · subst e; exact Go.Lib.keeps_pos (by rw [B.out.1, B.out.2]; exact hdup)
            · exact hall.out j (by omega))
          clear hdup
          go_wp2
          go_quiet (fail)
          go_wp2
          go_roundg (n - (k + 1))
          case measure => omega
          case rel => exact ⟨k + 1, q + nq, by omega, by omega, Nat.le_refl _, by go_num, by rw [← HWQ.out, World.drewN_drewN], KA⟩
      · obtain rfl : k = n := by omega
        go_wp2
        go_ret
        obtain ⟨e1, e2⟩ := HS.out q hall.out
        exact ⟨by rw [e1]; rfl, q, e2⟩

/-! ### What a sorted row is compacted to -/
def nth0 (S : List Int) (j : Nat) : Int := S[j]?.getD 0
theorem row_get (S : List Int) (src : Int) (kf : Int → Int) {j : Nat} (hj : j < S.length) : (S.map (mvF src kf)).toArray[j]! = mvF src kf (nth0 S j) := by
  simp [hj, nth0]
theorem comp_facts (S : List Int) (src : Int) (kf : Int → Int) (hS : ∀ i j, i ≤ j → j < S.length → nth0 S i ≤ nth0 S j) : ∀ m, m ≤ S.length →
    (∀ x ∈ Go.Lib.compactUpTo (S.map (mvF src kf)).toArray m, ∃ j, j < m ∧ x = mvF src kf (nth0 S j)) ∧
    ((Go.Lib.compactUpTo (S.map (mvF src kf)).toArray m).map fun x => x.2.1).Pairwise (· < ·) ∧
    ∀ j, j < m → nth0 S j ∈ (Go.Lib.compactUpTo (S.map (mvF src kf)).toArray m).map fun x => x.2.1
  | 0, _ => by simp [Go.Lib.compactUpTo]
  | m + 1, hm => by
    obtain ⟨h1, h2, h3⟩ := comp_facts S src kf hS m (by omega)
    rw [Go.Lib.compactUpTo_succ, row_get S src kf (by omega)]
    by_cases hk : Go.Lib.keeps (S.map (mvF src kf)).toArray m = true
    · rw [if_pos hk]
      refine ⟨fun x hx => ?_, ?_, fun j hj => ?_⟩
      · rcases List.mem_append.1 hx with h | h
        · obtain ⟨j, hj, e⟩ := h1 x h; exact ⟨j, by omega, e⟩
        · rw [List.mem_singleton] at h; exact ⟨m, by omega, h⟩
      · rw [List.map_append, List.pairwise_append]
        refine ⟨h2, by simp, fun a ha b hb => ?_⟩
        have hb2 : b = nth0 S m := by simpa [mvF] using hb
        obtain ⟨x, hx, rfl⟩ := List.mem_map.1 ha
        obtain ⟨j, hj, rfl⟩ := h1 x hx
        have h4 : (mvF src kf (nth0 S j)).2.1 = nth0 S j := rfl
        rw [h4, hb2]
        have h5 : nth0 S j ≤ nth0 S (m - 1) := hS j (m - 1) (by omega) (by omega)
        have h6 : nth0 S (m - 1) ≤ nth0 S m := hS (m - 1) m (by omega) (by omega)
        have h7 : nth0 S m ≠ nth0 S (m - 1) := by
          intro e
          unfold Go.Lib.keeps at hk
          rw [row_get S src kf (by omega), row_get S src kf (by omega), e] at hk
          simp at hk
          omega
        omega
      · rw [List.map_append]
        by_cases e : j = m
        · subst e; exact List.mem_append.2 (.inr (by simp [mvF]))
        · exact List.mem_append.2 (.inl (h3 j (by omega)))
    · rw [if_neg hk, List.append_nil]
      refine ⟨fun x hx => ?_, h2, fun j hj => ?_⟩
      · obtain ⟨j, hj, e⟩ := h1 x hx; exact ⟨j, by omega, e⟩
      · by_cases e : j = m
        · subst e
          have h4 : j ≠ 0 ∧ mvF src kf (nth0 S j) = mvF src kf (nth0 S (j - 1)) := by
            unfold Go.Lib.keeps at hk
            rw [row_get S src kf (by omega), row_get S src kf (by omega)] at hk
            simp at hk
            exact hk
          have h5 : nth0 S j = nth0 S (j - 1) := congrArg (fun x : MoveD => x.2.1) h4.2
          rw [h5]
          exact h3 (j - 1) (by omega)
        · exact h3 j (by omega)
theorem sortTo_asc (zs : List Int) : ∀ i j, i ≤ j → j < (sortTo zs).length → nth0 (sortTo zs) i ≤ nth0 (sortTo zs) j := by
  intro i j hij hj
  have hp : (sortTo zs).Pairwise (fun x y => (!(ltOf toCmp) y x) = true) := List.pairwise_mergeSort (le := fun x y => !(ltOf toCmp) y x) (fun a b c h1 h2 => by rw [ltTo] at *; simp at *; omega) (fun a b => by rw [ltTo, ltTo]; simp; omega) zs
  by_cases e : i = j
  · subst e; exact Int.le_refl _
  · have h := List.pairwise_iff_getElem.1 hp i j (by omega) hj (by omega)
    rw [ltTo] at h
    simp only [nth0, List.getElem?_eq_getElem hj, List.getElem?_eq_getElem (show i < (sortTo zs).length by omega), Option.getD_some]
    simpa using h
theorem sortTo_mem (zs : List Int) (x : Int) : x ∈ sortTo zs ↔ x ∈ zs := (List.mergeSort_perm zs _).mem_iff
theorem sortTo_len (zs : List Int) : (sortTo zs).length = zs.length := by rw [sortTo, List.length_mergeSort]
theorem comp_sorted {p : PlaceD} (zs : List Int) (src : Int) (kf : Int → Int) (hz : ∀ t ∈ zs, t ∈ squares p) :
    Go.Lib.compactUpTo ((sortTo zs).map (mvF src kf)).toArray zs.length = ((squares p).filter fun t => decide (t ∈ zs)).map (mvF src kf) := by
  obtain ⟨h1, h2, h3⟩ := comp_facts (sortTo zs) src kf (sortTo_asc zs) zs.length (by rw [sortTo_len]; exact Nat.le_refl _)
  generalize Go.Lib.compactUpTo ((sortTo zs).map (mvF src kf)).toArray zs.length = L at h1 h2 h3 ⊢
  have e1 : L.map (fun x => x.2.1) = (squares p).filter fun t => decide (t ∈ zs) := by
    refine asc_ext h2 ((squares_asc p).sublist List.filter_sublist) fun x => ?_
    rw [List.mem_filter, decide_eq_true_eq]
    constructor
    · intro hx
      obtain ⟨y, hy, rfl⟩ := List.mem_map.1 hx
      obtain ⟨j, hj, rfl⟩ := h1 y hy
      have hm : nth0 (sortTo zs) j ∈ zs := by
        rw [← sortTo_mem, nth0, List.getElem?_eq_getElem (by rw [sortTo_len]; exact hj)]
        exact List.getElem_mem _
      exact ⟨hz _ hm, hm⟩
    · rintro ⟨_, hx⟩
      rw [← sortTo_mem] at hx
      obtain ⟨j, hj⟩ := List.getElem?_of_mem hx
      have hjl := (List.getElem?_eq_some_iff.1 hj).1
      have h := h3 j (by rw [sortTo_len] at hjl; exact hjl)
      rw [nth0, hj] at h
      exact h
  rw [← e1, List.map_map]
  symm
  have e2 : L.map (mvF src kf ∘ fun x => x.2.1) = L.map id := by
    apply List.map_congr_left
    intro x hx
    obtain ⟨j, _, rfl⟩ := h1 x hx
    rfl
  rw [e2, List.map_id]
theorem comp_len (ms : List MoveD) (n : Nat) : (Go.Lib.compactUpTo ms.toArray n).length ≤ n := by
  rw [Go.Lib.compactUpTo, List.length_map]
  have := List.length_filter_le (Go.Lib.keeps ms.toArray) (List.range n)
  simpa using this
theorem compact_own {w : World} {base n : Nat} {v : Value} {ms : List MoveD} (h : w.ownsRow base 37 3 v n (mcs ms)) (hn : 1 ≤ n) (h64 : n ≤ 1000) :
    Calls Tryz.prog 79 #[v] w fun en w' => ∃ a m c, en = .returned (.slice a m c) ∧ IsSl MoveAt 3 w' (.slice a m c) (Go.Lib.compactUpTo ms.toArray n) ∧ (a = none → m = 0 ∧ c = 0) ∧ ∀ w0, Below base w0 w → base ≤ w.heap.size → Below base w0 w' := by
  have hl : ms.length = n := by have := h.1; rw [mcs_length] at this; omega
  rcases h.2 with ⟨_, h0⟩ | ⟨g, cap, cur, rfl, hb, hg, hnc, hcm, hcs, ht⟩
  · omega
  · have hle := comp_len ms n
    have hH : Go.Sort.HoldsK mc 3 w g 0 ms.toArray := by
      unfold Go.Sort.HoldsK
      rw [flat_moves]
      exact holds_of_row hg (by rw [mcs_length, hl]; exact ht)
    have hcon := compact_moves g 0 cap ms.toArray w hH (by simp; omega) (by simp; omega)
    have hsz : ms.toArray.size = n := by simpa using hl
    rw [hsz] at hcon
    refine hcon.mono ?_
    rintro en w' ⟨rfl, q, rfl⟩
    rw [hsz]
    have hcl : (Go.Lib.compactUpTo ms.toArray n ++ List.replicate (n - (Go.Lib.compactUpTo ms.toArray n).length) zm).length = n := by
      rw [List.length_append, List.length_replicate]; omega
    have hw : Go.Sort.putRowK mc 3 (Go.Sort.ahead w q) g 0 (Go.Lib.compactUpTo ms.toArray n ++ List.replicate (n - (Go.Lib.compactUpTo ms.toArray n).length) zm).toArray = Go.Sort.grow (Go.Sort.putRow id (Go.Sort.ahead w q) g 0 (mcs (Go.Lib.compactUpTo ms.toArray n ++ List.replicate (n - (Go.Lib.compactUpTo ms.toArray n).length) zm)).toArray) #[] := by
      unfold Go.Sort.putRowK
      rw [flat_moves, Go.Sort.grow_empty]
    rw [hw]
    have ho := ownsRow_put (w := w) (base := base) (g := g) (cap := cap) (n := n) (q := q) (os := #[]) (ts := mcs (Go.Lib.compactUpTo ms.toArray n ++ List.replicate (n - (Go.Lib.compactUpTo ms.toArray n).length) zm)) (by rw [mcs_length, hcl]) hb hg hnc hcm hcs
    have hI := moves_of_owns ho
    refine ⟨_, _, _, rfl, ?_, (fun h => by cases h), fun w0 hB hle => hB.grown (grownBy_put _) hle (fun k e => by cases e; exact hb)⟩
    have h2 := hI.part (Go.Lib.compactUpTo ms.toArray n).length hle
    rwa [List.take_left] at h2
end Go.Proofs.YtdhhdkbnlddnbaaGreatDoor

set_option maxRecDepth 100000
namespace Go.Proofs.YtdhhdkbnlddnbaaGreatDoor
open Go.ChangeShapes Go.WideShapes Go.ChangeAt Go.RowKit

theorem sort_none {a : Option Addr} {c : Nat} (w : World) : Calls Tryz.prog 76 #[.slice a 0 c, .func (.func 77) #[] #[]] w fun e w' => e = .returned (.tuple #[]) ∧ w' = w := by
  have h := AnyF.slices_SortFunc_none Tryz.sortMove a c (.func (.func 77) #[] #[]) w
  exact h
theorem compact_none (a : Option Addr) (c : Nat) (w : World) : Calls Tryz.prog 79 #[.slice a 0 c] w fun e w' => e = .returned (.slice a 0 c) ∧ w' = w := by
  go_enter Tryz.func79, Tryz.ntmps79
  go_wp2
  go_ret
  exact ⟨rfl, rfl⟩
theorem owns_other {W W' : World} {B B' : Nat} {e e' : TypeId} {k k' : Nat} {v v' : Value} {n n' : Nat} {xs xs' : List Value} (h : W.ownsRow B e k v n xs) (h2 : W.ownsRow B' e' k' v' n' xs') (he : e ≠ e') (hg : W.grownBy W' v'.ownBlock) : W'.ownsRow B e k v n xs := by
  refine ⟨h.1, ?_⟩
  rcases h.2 with h3 | ⟨g, cap, cur, e1, e2, e3, e4⟩
  · exact .inl h3
  · refine .inr ⟨g, cap, cur, e1, e2, (hg.block g (Array.getElem?_eq_some_iff.1 e3).1 ?_).trans e3, e4⟩
    rcases h2.2 with ⟨rfl, _⟩ | ⟨g', cap', cur', rfl, _, e5, _⟩
    · intro h; cases h
    · intro h
      have h6 : g = g' := by simpa [Value.ownBlock] using h
      subst h6
      rw [e3] at e5
      simp at e5
      exact he e5.2
theorem iv_length (L : List Int) : (iv L).length = L.length := by simp [iv]
theorem owns_at {W : World} {B : Nat} {e : TypeId} {a : Option Addr} {n c : Nat} {L : List Int} (h : W.ownsRow B e 1 (.slice a n c) n (iv L)) {q : Nat} (hq : q < n) : ∃ g t, a = some ⟨g, 0, none⟩ ∧ L[q]? = some t ∧ q < c ∧ W.cell? ⟨g, q, none⟩ = some (.int .i64 t) := by
  have hl : L.length = n := by have := h.1; rw [iv_length] at this; omega
  rcases h.2 with ⟨h1, h2⟩ | ⟨g, cap, cur, e1, _, _, e4, _⟩
  · omega
  · simp only [Value.slice.injEq] at e1
    obtain ⟨rfl, _, rfl⟩ := e1
    have hql : q < L.length := by omega
    have h2 := h.cellAt q (by omega)
    refine ⟨g, L[q], rfl, List.getElem?_eq_getElem hql, by omega, ?_⟩
    rw [h2, iv, List.getElem?_map, List.getElem?_eq_getElem hql]; rfl
def tosTo (r : RulesD) (p : PlaceD) (src : Int) (j : Nat) : List Int := ((pieceOf r (kindOfI (cellI p src))).ways.take j).flatMap (reachOf r p src)
theorem tosTo_succ {r : RulesD} {p : PlaceD} {src : Int} {j : Nat} {y : WayD} (h : (pieceOf r (kindOfI (cellI p src))).ways[j]? = some y) : tosTo r p src (j + 1) = tosTo r p src j ++ reachOf r p src y := by
  unfold tosTo
  rw [List.take_add_one, h, List.flatMap_append]
  simp
theorem tosTo_all {r : RulesD} {p : PlaceD} {src : Int} {j : Nat} (h : (pieceOf r (kindOfI (cellI p src))).ways.length ≤ j) : tosTo r p src j = tosD r p src := by
  unfold tosTo tosD; rw [List.take_of_length_le h]
theorem reachOf_length {r : RulesD} {p : PlaceD} {src : Int} {y : WayD} (h : wayB y = true) : (reachOf r p src y).length ≤ 7 := by
  have h1 := reach_length r p y.dx (upI p y.dy) y.take y.most.toNat (src % r.width) (src / r.width)
  obtain ⟨_, _, _, h4, _⟩ := way_facts h
  unfold reachOf; omega
theorem tosTo_length {r : RulesD} {p : PlaceD} {src : Int} (h : ∀ y ∈ (pieceOf r (kindOfI (cellI p src))).ways, wayB y = true) (hl : (pieceOf r (kindOfI (cellI p src))).ways.length ≤ 16) (j : Nat) : (tosTo r p src j).length ≤ 112 := by
  have h1 := flat_length (reachOf r p src) 7 ((pieceOf r (kindOfI (cellI p src))).ways.take j) fun y hy => reachOf_length (h y (List.mem_of_mem_take hy))
  rw [List.length_take] at h1
  unfold tosTo; omega
theorem reachOf_in {r : RulesD} {p : PlaceD} (h : POkay r p) {src : Int} {y : WayD} {t : Int} (ht : t ∈ reachOf r p src y) : 0 ≤ t ∧ t < p.cells.length := reach_in h _ _ _ _ _ _ _ ht
set_option maxHeartbeats 8000000 in
theorem allFrom_hand (r : RulesD) (p : PlaceD) (vp vs ve vc v0 v1 : Value) (w : World) (hp : PlaceIn w p vc v0 v1) (hk : POkay r p) :
    Calls Tryz.prog 50 #[RulesV r vp vs ve, PlaceV p vc v0 v1, .int .i64 (-1)] w (SlPost MoveAt 3 (putsD r p) w) := by
  obtain ⟨hB, hY, hX⟩ := rp_boxes w r p vp vs ve vc v0 v1
  have HPU := Lib.hid (puts_any r p vp vs ve vc v0 v1 _ (hp.below hB (Nat.le_refl _)) hk)
  have HB := Lib.hid hB
  unfold RulesCells PlaceCells at HB hY hX HPU
  unfold RulesV PlaceV PlaceCells at HPU ⊢
  obtain ⟨x0, x1, x2, x3, x4⟩ := hX
  obtain ⟨y0, y1, y2, y3, y4, y5, y6, y7, y8, y9, y10⟩ := hY
  clear hp hk hB
  go_enter Tryz.func50, Tryz.ntmps50
  go_wp2_with fail
  go_at_call 72; refine HPU.out.mono ?_; rintro e w1 ⟨a, n, c, rfl, hI, hnil, hb⟩
  have HB1 := Lib.hid (HB.out.trans (hb.mono HB.out.size))
  have HI := Lib.hid hI
  have HNI := Lib.hid hnil
  clear hI hnil hb HB x0 x1 x2 x3 x4 y0 y1 y2 y3 y4 y5 y6 y7 y8 y9 y10
  go_wp2_with fail
  go_ret
  exact ⟨a, n, c, rfl, HI.out, HNI.out, HB1.out⟩
set_option maxHeartbeats 8000000 in
theorem allFrom_not (r : RulesD) (p : PlaceD) (vp vs ve vc v0 v1 : Value) (s : Nat) (w : World) (hp : PlaceIn w p vc v0 v1) (hk : POkay r p) (hs : s < p.cells.length) (hio : isOfB (cellI p (s : Int)) p.turn = false) :
    Calls Tryz.prog 50 #[RulesV r vp vs ve, PlaceV p vc v0 v1, .int .i64 (s : Int)] w (SlPost MoveAt 3 (fromD r p (s : Int)) w) := by
  have hcl := cells_len hk
  obtain ⟨g, off, cc, rfl, hcc, hcell⟩ := ints_open hp.c hcl.1
  obtain ⟨m, hm⟩ : ∃ m, m = p.cells.length := ⟨_, rfl⟩
  rw [← hm] at hp hcc hcell hcl hs ⊢
  obtain ⟨hB, hY, hX⟩ := rp_boxes w r p vp vs ve (.slice (some ⟨g, off, none⟩) m cc) v0 v1
  have HB := Lib.hid hB
  have KE : Hid (fromD r p (s : Int) = []) := Lib.hid (by unfold fromD; rw [hio]; rfl)
  obtain ⟨c, hc⟩ : ∃ c, c = cellI p (s : Int) := ⟨_, rfl⟩
  have hcr := cell_in hk (s : Int)
  rw [← hc] at hcr hio
  have hnl := (pieces_len hk.e).2
  have hc1 : c ≤ 1000 := by omega
  have hc0 := hcr.1
  have hC0 := cell_keeps hB (Nat.le_refl _) (hcell s hs)
  rw [show p.cells[s]?.getD 0 = c by rw [hc, cellI, Int.toNat_natCast]] at hC0
  have HIS : Hid (∀ W, Calls Tryz.prog 73 #[.int .i64 c, .int .i64 p.turn] W fun e w' => e = .returned (.bool false) ∧ W = w') := Lib.hid (fun W => by rw [← hio]; exact turned (mIsOf_any c p.turn W hc0 hc1))
  have hsc : s < cc := by omega
  have hneg : ((s : Int) == -1) = false := by simp
  unfold RulesCells PlaceCells at HB hX hC0
  unfold RulesV PlaceV PlaceCells
  obtain ⟨x0, x1, x2, x3, x4⟩ := hX
  clear hp hk hcell hB hY hio hc hm
  go_enter Tryz.func50, Tryz.ntmps50
  go_wp2_with fail
  go_at_call 73; refine (HIS.out _).mono ?_; rintro e w1 ⟨rfl, rfl⟩
  go_wp2_with fail
  go_ret
  exact ⟨_, _, _, rfl, by rw [KE.out]; exact .inl ⟨rfl, _, _, rfl⟩, (fun _ => ⟨rfl, rfl⟩), HB.out⟩
set_option maxHeartbeats 8000000 in
theorem allFrom_yes (r : RulesD) (p : PlaceD) (vp vs ve vc v0 v1 : Value) (s : Nat) (w : World) (hr : IsRules w r vp vs ve) (hp : PlaceIn w p vc v0 v1) (hk : POkay r p) (hs : s < p.cells.length) (hio : isOfB (cellI p (s : Int)) p.turn = true) :
    Calls Tryz.prog 50 #[RulesV r vp vs ve, PlaceV p vc v0 v1, .int .i64 (s : Int)] w (SlPost MoveAt 3 (fromD r p (s : Int)) w) := by
  obtain ⟨i0, hi, hz0, hz1, hz2⟩ := info_parts infoMove
  have hcl := cells_len hk
  obtain ⟨g, off, cc, rfl, hcc, hcell⟩ := ints_open hp.c hcl.1
  obtain ⟨m, hm⟩ : ∃ m, m = p.cells.length := ⟨_, rfl⟩
  rw [← hm] at hp hcc hcell hcl hs ⊢
  have hcn : cellI p (s : Int) ≠ 0 := by
    intro e; unfold isOfB at hio; rw [e] at hio; simp at hio
  have hkd := kind_in hk hcn
  obtain ⟨jk, hjk⟩ : ∃ jk : Nat, kindOfI (cellI p (s : Int)) = (jk : Int) := ⟨(kindOfI (cellI p (s : Int))).toNat, by omega⟩
  rw [hjk] at hkd
  obtain ⟨_, _, hwl, hwg⟩ := ways_good hk.e hkd.1 hkd.2
  obtain ⟨n, hn⟩ : ∃ n, n = r.pieces.length := ⟨_, rfl⟩
  obtain ⟨ap, cp, rfl, hcp, hpc⟩ := hr.1.shape hn
  have hjn : jk < n := by omega
  have hn6 : n ≤ 6 := by have := (pieces_len hk.e).2; omega
  obtain ⟨gp, op, x, rfl, hx, hq⟩ := hpc jk hjn
  have hxp : pieceOf r (jk : Int) = x := by
    have h := pieceOf_in (r := r) hkd.2 hkd.1
    rw [Int.toNat_natCast, hx] at h
    exact (Option.some.inj h).symm
  rw [hxp] at hwl hwg
  obtain ⟨hB, hY, hX⟩ := rp_boxes w r p (.slice (some ⟨gp, op, none⟩) n cp) vs ve (.slice (some ⟨g, off, none⟩) m cc) v0 v1
  obtain ⟨V, hV⟩ : ∃ V, V = ((w.alloc (.cells (RulesCells r (.slice (some ⟨gp, op, none⟩) n cp) vs ve) 26)).alloc (.cells (PlaceCells p (.slice (some ⟨g, off, none⟩) m cc) v0 v1) 29)) := ⟨_, rfl⟩
  rw [← hV] at hB hY hX
  obtain ⟨u, _, _, _, d3, hu⟩ := piece_keeps _ _ _ _ _ _ hB (Nat.le_refl _) hq
  obtain ⟨nw, hnw⟩ : ∃ nw, nw = x.ways.length := ⟨_, rfl⟩
  obtain ⟨au, cu, rfl, hcu, huc⟩ := hu.shape hnw
  rw [← hnw] at hwl
  have HB := Lib.hid hB
  have HRI : Hid (∀ W, Below V.heap.size V W → IsRules W r (.slice (some ⟨gp, op, none⟩) n cp) vs ve) := Lib.hid (fun W hb => (hr.below hB (Nat.le_refl _)).below hb (Nat.le_refl _))
  have HPI : Hid (∀ W, Below V.heap.size V W → PlaceIn W p (.slice (some ⟨g, off, none⟩) m cc) v0 v1) := Lib.hid (fun W hb => (hp.below hB (Nat.le_refl _)).below hb (Nat.le_refl _))
  have HX : Hid (∀ W, Below V.heap.size V W → BoxP W (w.heap.size + 1) p (.slice (some ⟨g, off, none⟩) m cc) v0 v1) := Lib.hid (fun W hb => hX.below hb (Nat.le_refl _))
  have HY : Hid (∀ W, Below V.heap.size V W → BoxR W w.heap.size r (.slice (some ⟨gp, op, none⟩) n cp) vs ve) := Lib.hid (fun W hb => hY.below hb (Nat.le_refl _))
  have HU : Hid (∀ W, Below V.heap.size V W → ∀ j, j < nw → ∃ g' o' y, au = some ⟨g', o', none⟩ ∧ x.ways[j]? = some y ∧ WayAt W g' (o' + j * 4) y) := Lib.hid (fun W hb j hj => by
    obtain ⟨g', o', y, e1, e2, e3⟩ := huc j hj
    exact ⟨g', o', y, e1, e2, way_keeps _ _ _ _ _ _ hb (Nat.le_refl _) e3⟩)
  have t0 := hk.t0
  have t1 := hk.t1
  obtain ⟨kf, hkf⟩ : ∃ kf : Int → Int, kf = fun t => kindAtI r p.turn (jk : Int) t := ⟨_, rfl⟩
  have HFD : Hid (fromD r p (s : Int) = ((squares p).filter fun t => decide (t ∈ tosD r p (s : Int))).map (mvF (s : Int) kf)) := Lib.hid (by
    unfold fromD; rw [if_pos hio, hkf]
    apply List.map_congr_left
    intro t _
    rw [mkFrom, hjk]; rfl)
  have HKA : Hid (∀ t : Int, 0 ≤ t → t < m → ∀ W, Below V.heap.size V W → Calls Tryz.prog 75 #[RulesV r (.slice (some ⟨gp, op, none⟩) n cp) vs ve, .int .i64 p.turn, .int .i64 (jk : Int), .int .i64 t] W (BelPost (.int .i64 (kf t)) W)) := Lib.hid (fun t h0 h1 W hb => by
    rw [hkf]
    exact kindAt_any r _ vs ve p.turn (jk : Int) t W ((hr.below hB (Nat.le_refl _)).below hb (Nat.le_refl _)) hk.e t0 t1 hkd.1 hkd.2 h0 (by omega))
  have HRE : Hid (∀ j y, x.ways[j]? = some y → ∀ W, Below V.heap.size V W → Calls Tryz.prog 74 #[RulesV r (.slice (some ⟨gp, op, none⟩) n cp) vs ve, PlaceV p (.slice (some ⟨g, off, none⟩) m cc) v0 v1, .int .i64 (s : Int), .agg #[.int .i64 y.dx, .int .i64 y.dy, .int .i64 y.most, .int .i64 y.take]] W (OwnPost 3 1 (reachOf r p (s : Int) y).length (iv (reachOf r p (s : Int) y)) W)) := Lib.hid (fun j y hy W hb =>
    reached_any r p _ vs ve _ v0 v1 (s : Int) y W ((hp.below hB (Nat.le_refl _)).below hb (Nat.le_refl _)) hk (by omega) (by rw [← hm]; omega) (hwg y (List.mem_of_getElem? hy)))
  have HTI : Hid (∀ y t, t ∈ reachOf r p (s : Int) y → 0 ≤ t ∧ t < m) := Lib.hid (fun y t h => by rw [hm]; exact reachOf_in hk h)
  have HTD : Hid (∀ t, t ∈ tosD r p (s : Int) → t ∈ squares p) := Lib.hid (fun t h => squares_mem.2 (tos_in hk h))
  have HTS : Hid (∀ j y, x.ways[j]? = some y → tosTo r p (s : Int) (j + 1) = tosTo r p (s : Int) j ++ reachOf r p (s : Int) y) := Lib.hid (fun j y h => tosTo_succ (by rw [hjk, hxp]; exact h))
  have HTA : Hid (tosTo r p (s : Int) nw = tosD r p (s : Int)) := Lib.hid (tosTo_all (by rw [hjk, hxp, hnw]; exact Nat.le_refl _))
  have HTL : Hid (∀ j, (tosTo r p (s : Int) j).length ≤ 112) := Lib.hid (fun j => tosTo_length (by rw [hjk, hxp]; exact hwg) (by rw [hjk, hxp, ← hnw]; exact hwl) j)
  have HT0 : Hid (tosTo r p (s : Int) 0 = []) := Lib.hid rfl
  obtain ⟨c, hc⟩ : ∃ c, c = cellI p (s : Int) := ⟨_, rfl⟩
  have hcr := cell_in hk (s : Int)
  rw [← hc, ← hn] at hcr
  rw [← hc] at hio hcn hjk
  have hc1 : c ≤ 1000 := by omega
  have hc0 : 1 ≤ c := by omega
  have hC0 := cell_keeps hB (Nat.le_refl _) (hcell s hs)
  rw [show p.cells[s]?.getD 0 = c by rw [hc, cellI, Int.toNat_natCast]] at hC0
  have HIS : Hid (∀ W, Calls Tryz.prog 73 #[.int .i64 c, .int .i64 p.turn] W fun e w' => e = .returned (.bool true) ∧ W = w') := Lib.hid (fun W => by rw [← hio]; exact turned (mIsOf_any c p.turn W (by omega) hc1))
  have HKO : Hid (∀ W, Calls Tryz.prog 55 #[.int .i64 c] W fun e w' => e = .returned (.int .i64 (jk : Int)) ∧ W = w') := Lib.hid (fun W => by rw [← hjk]; exact turned (mKindOf_any c W hc0 hc1))
  have hsc : s < cc := by omega
  have hjc : jk < cp := by omega
  have hneg : ((s : Int) == -1) = false := by simp
  unfold RulesCells PlaceCells at hV
  unfold RulesV at HKA HRE ⊢
  unfold PlaceV PlaceCells at HRE
  unfold PlaceV PlaceCells
  obtain ⟨x0, x1, x2, x3, x4⟩ := hX
  obtain ⟨y0, y1, y2, y3, y4, y5, y6, y7, y8, y9, y10⟩ := hY
  rw [hV] at x0 x3 y3 d3 hC0
  have hm64 := hcl.2
  clear hr hp hk hcell hB hio hc hcn hjk hxp hx hq hu huc hwg hn hkf hkd hpc x1 x2 x4 y0 y1 y2 y4 y5 y6 y7 y8 y9 y10 hnw hm
  go_enter Tryz.func50, Tryz.ntmps50
  go_wp2_with fail
  go_at_call 73; refine (HIS.out _).mono ?_; rintro e w1 ⟨rfl, rfl⟩
  go_wp2_with fail
  go_at_call 55; refine (HKO.out _).mono ?_; rintro e w1 ⟨rfl, rfl⟩
  go_wp2
  rw [← hV]
  clear hV x0 x3 y3 d3 hC0
  go_loopw [8, 11, 13, 38] (fun l _ _ i wr => ∃ j : Nat, j ≤ nw ∧ i = .int .i64 (j : Int) ∧ wr.ownsRow V.heap.size 37 3 l (tosTo r p (s : Int) j).length (mcs ((tosTo r p (s : Int) j).map (mvF (s : Int) kf))) ∧ Hid (Below V.heap.size V wr)) (fun _ _ _ i _ => nw - (intOf i).toNat)
  case atStart => exact ⟨0, by omega, rfl, by rw [HT0.out]; exact World.ownsRow_nil _ _ _ _, Lib.hid (Below.refl _ _)⟩
  case round =>
    obtain ⟨j, hjw, rfl, hown, hbel⟩ := hrel
    obtain ⟨la, lc, rfl⟩ := owns_form hown
    by_cases hlt : j < nw
    · obtain ⟨x0, x1, x2, x3, x4⟩ := HX.out wr hbel.out
      obtain ⟨y0, y1, y2, y3, y4, y5, y6, y7, y8, y9, y10⟩ := HY.out wr hbel.out
      obtain ⟨g', o', y, rfl, hyj, z0, z1, z2, z3⟩ := HU.out wr hbel.out j hlt
      have hjcu : j < cu := by omega
      have HYJ := Lib.hid hyj
      have hbW : Below V.heap.size V (wr.alloc (.cells #[.int .i64 y.dx, .int .i64 y.dy, .int .i64 y.most, .int .i64 y.take] 94)) := hbel.out.alloc hbel.out.size _
      have HBW := Lib.hid hbW
      obtain ⟨u0, u1, u2, u3, u4⟩ := HX.out _ hbW
      obtain ⟨v0', v1', v2', v3', v4', v5', v6', v7', v8', v9', v10'⟩ := HY.out _ hbW
      have HO := Lib.hid (owns_below hown ((Below.refl wr.heap.size wr).alloc (Nat.le_refl _) (.cells #[.int .i64 y.dx, .int .i64 y.dy, .int .i64 y.most, .int .i64 y.take] 94)))
      clear hyj hbW hown hbel x0 x1 x2 x3 x4 y0 y1 y2 y3 y4 y5 y6 y7 y8 y9 y10
      go_wp2_with fail
      go_at_call 74; refine (HRE.out j y HYJ.out _ HBW.out).mono ?_; rintro e w1 ⟨ra, rc, rfl, hri, hb1⟩
      have HB1 : Hid (Below V.heap.size V w1) := Lib.hid (HBW.out.trans (hb1.mono HBW.out.size))
      have HO1 := Lib.hid (owns_below HO.out hb1)
      have HTS1 := Lib.hid (HTS.out j y HYJ.out)
      have HTI1 := Lib.hid (HTI.out y)
      clear hb1 HO HBW u0 u1 u2 u3 u4 v0' v1' v2' v3' v4' v5' v6' v7' v8' v9' v10' z0 z1 z2 z3
      obtain ⟨L, hL⟩ : ∃ L, L = reachOf r p (s : Int) y := ⟨_, rfl⟩
      rw [← hL] at hri HTS1 HTI1 ⊢
      obtain ⟨rn, hnr⟩ : ∃ rn, rn = L.length := ⟨_, rfl⟩
      rw [← hnr] at hri ⊢
      have HNR := Lib.hid hnr
      have HRI1 := Lib.hid hri
      clear hri hL hnr
      obtain ⟨T0, hT0⟩ : ∃ T0, T0 = tosTo r p (s : Int) j := ⟨_, rfl⟩
      have hT0l := HTL.out j
      have HLL : Hid (T0.length + L.length ≤ 112) := Lib.hid (by have h := HTL.out (j + 1); rw [HTS1.out, List.length_append, ← hT0] at h; exact h)
      rw [← hT0] at HO1 HTS1 hT0l ⊢
      clear hT0
      have hrn : rn ≤ 112 := by have := HLL.out; have := HNR.out; omega
      go_wp2_with fail
      go_loopw [8, 13, 48] (fun l _ i wx => ∃ q : Nat, q ≤ rn ∧ i = .int .i64 (q : Int) ∧ wx.ownsRow V.heap.size 37 3 l (T0 ++ L.take q).length (mcs ((T0 ++ L.take q).map (mvF (s : Int) kf))) ∧ Hid (Below V.heap.size V wx) ∧ Hid (wx.ownsRow 0 3 1 (.slice ra rn rc) rn (iv L))) (fun _ _ i _ => rn - (intOf i).toNat)
      case atStart => exact ⟨0, by omega, rfl, by simpa using HO1.out, HB1, Lib.hid (owns_weak HRI1.out (Nat.zero_le _))⟩
      case round =>
        obtain ⟨q, hqr, rfl, hown, hbel, hbel1⟩ := hrel
        obtain ⟨l2, c2, rfl⟩ := owns_form hown
        by_cases hlt2 : q < rn
        · obtain ⟨g3, t, rfl, hLq, hqc, C3⟩ := owns_at hbel1.out hlt2
          have C3' : wr.cell? ⟨g3, 0 + q, none⟩ = some (.int .i64 t) := by rw [Nat.zero_add]; exact C3
          have htr := HTI1.out t (List.mem_of_getElem? hLq)
          obtain ⟨x0, x1, x2, x3, x4⟩ := HX.out wr hbel.out
          obtain ⟨y0, y1, y2, y3, y4, y5, y6, y7, y8, y9, y10⟩ := HY.out wr hbel.out
          have HKT := Lib.hid (HKA.out t htr.1 htr.2 wr hbel.out)
          have HP1 : Hid (T0 ++ L.take (q + 1) = (T0 ++ L.take q) ++ [t]) := Lib.hid (by rw [List.take_add_one, hLq, List.append_assoc]; rfl)
          have hpl : (T0 ++ L.take q).length ≤ 112 := by
            have := HLL.out
            rw [List.length_append, List.length_take]; omega
          generalize T0 ++ L.take q = pre at hown HP1 hpl ⊢
          have KL : Hid ((pre ++ [t]).length = pre.length + 1) := Lib.hid (by simp)
          obtain ⟨kt, hkt⟩ : ∃ kt, kt = kf t := ⟨_, rfl⟩
          have KM : Hid (mcs ((pre ++ [t]).map (mvF (s : Int) kf)) = mcs (pre.map (mvF (s : Int) kf)) ++ mc ((s : Int), t, kt)) := Lib.hid (by rw [List.map_append, mcs_append, hkt]; exact congrArg _ (mcs_one _))
          rw [← hkt] at HKT
          have HO := Lib.hid hown
          clear hLq htr hkt hown
          go_wp2_with fail
          go_at_call 75; refine HKT.out.mono ?_; rintro e w2 ⟨rfl, hb2⟩
          have HB2 : Hid (Below V.heap.size V w2) := Lib.hid (hbel.out.trans (hb2.mono hbel.out.size))
          have HR2 := Lib.hid (owns_below hbel1.out hb2)
          have hown2 := owns_below HO.out hb2
          clear hb2 HO hbel hbel1 HKT x0 x1 x2 x3 x4 y0 y1 y2 y3 y4 y5 y6 y7 y8 y9 y10 C3 C3'
          go_wp2_with (at_builtin; refine wpList_append_own _ rfl _ _ 53 rfl V.heap.size 37 i0 (.agg #[.int .i64 0, .int .i64 0, .int .i64 0]) 3 24 Tryz.underlying53 hi hz0 hz1 hz2 rfl (by decide) _ _ _ rfl (hown2.alloc _) ⟨w2.heap.size, 0, none⟩ 1 1 (mc ((s : Int), t, kt)) rfl rfl (cell_new3 _ _ _ _ _) (fun u hu => mcs_one_cell [((s : Int), t, kt)] u (by rw [mcs_one]; exact hu)) (by unfold maxLen; omega) (by omega) (by have := HB2.out.size; simp; omega) ?_)
          intro v' w3 hown' hgrow _
          have hg' : (w2.alloc (.cells #[.int .i64 (s : Int), .int .i64 t, .int .i64 kt] 37)).grownBy w3 (Value.slice l2 pre.length c2).ownBlock := hgrow
          have HB3 : Hid (Below V.heap.size V w3) := Lib.hid ((HB2.out.alloc HB2.out.size _).grown hg' (by have := HB2.out.size; simp; omega) (fun k e => (hown2.lt k e).1))
          have HR3 := Lib.hid (owns_other (HR2.out.alloc (.cells #[.int .i64 (s : Int), .int .i64 t, .int .i64 kt] 37)) (hown2.alloc (.cells #[.int .i64 (s : Int), .int .i64 t, .int .i64 kt] 37)) (by decide) hg')
          rw [← KM.out, ← KL.out] at hown'
          have HO2 := Lib.hid hown'
          clear hgrow hg' hown2 hown' HB2 HR2
          go_wp2
          go_roundw
          case rel => exact ⟨q + 1, by omega, by go_num, by rw [HP1.out]; exact HO2.out, HB3, HR3⟩
          case measure => simp [intOf]; omega
        · have hq : q = rn := by omega
          have KT : Hid (T0 ++ L.take q = tosTo r p (s : Int) (j + 1)) := Lib.hid (by rw [HTS1.out, List.take_of_length_le (by rw [hq]; rw [HNR.out]; exact Nat.le_refl _)])
          have HO2 := Lib.hid hown
          clear hown hq
          go_wp2
          go_roundw
          case rel => exact ⟨j + 1, by omega, by go_num, by rw [← KT.out]; simpa using HO2.out, hbel⟩
          case measure => simp [intOf]; omega
    · obtain rfl : j = nw := by omega
      have HBE : Hid (Below w.heap.size w wr) := Lib.hid (HB.out.trans (hbel.out.mono HB.out.size))
      have HOW := Lib.hid hown
      have hll := HTL.out j
      obtain ⟨T, hT⟩ : ∃ T, T = tosTo r p (s : Int) j := ⟨_, rfl⟩
      have HTT : Hid (T = tosD r p (s : Int)) := Lib.hid (by rw [hT]; exact HTA.out)
      have HSQ : Hid (∀ t ∈ T, t ∈ squares p) := Lib.hid (fun t ht => HTD.out t (by rw [← HTT.out]; exact ht))
      rw [← hT] at HOW hll hown
      obtain ⟨nT, hnT⟩ : ∃ nT, nT = T.length := ⟨_, rfl⟩
      rw [← hnT] at HOW hll hown
      rw [← hT, ← hnT]
      have HNT := Lib.hid hnT
      have HBV := hbel
      clear hown hT hnT hbel
      by_cases h0 : nT = 0
      · subst h0
        have KE : Hid (fromD r p (s : Int) = []) := Lib.hid (by
          rw [HFD.out, ← HTT.out, List.eq_nil_of_length_eq_zero HNT.out.symm]; simp)
        clear HX HY HU HKA HRE
        go_wp2_with fail
        go_at_call 76; refine (turned (sort_none _)).mono ?_; rintro e w1 ⟨rfl, rfl⟩
        go_wp2_with fail
        go_at_call 79; refine (turned (compact_none _ _ _)).mono ?_; rintro e w1 ⟨rfl, rfl⟩
        go_wp2_with fail
        go_ret
        exact ⟨_, _, _, rfl, by rw [KE.out]; exact .inl ⟨rfl, _, _, rfl⟩, owns_nil HOW.out, HBE.out⟩
      · have hn1 : 1 ≤ nT := by omega
        have KC : Hid (Go.Lib.compactUpTo ((sortTo T).map (mvF (s : Int) kf)).toArray nT = fromD r p (s : Int)) := Lib.hid (by
          rw [HNT.out, comp_sorted T (s : Int) kf HSQ.out, HFD.out, HTT.out])
        clear HX HY HU HKA HRE h0
        go_wp2_with fail
        go_at_call 76; refine (sort_own HOW.out hn1 HNT.out.symm (by omega)).mono ?_; rintro e w1 ⟨rfl, hown1, hb1⟩
        have HO1 := Lib.hid hown1
        have HB1 := Lib.hid (hb1 V HBV.out HBV.out.size)
        clear hown1 hb1 HOW HBV HBE
        go_wp2_with fail
        go_at_call 79; refine (compact_own HO1.out hn1 (by omega)).mono ?_; rintro e w2 ⟨a2, m2, c2, rfl, hI2, hnil, hb2⟩
        have HNI := Lib.hid hnil
        have HI2 := Lib.hid hI2
        have HB2 := Lib.hid (HB.out.trans ((hb2 V HB1.out HB1.out.size).mono HB.out.size))
        clear hI2 hnil hb2 HO1 HB1
        go_wp2_with fail
        go_ret
        exact ⟨a2, m2, c2, rfl, by rw [← KC.out]; exact HI2.out, HNI.out, HB2.out⟩
/-- All moves from a square or from the hand. -/
theorem allFrom_any (r : RulesD) (p : PlaceD) (vp vs ve vc v0 v1 : Value) (src : Int) (w : World) (hr : IsRules w r vp vs ve) (hp : PlaceIn w p vc v0 v1) (hk : POkay r p) (h0 : -1 ≤ src) (h1 : src < p.cells.length) :
    Calls Tryz.prog 50 #[RulesV r vp vs ve, PlaceV p vc v0 v1, .int .i64 src] w (SlPost MoveAt 3 (movesOf r p src) w) := by
  unfold movesOf
  by_cases hm : src = -1
  · subst hm
    rw [if_pos rfl]
    exact allFrom_hand r p vp vs ve vc v0 v1 w hp hk
  · rw [if_neg hm]
    obtain ⟨s, rfl⟩ : ∃ s : Nat, src = (s : Int) := ⟨src.toNat, by omega⟩
    cases hio : isOfB (cellI p (s : Int)) p.turn
    · exact allFrom_not r p vp vs ve vc v0 v1 s w hp hk (by omega) hio
    · exact allFrom_yes r p vp vs ve vc v0 v1 s w hr hp hk (by omega) hio
end Go.Proofs.YtdhhdkbnlddnbaaGreatDoor

set_option maxRecDepth 100000
namespace Go.Proofs.YtdhhdkbnlddnbaaGreatDoor
open Go.ChangeShapes Go.WideShapes Go.ChangeAt Go.RowKit

def ListBad (c : Int) (w : World) (e : Ending) (w' : World) : Prop := e = .returned (.tuple #[.slice none 0 0, .int .i64 c]) ∧ Below w.heap.size w w'
def ListPost (ms : List MoveD) (w : World) (e : Ending) (w' : World) : Prop := ∃ a n c, e = .returned (.tuple #[.slice a n c, .int .i64 0]) ∧ IsSl MoveAt 3 w' (.slice a n c) ms ∧ n = ms.length ∧ Below w.heap.size w w'
theorem IsSl.len {α : Type} {q : World → Nat → Nat → α → Prop} {k : Nat} {W : World} {a : Option Addr} {n c : Nat} {xs : List α} (h : IsSl q k W (.slice a n c) xs) : n = xs.length := by
  obtain ⟨a', c', e, _⟩ := h.shape rfl
  simp only [Value.slice.injEq] at e
  exact e.2.1
def allTo (r : RulesD) (p : PlaceD) : Nat → List MoveD
  | 0 => []
  | k + 1 => allTo r p k ++ movesOf r p ((k : Int) - 1)
theorem allTo_eq (r : RulesD) (p : PlaceD) : ∀ k, k ≤ p.cells.length → allTo r p (k + 1) = putsD r p ++ ((squares p).take k).flatMap (fromD r p)
  | 0, _ => by simp [allTo, movesOf]
  | k + 1, hk => by
    rw [allTo, allTo_eq r p k (by omega)]
    have h : (squares p)[k]? = some (k : Int) := by simp [squares, show k < p.cells.length by omega]
    rw [List.take_add_one, h, List.flatMap_append, show ((k + 1 : Nat) : Int) - 1 = (k : Int) by omega, movesOf, if_neg (by omega), List.append_assoc]
    simp
theorem allTo_all (r : RulesD) (p : PlaceD) : allTo r p (p.cells.length + 1) = allD r p := by
  rw [allTo_eq r p _ (Nat.le_refl _), List.take_of_length_le (by rw [squares_length]; exact Nat.le_refl _)]; rfl
theorem allTo_length {r : RulesD} {p : PlaceD} (h : POkay r p) : ∀ k, k ≤ p.cells.length + 1 → (allTo r p k).length ≤ 384 * k
  | 0, _ => Nat.le_refl _
  | k + 1, hk => by
    have ih := allTo_length h k (by omega)
    rw [allTo, List.length_append]
    have h1 : (movesOf r p ((k : Int) - 1)).length ≤ 384 := by
      unfold movesOf; split
      · exact putsD_length h
      · have := fromD_length h ((k : Int) - 1); omega
    omega
set_option maxHeartbeats 8000000 in
theorem all_bad (r : RulesD) (p : PlaceD) (vp vs ve vc v0 v1 : Value) (w : World) (hr : RulesIn w r vp vs ve) (hp : PlaceIn w p vc v0 v1) (hz : placeE r p ≠ 0) :
    Calls Tryz.prog 34 #[RulesV r vp vs ve, PlaceV p vc v0 v1] w (ListBad (placeE r p) w) := by
  obtain ⟨c, hc⟩ : ∃ c : Int, c = placeE r p := ⟨_, rfl⟩
  obtain ⟨hB, hY, hX⟩ := rp_boxes w r p vp vs ve vc v0 v1
  have HCK : Hid (Calls Tryz.prog 36 #[RulesV r vp vs ve, PlaceV p vc v0 v1] _ (BelPost (.int .i64 c) _)) := Lib.hid (by rw [hc]; exact pcheck_any r p vp vs ve vc v0 v1 _ (hr.below hB (Nat.le_refl _)) (hp.below hB (Nat.le_refl _)))
  rw [← hc] at hz ⊢
  have hne : (c != 0) = true := by simpa using hz
  have HB := Lib.hid hB
  unfold RulesCells PlaceCells at HB hY hX HCK
  unfold RulesV PlaceV PlaceCells at HCK ⊢
  obtain ⟨x0, x1, x2, x3, x4⟩ := hX
  obtain ⟨y0, y1, y2, y3, y4, y5, y6, y7, y8, y9, y10⟩ := hY
  clear hr hp hB hc hz
  go_enter Tryz.func34, Tryz.ntmps34
  go_wp2_with fail
  go_at_call 36; refine HCK.out.mono ?_; rintro e w1 ⟨rfl, hb⟩
  have HB1 := Lib.hid (HB.out.trans (hb.mono HB.out.size))
  clear hb HB HCK x0 x1 x2 x3 x4 y0 y1 y2 y3 y4 y5 y6 y7 y8 y9 y10
  go_wp2_with fail
  go_ret2
  exact ⟨rfl, HB1.out⟩
/-- The same, with a row in a block of the call's own. -/
def FreshPost (ms : List MoveD) (w : World) (e : Ending) (w' : World) : Prop := ∃ a n c, e = .returned (.tuple #[.slice a n c, .int .i64 0]) ∧ IsSl MoveAt 3 w' (.slice a n c) ms ∧ n = ms.length ∧ (∀ z, a = some z → w.heap.size ≤ z.block) ∧ Below w.heap.size w w'
set_option maxHeartbeats 8000000 in
theorem all_fresh (r : RulesD) (p : PlaceD) (vp vs ve vc v0 v1 : Value) (w : World) (hr : RulesIn w r vp vs ve) (hp : PlaceIn w p vc v0 v1) (hk : POkay r p) :
    Calls Tryz.prog 34 #[RulesV r vp vs ve, PlaceV p vc v0 v1] w (FreshPost (allD r p) w) := by
  obtain ⟨i0, hi, hz0, hz1, hz2⟩ := info_parts infoMove
  obtain ⟨m, hm⟩ : ∃ m, m = p.cells.length := ⟨_, rfl⟩
  have hm64 := (cells_len hk).2
  obtain ⟨ca, cc, rfl, hcc, _⟩ := hp.c.shape hm
  obtain ⟨hB, hY, hX⟩ := rp_boxes w r p vp vs ve (.slice ca m cc) v0 v1
  have HCK : Hid (Calls Tryz.prog 36 #[RulesV r vp vs ve, PlaceV p (.slice ca m cc) v0 v1] _ (BelPost (.int .i64 0) _)) := Lib.hid (by
    have h := pcheck_any r p vp vs ve (.slice ca m cc) v0 v1 _ (hr.below hB (Nat.le_refl _)) (hp.below hB (Nat.le_refl _))
    rwa [placeE_iff.2 hk] at h)
  have HAF : Hid (∀ src : Int, -1 ≤ src → src < m → ∀ W, Below w.heap.size w W → Calls Tryz.prog 50 #[RulesV r vp vs ve, PlaceV p (.slice ca m cc) v0 v1, .int .i64 src] W (SlPost MoveAt 3 (movesOf r p src) W)) := Lib.hid (fun src h0 h1 W hb =>
    allFrom_any r p vp vs ve _ v0 v1 src W (hr.1.below hb (Nat.le_refl _)) (hp.below hb (Nat.le_refl _)) hk h0 (by omega))
  have HAL : Hid (∀ k, k ≤ m + 1 → (allTo r p k).length ≤ 384 * k) := Lib.hid (fun k h => allTo_length hk k (by omega))
  have HAA : Hid (allTo r p (m + 1) = allD r p) := Lib.hid (by rw [hm]; exact allTo_all r p)
  have HML : Hid (∀ src, (movesOf r p src).length ≤ 384) := Lib.hid (fun src => by
    unfold movesOf; split
    · exact putsD_length hk
    · have := fromD_length hk src; omega)
  rw [← hm] at hm64
  have HB := Lib.hid hB
  have HX := Lib.hid hX
  have HY := Lib.hid hY
  unfold RulesCells PlaceCells at HB hY hX HCK HX HY
  unfold RulesV PlaceV PlaceCells at HCK HAF ⊢
  obtain ⟨x0, x1, x2, x3, x4⟩ := hX
  obtain ⟨y0, y1, y2, y3, y4, y5, y6, y7, y8, y9, y10⟩ := hY
  clear hr hp hB hm hk
  go_enter Tryz.func34, Tryz.ntmps34
  go_wp2_with fail
  go_at_call 36; refine HCK.out.mono ?_; rintro e V ⟨rfl, hb⟩
  have HB1 := Lib.hid (HB.out.trans (hb.mono HB.out.size))
  have HX1 : Hid (∀ W, Below V.heap.size V W → BoxP W (w.heap.size + 1) p (.slice ca m cc) v0 v1) := Lib.hid (fun W h => (HX.out.below hb (Nat.le_refl _)).below h (Nat.le_refl _))
  have HY1 : Hid (∀ W, Below V.heap.size V W → BoxR W w.heap.size r vp vs ve) := Lib.hid (fun W h => (HY.out.below hb (Nat.le_refl _)).below h (Nat.le_refl _))
  clear hb HB HCK HX HY x0 x1 x2 x3 x4 y0 y1 y2 y3 y4 y5 y6 y7 y8 y9 y10
  go_wp2_with fail
  go_loopw [7, 8] (fun l v wr => ∃ k : Nat, k ≤ m + 1 ∧ v = .int .i64 ((k : Int) - 1) ∧ wr.ownsRow V.heap.size 37 3 l (allTo r p k).length (mcs (allTo r p k)) ∧ Hid (Below V.heap.size V wr)) (fun _ v _ => m + 1 - (intOf v + 1).toNat)
  case atStart => exact ⟨0, by omega, rfl, World.ownsRow_nil _ _ _ _, Lib.hid (Below.refl _ _)⟩
  case round =>
    obtain ⟨k, hkm, rfl, hown, hbel⟩ := hrel
    obtain ⟨la, lc, rfl⟩ := owns_form hown
    obtain ⟨x0, x1, x2, x3, x4⟩ := HX1.out wr hbel.out
    obtain ⟨y0, y1, y2, y3, y4, y5, y6, y7, y8, y9, y10⟩ := HY1.out wr hbel.out
    by_cases hlt : k < m + 1
    · have HBW : Hid (Below w.heap.size w wr) := Lib.hid (HB1.out.trans (hbel.out.mono HB1.out.size))
      have HAK := Lib.hid (HAF.out ((k : Int) - 1) (by omega) (by omega) wr HBW.out)
      have hll := HAL.out k hkm
      have hl2 := HML.out ((k : Int) - 1)
      have HO := Lib.hid hown
      have HAS : Hid (allTo r p (k + 1) = allTo r p k ++ movesOf r p ((k : Int) - 1)) := Lib.hid rfl
      have hd : decide ((k : Int) - 1 < (m : Int)) = true := by simp; omega
      clear hown
      go_wp2_with fail
      go_at_call 50; refine HAK.out.mono ?_; rintro e w2 ⟨ra, rn, rc, rfl, hI, hnil, hb2⟩
      have HB2 : Hid (Below V.heap.size V w2) := Lib.hid (hbel.out.trans (hb2.mono hbel.out.size))
      have hown2 := owns_below HO.out hb2
      have hrn := hI.len
      obtain ⟨ms, hms⟩ : ∃ ms, ms = movesOf r p ((k : Int) - 1) := ⟨_, rfl⟩
      rw [← hms] at hI hrn hl2 HAS
      generalize allTo r p k = pre at hown2 hll HAS ⊢
      have KL : Hid ((allTo r p (k + 1)).length = pre.length + rn) := Lib.hid (by rw [HAS.out, List.length_append, hrn])
      have KM : Hid (mcs (allTo r p (k + 1)) = mcs pre ++ mcs ms) := Lib.hid (by rw [HAS.out, mcs_append])
      have HI := Lib.hid hI
      have HRN := Lib.hid hrn
      have hrn4 : rn ≤ 384 := by rw [hrn]; exact hl2
      clear hms hb2 HO hbel HAK x0 x1 x2 x3 x4 y0 y1 y2 y3 y4 y5 y6 y7 y8 y9 y10 hI hrn HBW
      have HNI := Lib.hid hnil
      clear hnil
      cases ra with
      | none =>
        obtain ⟨rfl, rfl⟩ := HNI.out rfl
        have hms0 : ms = [] := List.eq_nil_of_length_eq_zero HRN.out.symm
        have KL0 : Hid ((allTo r p (k + 1)).length = pre.length ∧ mcs (allTo r p (k + 1)) = mcs pre) := Lib.hid (by rw [HAS.out, hms0]; simp)
        have HO2 := Lib.hid hown2
        clear hms0
        go_wp2_with (at_builtin; refine wpList_append_own_none rfl _ _ 53 rfl V.heap.size 37 i0 3 Tryz.underlying53 hi _ _ _ rfl hown2 rfl ?_)
        clear hown2
        go_wp2
        go_roundw
        case rel => exact ⟨k + 1, by omega, by go_num, by rw [KL0.out.1, KL0.out.2]; exact HO2.out, HB2⟩
        case measure => simp [intOf]; omega
      | some ad =>
        go_wp2_with (at_builtin; refine wpList_append_own _ rfl _ _ 53 rfl V.heap.size 37 i0 (.agg #[.int .i64 0, .int .i64 0, .int .i64 0]) 3 24 Tryz.underlying53 hi hz0 hz1 hz2 rfl (by decide) _ _ _ rfl hown2 ad rn rc (mcs ms) rfl (by rw [mcs_length, HRN.out]) HI.out.cells3 (mcs_one_cell ms) (by unfold maxLen; omega) (by omega) HB2.out.size ?_)
        intro v' w3 hown' hgrow _
        have HB3 : Hid (Below V.heap.size V w3) := Lib.hid (HB2.out.grown hgrow HB2.out.size (fun k e => (hown2.lt k e).1))
        rw [← KM.out, ← KL.out] at hown'
        have HO3 := Lib.hid hown'
        clear hgrow hown2 hown'
        go_wp2
        go_roundw
        case rel => exact ⟨k + 1, by omega, by go_num, HO3.out, HB3⟩
        case measure => simp [intOf]; omega
    · obtain rfl : k = m + 1 := by omega
      have HBE : Hid (Below w.heap.size w wr) := Lib.hid (HB1.out.trans (hbel.out.mono HB1.out.size))
      have HOW := Lib.hid hown
      have hll := HAL.out _ hkm
      rw [HAA.out] at HOW hll
      rw [HAA.out]
      have hd : decide (((m + 1 : Nat) : Int) - 1 < (m : Int)) = false := by simp
      clear hown hbel
      go_wp2
      go_ret2
      exact ⟨_, _, _, rfl, moves_of_owns HOW.out, rfl, fun z hz => Nat.le_trans HB1.out.size (by have h1 := HOW.out; rw [hz] at h1; exact (h1.lt z.block rfl).1), HBE.out⟩
theorem all_ok (r : RulesD) (p : PlaceD) (vp vs ve vc v0 v1 : Value) (w : World) (hr : RulesIn w r vp vs ve) (hp : PlaceIn w p vc v0 v1) (hk : POkay r p) :
    Calls Tryz.prog 34 #[RulesV r vp vs ve, PlaceV p vc v0 v1] w (ListPost (allD r p) w) :=
  (all_fresh r p vp vs ve vc v0 v1 w hr hp hk).mono fun _ _ ⟨a, n, c, h1, h2, h3, _, h5⟩ => ⟨a, n, c, h1, h2, h3, h5⟩
end Go.Proofs.YtdhhdkbnlddnbaaGreatDoor

set_option maxRecDepth 100000
namespace Go.Proofs.YtdhhdkbnlddnbaaGreatDoor
open Go.ChangeShapes Go.WideShapes Go.ChangeAt Go.RowKit

theorem eqlMove : EqlAt Tryz.prog 37 (fun x : MoveD => .agg (mc x).toArray) sameM :=
  ⟨fun x y w => eqMove x.1 x.2.1 x.2.2 y.1 y.2.1 y.2.2 w, GuardAt.agg _ (by kernel_rfl)⟩
set_option maxHeartbeats 1000000 in
theorem index_none (a : Option Addr) (c : Nat) (x : MoveD) (w : World) : Calls Tryz.prog 82 #[.slice a 0 c, .agg #[.int .i64 x.1, .int .i64 x.2.1, .int .i64 x.2.2]] w fun e w' => e = .returned (.int .i64 (-1)) ∧ Below w.heap.size w w' := by
  go_enter Tryz.func82, Tryz.ntmps82
  go_wp2
  refine wp_loop_rounds 1 ?_
  rw [rounds_succ]
  go_wp2
  go_ret
  exact ⟨rfl, (Below.refl _ _).alloc (Nat.le_refl _) _⟩
set_option maxHeartbeats 1000000 in
theorem contains_none (a : Option Addr) (c : Nat) (x : MoveD) (w : World) : Calls Tryz.prog 53 #[.slice a 0 c, .agg #[.int .i64 x.1, .int .i64 x.2.1, .int .i64 x.2.2]] w (BelPost (.bool false) w) := by
  have HI := Lib.hid (index_none a c x)
  have hB := (Below.refl w.heap.size w).alloc (Nat.le_refl _) (.cells #[.int .i64 x.1, .int .i64 x.2.1, .int .i64 x.2.2] 37)
  have HB := Lib.hid hB
  go_enter Tryz.func53, Tryz.ntmps53
  go_wp2_with fail
  go_at_call 82; refine (HI.out _).mono ?_; rintro e w1 ⟨rfl, hb⟩
  have HB1 := Lib.hid (HB.out.trans (hb.mono HB.out.size))
  clear hb hB HB
  go_wp2_with fail
  go_ret
  exact ⟨rfl, HB1.out⟩
theorem any_same (x : MoveD) (ms : List MoveD) : (ms.any fun y => sameM x y) = decide (x ∈ ms) := by
  by_cases h : x ∈ ms
  · rw [decide_eq_true h, List.any_eq_true]
    exact ⟨x, h, sameM_eq rfl⟩
  · rw [decide_eq_false h, List.any_eq_false]
    intro y hy e
    unfold sameM at e
    exact h (by rw [of_decide_eq_true e]; exact hy)
theorem contains_any (ms : List MoveD) (a : Option Addr) (n c : Nat) (x : MoveD) (w : World) (h : IsSl MoveAt 3 w (.slice a n c) ms) (hl : ms.length ≤ 100000) :
    Calls Tryz.prog 53 #[.slice a n c, .agg #[.int .i64 x.1, .int .i64 x.2.1, .int .i64 x.2.2]] w (BelPost (.bool (decide (x ∈ ms))) w) := by
  have hn := h.len
  rcases h with ⟨rfl, a', c', e⟩ | ⟨g, off, cap, e1, e2, e3, e4, hc⟩
  · simp only [Value.slice.injEq] at e
    obtain ⟨rfl, rfl, rfl⟩ := e
    have h1 := contains_none a c x w
    simpa using h1
  · simp only [Value.slice.injEq] at e1
    obtain ⟨rfl, rfl, rfl⟩ := e1
    have hcon := AnyQ.slices_Contains Tryz.containsMove 3 Tryz.isAgg37 Tryz.sizeOf37 mc (fun _ => rfl) sameM eqlMove g off ms.length c ms x w (Nat.le_refl _) (by omega) (fun j hj i v hi => by
      have h1 := hc j _ (List.getElem?_eq_getElem hj)
      have h2 : ms[j]! = ms[j] := by simp [hj]
      rw [h2] at hi
      have hi3 : i < 3 := by have := (List.getElem?_eq_some_iff.1 hi).1; rwa [mc_length] at this
      match i, hi3, hi with
      | 0, _, hi => rw [Nat.add_zero]; exact h1.1.trans hi
      | 1, _, hi => exact h1.2.1.trans hi
      | 2, _, hi => exact h1.2.2.trans hi)
    rw [List.take_length, any_same] at hcon
    exact hcon
/-- The boxes of rules, of a position and of a move. -/
theorem rpm_boxes (w : World) (r : RulesD) (p : PlaceD) (vp vs ve vc v0 v1 : Value) (m : MoveD) : ∃ V, V = ((w.alloc (.cells (RulesCells r vp vs ve) 26)).alloc (.cells (PlaceCells p vc v0 v1) 29)).alloc (.cells #[.int .i64 m.1, .int .i64 m.2.1, .int .i64 m.2.2] 37) ∧ Below w.heap.size w V ∧ BoxR V w.heap.size r vp vs ve ∧ BoxP V (w.heap.size + 1) p vc v0 v1 ∧
    MoveAt V (w.heap.size + 2) 0 m ∧ V.heap.size = w.heap.size + 3 := by
  obtain ⟨hB, hY, hX⟩ := rp_boxes w r p vp vs ve vc v0 v1
  have hs : ((w.alloc (.cells (RulesCells r vp vs ve) 26)).alloc (.cells (PlaceCells p vc v0 v1) 29)).heap.size = w.heap.size + 2 := by simp
  generalize (w.alloc (.cells (RulesCells r vp vs ve) 26)).alloc (.cells (PlaceCells p vc v0 v1) 29) = V0 at hB hY hX hs ⊢
  have h1 := (Below.refl V0.heap.size V0).alloc (Nat.le_refl _) (.cells #[.int .i64 m.1, .int .i64 m.2.1, .int .i64 m.2.2] 37)
  refine ⟨_, rfl, hB.trans (h1.mono hB.size), hY.below h1 (Nat.le_refl _), hX.below h1 (Nat.le_refl _), ?_, by simp [hs]⟩
  rw [← hs]
  refine ⟨?_, ?_, ?_⟩ <;> (rw [World.cell?_alloc_at (hn := rfl)]; rfl)
theorem MoveAt.below {W W' : World} {b n : Nat} {m : MoveD} (h : MoveAt W b 0 m) (hb : Below n W W') (hn : W.heap.size ≤ n) : MoveAt W' b 0 m := move_keeps _ _ _ _ _ _ hb hn h
def moveV (m : MoveD) : Value := .agg #[.int .i64 m.1, .int .i64 m.2.1, .int .i64 m.2.2]
set_option maxHeartbeats 8000000 in
theorem isLegal_any (r : RulesD) (p : PlaceD) (vp vs ve vc v0 v1 : Value) (m : MoveD) (w : World) (hr : IsRules w r vp vs ve) (hp : PlaceIn w p vc v0 v1) (hk : POkay r p) :
    Calls Tryz.prog 37 #[RulesV r vp vs ve, PlaceV p vc v0 v1, moveV m] w (BelPost (.bool (legalB r p m)) w) := by
  obtain ⟨n, hn⟩ : ∃ n, n = p.cells.length := ⟨_, rfl⟩
  have hn64 := (cells_len hk).2
  obtain ⟨ca, cc, rfl, hcc, _⟩ := hp.c.shape hn
  obtain ⟨V, hV, hB, hY, hX, hM, _⟩ := rpm_boxes w r p vp vs ve (.slice ca n cc) v0 v1 m
  obtain ⟨m1, m2, m3⟩ := m
  have HB := Lib.hid hB
  have HYV := Lib.hid hY
  have HXV := Lib.hid hX
  have HMV := Lib.hid hM
  obtain ⟨x0, x1, x2, x3, x4⟩ := hX
  obtain ⟨y0, y1, y2, y3, y4, y5, y6, y7, y8, y9, y10⟩ := hY
  obtain ⟨z0, z1, z2⟩ := hM
  rw [← hn] at hn64
  have HK := Lib.hid hk
  have HN := Lib.hid hn
  have HRI : Hid (∀ W, Below V.heap.size V W → IsRules W r vp vs ve) := Lib.hid (fun W hb => (hr.below hB (Nat.le_refl _)).below hb (Nat.le_refl _))
  have HPI : Hid (∀ W, Below V.heap.size V W → PlaceIn W p (.slice ca n cc) v0 v1) := Lib.hid (fun W hb => (hp.below hB (Nat.le_refl _)).below hb (Nat.le_refl _))
  unfold moveV RulesV PlaceV PlaceCells
  unfold RulesCells PlaceCells at hV
  dsimp only at z0 z1 z2 hV ⊢
  by_cases hlo : -1 ≤ m1
  · have d1 : decide (-1 ≤ m1) = true := by simpa using hlo
    by_cases hhi : m1 < n
    · have d2 : decide (m1 < (n : Int)) = true := by simpa using hhi
      have KE : Hid (decide ((m1, m2, m3) ∈ movesOf r p m1) = legalB r p (m1, m2, m3)) := Lib.hid (by
        unfold legalB; dsimp only
        rw [d1, ← HN.out, d2, Bool.true_and, Bool.true_and])
      have hml : (movesOf r p m1).length ≤ 384 := by
        unfold movesOf; split
        · exact putsD_length hk
        · have := fromD_length hk m1; omega
      have HAF : Hid (∀ W, Below V.heap.size V W → Calls Tryz.prog 50 #[RulesV r vp vs ve, PlaceV p (.slice ca n cc) v0 v1, .int .i64 m1] W (SlPost MoveAt 3 (movesOf r p m1) W)) := Lib.hid (fun W hb => allFrom_any r p vp vs ve _ v0 v1 m1 W (HRI.out W hb) (HPI.out W hb) HK.out hlo (by rw [← HN.out]; exact hhi))
      have HCO : Hid (∀ a n c W, IsSl MoveAt 3 W (.slice a n c) (movesOf r p m1) → Calls Tryz.prog 53 #[.slice a n c, .agg #[.int .i64 m1, .int .i64 m2, .int .i64 m3]] W (BelPost (.bool (legalB r p (m1, m2, m3))) W)) := Lib.hid (fun a n c W h => by rw [← KE.out]; exact contains_any _ a n c (m1, m2, m3) W h (by omega))
      unfold RulesV PlaceV PlaceCells at HAF
      have hBc : Below V.heap.size V V.drew := (Below.refl _ _).drew
      have w0 := x0
      have w1 := z0
      rw [hV] at w0 w1
      clear hk hr hp hn HK HN HRI HPI hlo hhi hB KE hml
      go_enter Tryz.func37, Tryz.ntmps37
      go_wp2_with fail
      rw [← hV]
      clear hV w0 w1 x0 x1 x2 x3 x4 y0 y1 y2 y3 y4 y5 y6 y7 y8 y9 y10 z0 z1 z2
      go_region_held3 (fun w' => (w'.cell? ⟨w.heap.size, 0, none⟩ = some (.string r.name) ∧ w'.cell? ⟨w.heap.size, 1, none⟩ = some (.int .i64 r.width) ∧ w'.cell? ⟨w.heap.size, 2, none⟩ = some (.int .i64 r.height) ∧ w'.cell? ⟨w.heap.size, 3, none⟩ = some vp ∧ w'.cell? ⟨w.heap.size, 4, none⟩ = some vs ∧ w'.cell? ⟨w.heap.size, 5, none⟩ = some (.bool r.falls) ∧ w'.cell? ⟨w.heap.size, 6, none⟩ = some (.bool r.keeps) ∧ w'.cell? ⟨w.heap.size, 7, none⟩ = some ve ∧ w'.cell? ⟨w.heap.size, 8, none⟩ = some (.int .i64 r.blocked) ∧ w'.cell? ⟨w.heap.size, 9, none⟩ = some (.int .i64 r.quiet) ∧ w'.cell? ⟨w.heap.size, 10, none⟩ = some (.int .i64 r.rep)) ∧
        (w'.cell? ⟨w.heap.size + 1, 0, none⟩ = some (.slice ca n cc) ∧ w'.cell? ⟨w.heap.size + 1, 1, none⟩ = some v0 ∧ w'.cell? ⟨w.heap.size + 1, 2, none⟩ = some v1 ∧ w'.cell? ⟨w.heap.size + 1, 3, none⟩ = some (.int .i64 p.turn) ∧ w'.cell? ⟨w.heap.size + 1, 4, none⟩ = some (.int .i64 p.quiet)) ∧
        (w'.cell? ⟨w.heap.size + 2, 0, none⟩ = some (.int .i64 m1) ∧ w'.cell? ⟨w.heap.size + 2, 0 + 1, none⟩ = some (.int .i64 m2) ∧ w'.cell? ⟨w.heap.size + 2, 0 + 2, none⟩ = some (.int .i64 m3))) (exact ⟨HYV.out.below hBc (Nat.le_refl _), HXV.out.below hBc (Nat.le_refl _), MoveAt.below HMV.out hBc (Nat.le_refl _)⟩) (first
        | (go_at_call 50; refine (HAF.out _ hBc).mono ?_; rintro e w1 ⟨a1, n1, c1, rfl, hI, _, hb⟩; have hBc := hBc.trans (hb.mono hBc.size); clear hb)
        | (go_at_call 53; refine (HCO.out _ _ _ _ hI).mono ?_; rintro e w2 ⟨rfl, hb⟩; have hBc := hBc.trans (hb.mono hBc.size); clear hb))
      have HBE := Lib.hid (HB.out.trans (hBc.mono HB.out.size))
      clear hBc hI
      go_wp2_with fail
      go_ret
      exact ⟨rfl, HBE.out⟩
    · have d2 : decide (m1 < (n : Int)) = false := by simpa using hhi
      have KE : Hid (false = legalB r p (m1, m2, m3)) := Lib.hid (by
        unfold legalB; dsimp only
        rw [d1, ← HN.out, d2]; rfl)
      rw [hV] at x0 z0 HB
      clear hk hr hp hn HK HN HRI HPI hlo hhi hB HXV HYV HMV hV x1 x2 x3 x4 y0 y1 y2 y3 y4 y5 y6 y7 y8 y9 y10 z1 z2
      go_enter Tryz.func37, Tryz.ntmps37
      go_wp2_with fail
      go_quiet (fail)
      go_wp2
      go_ret
      exact ⟨ret_bool KE.out, below_drewN HB.out _⟩
  · have d1 : decide (-1 ≤ m1) = false := by simpa using hlo
    have KE : Hid (false = legalB r p (m1, m2, m3)) := Lib.hid (by
      unfold legalB; dsimp only
      rw [d1]; rfl)
    rw [hV] at x0 z0 HB
    clear hk hr hp hn HK HN HRI HPI hlo hB HXV HYV HMV hV x1 x2 x3 x4 y0 y1 y2 y3 y4 y5 y6 y7 y8 y9 y10 z1 z2
    go_enter Tryz.func37, Tryz.ntmps37
    go_wp2_with fail
    go_quiet (fail)
    go_wp2
    go_ret
    exact ⟨ret_bool KE.out, below_drewN HB.out _⟩
end Go.Proofs.YtdhhdkbnlddnbaaGreatDoor
