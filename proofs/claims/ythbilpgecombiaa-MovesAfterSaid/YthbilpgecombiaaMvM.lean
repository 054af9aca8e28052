/- Moves in memory: slices of moves, their cells one behind the other; slices.SortFunc and slices.Contains at moves. -/
import Derived.Test.YthbilpgecombiaaMovR
import Derived.Test.YthbilpgecombiaaShelf
import Derived.Lib.SlicesCompact
import Derived.Laws.StructEq
import Derived.Shelf.SlSortCmp.NoneTotal
import Derived.Shelf.SlicesQ.Contains
set_option maxRecDepth 100000
namespace Go.Proofs.Ythbilpgecombiaa
open Go.ChangeShapes Go.WideShapes Go.ChangeAt Go.RowKit

def MoveAt (W : World) (g o : Nat) (x : MoveD) : Prop :=
  W.cell? ⟨g, o, none⟩ = some (.int .i64 x.1) ∧ W.cell? ⟨g, o + 1, none⟩ = some (.int .i64 x.2.1) ∧ W.cell? ⟨g, o + 2, none⟩ = some (.int .i64 x.2.2)
theorem move_keeps : Keeps MoveAt := fun _ _ _ _ _ _ hb hn h => ⟨cell_keeps hb hn h.1, cell_keeps hb hn h.2.1, cell_keeps hb hn h.2.2⟩
theorem move_moves : Moves MoveAt 3 := fun W W' n g o g' o' x _ _ h hx => ⟨(h 0 (by decide)).trans hx.1, (h 1 (by decide)).trans hx.2.1, (h 2 (by decide)).trans hx.2.2⟩
theorem move_celled : Celled MoveAt 3 := fun W g o x hx j hj => by
  match j, hj with
  | 0, _ => exact ⟨_, hx.1, rfl⟩
  | 1, _ => exact ⟨_, hx.2.1, rfl⟩
  | 2, _ => exact ⟨_, hx.2.2, rfl⟩
/-- The three cells of a move. -/
def mc (x : MoveD) : List Value := [.int .i64 x.1, .int .i64 x.2.1, .int .i64 x.2.2]
def mcs (xs : List MoveD) : List Value := xs.flatMap mc
theorem mc_length (x : MoveD) : (mc x).length = 3 := rfl
theorem mcs_length : ∀ xs : List MoveD, (mcs xs).length = xs.length * 3
  | [] => rfl
  | x :: l => by
    have h := mcs_length l
    unfold mcs at h ⊢
    rw [List.flatMap_cons, List.length_append, h, mc_length, List.length_cons]; omega
theorem mcs_append (a b : List MoveD) : mcs (a ++ b) = mcs a ++ mcs b := by unfold mcs; exact List.flatMap_append
theorem mcs_one (x : MoveD) : mcs [x] = mc x := by simp [mcs]
theorem mcs_cons (x : MoveD) (l : List MoveD) : mcs (x :: l) = mc x ++ mcs l := rfl
theorem mcs_at : ∀ (xs : List MoveD) (i : Nat) (x : MoveD) (j : Nat), xs[i]? = some x → j < 3 → (mcs xs)[i * 3 + j]? = (mc x)[j]?
  | [], i, x, j, h, _ => by simp at h
  | y :: l, 0, x, j, h, hj => by
    obtain rfl : y = x := by simpa using h
    rw [show mcs (y :: l) = mc y ++ mcs l from mcs_cons y l, Nat.zero_mul, Nat.zero_add, List.getElem?_append_left (by rw [mc_length]; exact hj)]
  | y :: l, i + 1, x, j, h, hj => by
    have h2 : l[i]? = some x := by simpa using h
    rw [show mcs (y :: l) = mc y ++ mcs l from mcs_cons y l, List.getElem?_append_right (by rw [mc_length]; omega), mc_length, show (i + 1) * 3 + j - 3 = i * 3 + j by omega]
    exact mcs_at l i x j h2 hj
theorem mcs_one_cell (xs : List MoveD) : ∀ u ∈ mcs xs, u.oneCell' = true := by
  intro u hu
  obtain ⟨x, _, h⟩ := List.mem_flatMap.1 hu
  unfold mc at h
  simp only [List.mem_cons, List.not_mem_nil, or_false] at h
  rcases h with rfl | rfl | rfl <;> rfl
theorem IsSl.cells3 {W : World} {ad : Addr} {cap n : Nat} {xs : List MoveD} (h : IsSl MoveAt 3 W (.slice (some ad) n cap) xs) : ∀ j u, (mcs xs)[j]? = some u → W.cell? (ad.add j) = some u := by
  intro j u hj
  have hl : j < xs.length * 3 := by have := (List.getElem?_eq_some_iff.1 hj).1; rwa [mcs_length] at this
  rcases h with ⟨rfl, _⟩ | ⟨g', off', cap', e1, _, _, _, hc⟩
  · simp at hl
  · simp only [Value.slice.injEq, Option.some.injEq] at e1
    obtain ⟨rfl, _, _⟩ := e1
    rw [Addr.add_lit]
    have hi : j / 3 < xs.length := (Nat.div_lt_iff_lt_mul (by decide)).2 hl
    have h1 := hc (j / 3) _ (List.getElem?_eq_getElem hi)
    have h2 := mcs_at xs (j / 3) _ (j % 3) (List.getElem?_eq_getElem hi) (Nat.mod_lt _ (by decide))
    rw [show j / 3 * 3 + j % 3 = j by omega, hj] at h2
    have h3 : j % 3 = 0 ∨ j % 3 = 1 ∨ j % 3 = 2 := by omega
    rcases h3 with h3 | h3 | h3 <;> rw [h3] at h2 <;> obtain rfl := Option.some.inj h2
    · rw [← h1.1]; congr 2; omega
    · rw [← h1.2.1]; congr 2; omega
    · rw [← h1.2.2]; congr 2; omega
theorem moves_of_owns {W : World} {B : Nat} {e : TypeId} {v : Value} {n : Nat} {xs : List MoveD} (h : W.ownsRow B e 3 v n (mcs xs)) : IsSl MoveAt 3 W v xs := by
  have hl : xs.length = n := by have := h.1; rw [mcs_length] at this; omega
  rcases h.2 with ⟨rfl, rfl⟩ | ⟨g, cap, cur, rfl, _, _, hkc, hcm, _, _⟩
  · exact .inl ⟨List.eq_nil_of_length_eq_zero hl, none, 0, rfl⟩
  · by_cases e : xs = []
    · subst e
      obtain rfl : n = 0 := by simpa using hl.symm
      exact .inl ⟨rfl, _, _, rfl⟩
    · refine .inr ⟨g, 0, cap, by rw [hl], e, by omega, hcm, fun i x hx => ?_⟩
      have hi : i < n := by rw [← hl]; exact (List.getElem?_eq_some_iff.1 hx).1
      have h2 : ∀ j, j < 3 → W.cell? ⟨g, i * 3 + j, none⟩ = (mc x)[j]? := fun j hj => by
        rw [h.cellAt (i * 3 + j) (by omega)]; exact mcs_at xs i x j hx hj
      rw [Nat.zero_add]
      exact ⟨h2 0 (by decide), h2 1 (by decide), h2 2 (by decide)⟩
/-- All cells of a row, flat. -/
theorem flat_list (f : Int → MoveD) (zs : List Int) : Go.Sort.flatK (fun t => mc (f t)) 3 zs.toArray = (mcs (zs.map f)).toArray := by
  refine Go.Sort.ext_get! (by simp [mcs_length]) fun t ht => ?_
  have ht' : t < zs.toArray.size * 3 := by simpa using ht
  rw [Go.Sort.get_flatK _ _ _ _ ht']
  have hi : t / 3 < zs.length := (Nat.div_lt_iff_lt_mul (by decide)).2 (by simpa using ht')
  have h2 := mcs_at (zs.map f) (t / 3) (f zs[t / 3]) (t % 3) (by rw [List.getElem?_map, List.getElem?_eq_getElem hi]; rfl) (Nat.mod_lt _ (by decide))
  rw [show t / 3 * 3 + t % 3 = t by omega] at h2
  have h3 : (mcs (zs.map f)).toArray[t]! = ((mcs (zs.map f))[t]?).getD default := by simp
  rw [h3, h2]
  simp [hi]
theorem flat_moves (zs : List MoveD) : Go.Sort.flatK mc 3 zs.toArray = (mcs zs).toArray := by
  refine Go.Sort.ext_get! (by simp [mcs_length]) fun t ht => ?_
  have ht' : t < zs.toArray.size * 3 := by simpa using ht
  rw [Go.Sort.get_flatK _ _ _ _ ht']
  have hi : t / 3 < zs.length := (Nat.div_lt_iff_lt_mul (by decide)).2 (by simpa using ht')
  have h2 := mcs_at zs (t / 3) zs[t / 3] (t % 3) (List.getElem?_eq_getElem hi) (Nat.mod_lt _ (by decide))
  rw [show t / 3 * 3 + t % 3 = t by omega] at h2
  have h3 : (mcs zs).toArray[t]! = ((mcs zs)[t]?).getD default := by simp
  rw [h3, h2]
  simp [hi]

/-! ### A row of one's own, put anew -/
theorem holds_of_row {w : World} {g : Nat} {cur : Array Value} {e : TypeId} {vs : List Value} (hb : w.heap[g]? = some (.cells cur e (0, 0))) (ht : cur.toList.take vs.length = vs) : Go.Sort.Holds id w g 0 vs.toArray := by
  intro j hj
  have hj' : j < vs.length := by simpa using hj
  refine ⟨?_, by simp [World.frozen?, hb]⟩
  have h1 : (cur.toList.take vs.length)[j]? = vs[j]? := by rw [ht]
  rw [List.getElem?_take_of_lt hj'] at h1
  simp only [World.cell?, hb, Nat.zero_add]
  simp only [Option.isSome_none, Bool.false_eq_true, if_false]
  rw [← Array.getElem?_toList, h1]
  simp [hj']
theorem heap_put {w : World} {g n : Nat} {os : Array Obj} {cur : Array Value} {e : TypeId} {fr : Nat × Nat} (d : Array Value) (hb : w.heap[g]? = some (.cells cur e fr)) :
    (Go.Sort.grow (Go.Sort.putRow id (Go.Sort.ahead w n) g 0 d) os).heap[g]? = some (.cells (Go.Sort.putCells id 0 d cur) e fr) := by
  have hg : g < w.heap.size := (Array.getElem?_eq_some_iff.1 hb).1
  rw [Go.Sort.heap_grow_old _ _ (by simpa using hg)]
  simp [Go.Sort.putRow, Go.Sort.mapBlock, Go.Sort.ahead, Array.getElem?_modify, hb, Go.Sort.onCells]
theorem grownBy_put {w : World} {g n : Nat} {os : Array Obj} (d : Array Value) : w.grownBy (Go.Sort.grow (Go.Sort.putRow id (Go.Sort.ahead w n) g 0 d) os) (some g) := by
  refine ⟨rfl, rfl, rfl, by simp, fun k hk hne => ?_⟩
  rw [Go.Sort.heap_grow_old _ _ (by simpa using hk)]
  have : g ≠ k := fun e => hne (by rw [e])
  simp [Go.Sort.putRow, Go.Sort.mapBlock, Go.Sort.ahead, Array.getElem?_modify, this]
theorem take_put (cur : Array Value) (ts : List Value) (h : ts.length ≤ cur.size) : (Go.Sort.putCells id 0 ts.toArray cur).toList.take ts.length = ts := by
  apply List.ext_getElem?
  intro j
  by_cases hj : j < ts.length
  · rw [List.getElem?_take_of_lt hj, Array.getElem?_toList]
    simp [Go.Sort.putCells, hj, show j < cur.size by omega]
  · rw [List.getElem?_take_eq_none (by omega), List.getElem?_eq_none (by omega)]
theorem ownsRow_put {w : World} {base g cap n q : Nat} {e : TypeId} {os : Array Obj} {cur : Array Value} {ts : List Value} (hl : ts.length = n * 3) (hbase : base ≤ g) (hb : w.heap[g]? = some (.cells cur e (0, 0)))
    (h1 : n ≤ cap) (h2 : cap ≤ maxLen) (h3 : cur.size = cap * 3) :
    (Go.Sort.grow (Go.Sort.putRow id (Go.Sort.ahead w q) g 0 ts.toArray) os).ownsRow base e 3 (.slice (some ⟨g, 0, none⟩) n cap) n ts :=
  ⟨hl, .inr ⟨g, cap, _, rfl, hbase, heap_put _ hb, h1, h2, by simp [Go.Sort.putCells, h3], by rw [← hl]; exact take_put cur ts (by rw [h3]; have := Nat.mul_le_mul_right 3 h1; omega)⟩⟩

/-! ### slices.SortFunc by To -/
def mvF (src : Int) (kf : Int → Int) (t : Int) : MoveD := (src, t, kf t)
set_option maxHeartbeats 1000000 in
theorem cmpTo_any (x y : MoveD) (W : World) : Calls Try.prog 63 #[.agg (mc x).toArray, .agg (mc y).toArray] W fun e w' => e = .returned (.int .i64 (Lib.compareInt x.2.1 y.2.1)) ∧ ∃ q os', w' = Go.Sort.grow (W.drewN q) os' := by
  have hcon : ∀ W', Calls Try.prog 64 #[.int .i64 x.2.1, .int .i64 y.2.1] W' fun e w' => e = .returned (.int .i64 (Lib.compareInt x.2.1 y.2.1)) ∧ w' = W' := fun W' => Try.cmp_Compare_int x.2.1 y.2.1 W'
  generalize Lib.compareInt x.2.1 y.2.1 = r at hcon ⊢
  have HC := Lib.hid hcon
  clear hcon
  obtain ⟨x1, x2, x3⟩ := x
  obtain ⟨y1, y2, y3⟩ := y
  unfold mc
  dsimp only at HC ⊢
  go_enter Try.func63, Try.ntmps63
  go_wp2_with fail
  go_at_call 64; refine (HC.out _).mono ?_; rintro e w' ⟨rfl, rfl⟩
  go_wp2_with fail
  go_ret
  exact ⟨rfl, 0, _, by rw [Go.Sort.alloc_eq_grow, Go.Sort.alloc_eq_grow, Go.Sort.grow_grow]; rfl⟩
def toCmp (x y : Int) : Int := Lib.compareInt x y
theorem ltTo (x y : Int) : ltOf toCmp x y = decide (x < y) := by
  unfold ltOf toCmp Lib.compareInt
  by_cases h1 : x < y
  · simp [h1]
  · by_cases h2 : y < x <;> simp [h1, h2]
theorem swoTo : Go.Sort.SWO (ltOf toCmp) where
  irrefl x := by rw [ltTo]; simp
  trans x y z h1 h2 := by rw [ltTo] at *; simp at *; omega
  ntrans x y z h1 h2 := by rw [ltTo] at *; simp at *; omega
def sortTo (zs : List Int) : List Int := zs.mergeSort fun x y => !(ltOf toCmp) y x
theorem sort_own {w : World} {base n : Nat} {v : Value} {src : Int} {kf : Int → Int} {zs : List Int} (h : w.ownsRow base 31 3 v n (mcs (zs.map (mvF src kf)))) (hn : 1 ≤ n) (hl : zs.length = n) (h64 : n ≤ 1000) :
    Calls Try.prog 62 #[v, .func (.func 63) #[] #[]] w fun en w' => en = .returned (.tuple #[]) ∧ w'.ownsRow base 31 3 v n (mcs ((sortTo zs).map (mvF src kf))) ∧ ∀ w0, Below base w0 w → base ≤ w.heap.size → Below base w0 w' := by
  subst hl
  rcases h.2 with ⟨_, h0⟩ | ⟨g, cap, cur, rfl, hb, hg, hnc, hcm, hcs, ht⟩
  · omega
  · have hlt : g < w.heap.size := (Array.getElem?_eq_some_iff.1 hg).1
    have hH : Go.Sort.HoldsK (fun t => mc (mvF src kf t)) 3 w g 0 zs.toArray := by
      unfold Go.Sort.HoldsK
      rw [flat_list]
      exact holds_of_row hg (by rw [mcs_length, List.length_map]; exact ht)
    have eg : ∀ args w, (callFunc 63 args).run Try.prog w = .ok (.enter 63 args) w := enters_of Try.func63 (by kernel_rfl) rfl
    have hcmp : CmpLays Try.prog 63 #[] (fun t => mc (mvF src kf t)) 3 toCmp g 0 zs.toArray.size w := fun m os dk _ x y => cmpTo_any (mvF src kf x) (mvF src kf y) _
    have hcon := AnyQ.slices_SortFunc_total Try.sortMove 3 Try.isAgg31 Try.sizeOf31 (fun t => mc (mvF src kf t)) (fun _ => rfl) (fun x v hv => mcs_one_cell [mvF src kf x] v (by rw [mcs_one]; exact hv)) toCmp swoTo 63 #[] g 0 cap zs.toArray w eg hcmp hH hlt (by simp; omega) (fun x y h1 h2 => by rw [ltTo] at h1 h2; simp at h1 h2; omega)
    change Calls Try.prog 62 _ _ _ at hcon
    refine Calls.mono (by simpa using hcon) ?_
    rintro en w' ⟨rfl, m, os, rfl⟩
    have hfl : ((sortTo zs).map (mvF src kf)).length = zs.length := by rw [List.length_map, sortTo, List.length_mergeSort]
    have hw : sortWorldK (fun t => mc (mvF src kf t)) 3 w g 0 m (sortTo zs).toArray os = Go.Sort.grow (Go.Sort.putRow id (Go.Sort.ahead w m) g 0 (mcs ((sortTo zs).map (mvF src kf))).toArray) os := by
      unfold sortWorldK Go.Sort.putRowK
      rw [flat_list]
    show _ = _ ∧ World.ownsRow (sortWorldK (fun t => mc (mvF src kf t)) 3 w g 0 m (sortTo zs).toArray os) _ _ _ _ _ _ ∧ ∀ w0, Below base w0 w → base ≤ w.heap.size → Below base w0 (sortWorldK (fun t => mc (mvF src kf t)) 3 w g 0 m (sortTo zs).toArray os)
    rw [hw]
    refine ⟨rfl, ownsRow_put (by rw [mcs_length, hfl]) hb hg hnc hcm hcs, fun w0 hB hle => hB.grown (grownBy_put _) hle (fun k e => by cases e; exact hb)⟩
end Go.Proofs.Ythbilpgecombiaa
