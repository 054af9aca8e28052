/- The counter of package perft: what lies in memory, and its walks. -/
import Derived.Test.YtdhhdkbnlddnbaaGreatDoorBrdM
import Derived.Test.YtdhhdkbnlddnbaaGreatDoorPftD
set_option maxRecDepth 100000
namespace Go.Proofs.YtdhhdkbnlddnbaaGreatDoor
open Go.ChangeShapes Go.WideShapes Go.ChangeAt Go.RowKit

/-! ### Parts in a row -/
def PartAt (W : World) (g o : Nat) (x : MoveD × Nat) : Prop :=
  W.cell? ⟨g, o, none⟩ = some (.int .i64 x.1.1) ∧ W.cell? ⟨g, o + 1, none⟩ = some (.int .i64 x.1.2.1) ∧ W.cell? ⟨g, o + 2, none⟩ = some (.int .i64 x.1.2.2) ∧ W.cell? ⟨g, o + 3, none⟩ = some (.int .i64 (x.2 : Int))
theorem part_keeps : Keeps PartAt := fun _ _ _ _ _ _ hb hn h => ⟨cell_keeps hb hn h.1, cell_keeps hb hn h.2.1, cell_keeps hb hn h.2.2.1, cell_keeps hb hn h.2.2.2⟩
def ptc (x : MoveD × Nat) : List Value := [.int .i64 x.1.1, .int .i64 x.1.2.1, .int .i64 x.1.2.2, .int .i64 (x.2 : Int)]
def ptcs (xs : List (MoveD × Nat)) : List Value := xs.flatMap ptc
theorem ptcs_append (a b : List (MoveD × Nat)) : ptcs (a ++ b) = ptcs a ++ ptcs b := by unfold ptcs; exact List.flatMap_append
theorem ptcs_one (x : MoveD × Nat) : ptcs [x] = ptc x := by simp [ptcs]
theorem ptcs_length : ∀ xs : List (MoveD × Nat), (ptcs xs).length = xs.length * 4
  | [] => rfl
  | x :: l => by
    have h := ptcs_length l
    unfold ptcs at h ⊢
    rw [List.flatMap_cons, List.length_append, h, List.length_cons]
    simp only [ptc, List.length_cons, List.length_nil]
    omega
theorem ptcs_cons (x : MoveD × Nat) (l : List (MoveD × Nat)) : ptcs (x :: l) = ptc x ++ ptcs l := rfl
theorem ptcs_at : ∀ (xs : List (MoveD × Nat)) (i : Nat) (x : MoveD × Nat) (j : Nat), xs[i]? = some x → j < 4 → (ptcs xs)[i * 4 + j]? = (ptc x)[j]?
  | [], i, x, j, h, _ => by simp at h
  | y :: l, 0, x, j, h, hj => by
    obtain rfl : y = x := by simpa using h
    rw [ptcs_cons, Nat.zero_mul, Nat.zero_add, List.getElem?_append_left (by simpa [ptc] using hj)]
  | y :: l, i + 1, x, j, h, hj => by
    have h2 : l[i]? = some x := by simpa using h
    rw [ptcs_cons, List.getElem?_append_right (by simp [ptc]; omega)]
    have e : (i + 1) * 4 + j - (ptc y).length = i * 4 + j := by simp [ptc]; omega
    rw [e]
    exact ptcs_at l i x j h2 hj
theorem pown_max {W : World} {B : Nat} {e : TypeId} {size g n cap : Nat} {xs : List Value} (h : W.ownsRow B e size (.slice (some ⟨g, 0, none⟩) n cap) n xs) : cap ≤ maxLen := by
  rcases h.2 with ⟨h', _⟩ | ⟨g', cap', cur, h', _, _, _, hc, _⟩
  · simp at h'
  · simp only [Value.slice.injEq] at h'
    omega
theorem parts_of_own {W : World} {B : Nat} {e : TypeId} {v : Value} {xs : List (MoveD × Nat)} (h : W.ownsRow B e 4 v xs.length (ptcs xs)) : IsSl PartAt 4 W v xs := by
  rcases Joins.ownsRow_forms h with ⟨rfl, h0⟩ | ⟨g, cap, rfl⟩
  · exact .inl ⟨List.length_eq_zero_iff.1 h0, _, _, rfl⟩
  · by_cases h0 : xs = []
    · exact .inl ⟨h0, _, _, by rw [h0]; rfl⟩
    · refine .inr ⟨g, 0, cap, rfl, h0, own_cap h, pown_max h, fun i x hx => ?_⟩
      have hi := (List.getElem?_eq_some_iff.1 hx).1
      have hc : ∀ j, j < 4 → W.cell? ⟨g, 0 + i * 4 + j, none⟩ = (ptcs xs)[i * 4 + j]? := fun j hj => by rw [Nat.zero_add]; exact h.cellAt (i * 4 + j) (by omega)
      exact ⟨(hc 0 (by decide)).trans (ptcs_at xs i x 0 hx (by decide)), (hc 1 (by decide)).trans (ptcs_at xs i x 1 hx (by decide)), (hc 2 (by decide)).trans (ptcs_at xs i x 2 hx (by decide)), (hc 3 (by decide)).trans (ptcs_at xs i x 3 hx (by decide))⟩
theorem sumP_take {xs : List (MoveD × Nat)} {k : Nat} {x : MoveD × Nat} (h : xs[k]? = some x) : sumP (xs.take (k + 1)) = sumP (xs.take k) + x.2 := by
  rw [sumP, List.take_add_one, h]
  simp [sumP]
theorem sumP_take_le (xs : List (MoveD × Nat)) : ∀ k, sumP (xs.take k) ≤ sumP xs := by
  induction xs with
  | nil => intro k; simp
  | cons a l ih =>
    intro k
    cases k with
    | zero => simp [sumP]
    | succ k =>
      have := ih k
      simp [sumP] at this ⊢
      omega
set_option maxHeartbeats 2000000 in
theorem sum_any (xs : List (MoveD × Nat)) (v : Value) (w : World) (h : IsSl PartAt 4 w v xs) (hs : sumP xs ≤ 100000) (hl : xs.length ≤ 100000) :
    Calls Tryz.prog 30 #[v] w (BelPost (.int .i64 (sumP xs : Int)) w) := by
  obtain ⟨n, hn⟩ : ∃ n, n = xs.length := ⟨_, rfl⟩
  obtain ⟨la, lc, rfl, hlc, hls⟩ := h.shape hn
  have HLS : Hid (∀ W, Below w.heap.size w W → ∀ k, k < n → ∃ g o m1 m2 m3, ∃ c : Nat, la = some ⟨g, o, none⟩ ∧ xs[k]? = some ((m1, m2, m3), c) ∧ W.cell? ⟨g, o + k * 4, none⟩ = some (.int .i64 m1) ∧ W.cell? ⟨g, o + k * 4 + 1, none⟩ = some (.int .i64 m2) ∧ W.cell? ⟨g, o + k * 4 + 2, none⟩ = some (.int .i64 m3) ∧ W.cell? ⟨g, o + k * 4 + 3, none⟩ = some (.int .i64 (c : Int))) := Lib.hid (fun W h k hk => by
    obtain ⟨g, o, ⟨⟨m1, m2, m3⟩, c⟩, i1, i2, i3⟩ := hls k hk
    obtain ⟨c0, c1, c2, c3⟩ := part_keeps _ _ _ _ _ _ h (Nat.le_refl _) i3
    exact ⟨g, o, m1, m2, m3, c, i1, i2, c0, c1, c2, c3⟩)
  have HT : Hid (∀ k, sumP (xs.take k) ≤ 100000) := Lib.hid (fun k => Nat.le_trans (sumP_take_le xs k) hs)
  have HN := Lib.hid hn
  have hn9 : n ≤ 100000 := by omega
  clear h hls hs hl hn
  go_enter Tryz.func30, Tryz.ntmps30
  go_wp2_with fail
  go_loopw [3, 5, 8] (fun s _ i wr => ∃ k : Nat, k ≤ n ∧ s = .int .i64 (sumP (xs.take k) : Int) ∧ i = .int .i64 (k : Int) ∧ Hid (Below w.heap.size w wr)) (fun _ _ i _ => n - (intOf i).toNat)
  case atStart => exact ⟨0, by omega, by simp [sumP], rfl, Lib.hid (Below.refl _ _)⟩
  case round =>
    obtain ⟨k, hk, rfl, rfl, hB⟩ := hrel
    by_cases hlt : k < n
    · obtain ⟨g, o, m1, m2, m3, c, rfl, hm, c0, c1, c2, c3⟩ := HLS.out wr hB.out k hlt
      have hal := (Below.refl wr.heap.size wr).alloc (Nat.le_refl _) (.cells #[.int .i64 m1, .int .i64 m2, .int .i64 m3, .int .i64 (c : Int)] 39)
      have HB2 := Lib.hid (hB.out.trans (hal.mono hB.out.size))
      have HTK : Hid (sumP (xs.take (k + 1)) = sumP (xs.take k) + c) := Lib.hid (sumP_take hm)
      have ht1 := HT.out (k + 1)
      rw [HTK.out] at ht1
      generalize sumP (xs.take k) = s at ht1 HTK ⊢
      clear hal hm
      go_wp2_with fail
      go_roundw
      case rel => exact ⟨k + 1, by omega, by rw [HTK.out]; go_num, by go_num, HB2⟩
      case measure => simp [intOf]; omega
    · obtain rfl : k = n := by omega
      have htk : xs.take k = xs := List.take_of_length_le (by rw [HN.out]; exact Nat.le_refl _)
      rw [htk]
      clear htk
      go_wp2_with fail
      go_ret
      exact ⟨rfl, hB.out⟩

/-! ### The counter -/
/-- A counter at cb, with a board at bb (in blocks of the kind D) and its tree t. -/
structure Ctr (D : Nat → Prop) (W : World) (cb bb : Nat) (r : RulesD) (q : PlaceD) (es : List PlaceD) (t : Nat) : Prop where
  row : W.heap[cb]? = some (.cells #[.pointer (some ⟨bb, 0, none⟩), .int .i64 (t : Int)] 81 (0, 0))
  brd : Brd (fun _ => True) D W bb r q es
  nd : ¬ D cb
  lt : bb < cb
theorem Ctr.size {D : Nat → Prop} {W : World} {cb bb : Nat} {r : RulesD} {q : PlaceD} {es : List PlaceD} {t : Nat} (h : Ctr D W cb bb r q es t) : cb < W.heap.size := (Array.getElem?_eq_some_iff.1 h.row).1
theorem Ctr.keep {D : Nat → Prop} {W W' : World} {cb bb : Nat} {r : RulesD} {q : PlaceD} {es : List PlaceD} {t : Nat} (h : Ctr D W cb bb r q es t) (hb : Below W.heap.size W W') : Ctr D W' cb bb r q es t :=
  ⟨(hb.block cb h.size).trans h.row, h.brd.keep hb, h.nd, h.lt⟩
theorem Ctr.cells {D : Nat → Prop} {W : World} {cb bb : Nat} {r : RulesD} {q : PlaceD} {es : List PlaceD} {t : Nat} (h : Ctr D W cb bb r q es t) : W.cell? ⟨cb, 0, none⟩ = some (.pointer (some ⟨bb, 0, none⟩)) ∧ W.cell? ⟨cb, 1, none⟩ = some (.int .i64 (t : Int)) ∧ W.frozen? ⟨cb, 1, none⟩ = false :=
  ⟨cell_of_row W cb 0 _ _ (0, 0) h.row, cell_of_row W cb 1 _ _ (0, 0) h.row, frozen_of_row W cb 1 _ _ h.row⟩
/-- The tree is written. -/
theorem Ctr.put {D : Nat → Prop} {W : World} {cb bb : Nat} {r : RulesD} {q : PlaceD} {es : List PlaceD} {t : Nat} (h : Ctr D W cb bb r q es t) (u : Nat) : Ctr D (W.setCell ⟨cb, 1, none⟩ (.int .i64 (u : Int))) cb bb r q es u ∧ Fram (fun j => D j ∨ j = cb) W (W.setCell ⟨cb, 1, none⟩ (.int .i64 (u : Int))) := by
  have h1 : ∀ k, k ≠ cb → (W.setCell ⟨cb, 1, none⟩ (.int .i64 (u : Int))).heap[k]? = W.heap[k]? := fun k hk => heap_setCell_other _ _ _ _ hk
  have hs : (W.setCell ⟨cb, 1, none⟩ (.int .i64 (u : Int))).heap.size = W.heap.size := by simp
  have hb : Below cb W (W.setCell ⟨cb, 1, none⟩ (.int .i64 (u : Int))) := (Below.refl _ _).setCell (p := ⟨cb, 1, none⟩) (Nat.le_refl _) _
  refine ⟨⟨heap_setCell_same _ cb 1 _ _ (.int .i64 (u : Int)) h.row, h.brd.keepOn (fun k hk _ => h1 k (by have := h.lt; omega)) (by omega) (fun k hk => h1 k (fun e => h.nd (e ▸ hk))), h.nd, h.lt⟩, ⟨hb.os, hb.tape, hb.output, by omega, fun k _ hk => h1 k (fun e => hk (.inr e))⟩⟩
theorem Fram.weak {D E : Nat → Prop} {w w' : World} (h : Fram D w w') (hd : ∀ k, k < w.heap.size → D k → E k) : Fram E w w' := ⟨h.os, h.tape, h.output, h.size, fun k hk hn => h.block k hk (fun hd' => hn (hd k hk hd'))⟩
/-- Two steps, where the second one's blocks are old ones of the kind, or new. -/
theorem Fram.then {D E : Nat → Prop} {a b c : World} (h : Fram D a b) (h2 : Fram E b c) (he : ∀ k, E k → D k ∨ a.heap.size ≤ k) : Fram D a c :=
  ⟨h2.os.trans h.os, h2.tape.trans h.tape, h2.output.trans h.output, Nat.le_trans h.size h2.size, fun k hk hn => (h2.block k (by have := h.size; omega) (fun g => by rcases he k g with g | g; exact hn g; omega)).trans (h.block k hk hn)⟩
theorem Fram.thenB {D : Nat → Prop} {a b c : World} (h : Fram D a b) (h2 : Below a.heap.size b c) : Fram D a c :=
  ⟨h2.os.trans h.os, h2.tape.trans h.tape, h2.output.trans h.output, Nat.le_trans h.size h2.size, fun k hk hn => (h2.block k hk).trans (h.block k hk hn)⟩
/-- What a call leaves of a counter: another kind of blocks, which has grown by new ones. -/
structure Left (D : Nat → Prop) (W W' : World) (cb bb : Nat) (r : RulesD) (q : PlaceD) (es : List PlaceD) (u : Nat) (D' : Nat → Prop) : Prop where
  ctr : Ctr D' W' cb bb r q es u
  new : ∀ j, D' j → D j ∨ W.heap.size ≤ j
  fram : Fram (fun j => D j ∨ j = cb) W W'
theorem Left.zero {D : Nat → Prop} {W W' : World} {cb bb : Nat} {r : RulesD} {q : PlaceD} {es : List PlaceD} {t : Nat} (h : Ctr D W cb bb r q es t) (hb : Below W.heap.size W W') : Left D W W' cb bb r q es t D :=
  ⟨h.keep hb, fun _ h => .inl h, Fram.of hb⟩
theorem Left.keep {D D' : Nat → Prop} {W X X' : World} {cb bb : Nat} {r : RulesD} {q : PlaceD} {es : List PlaceD} {u : Nat} (h : Left D W X cb bb r q es u D') (hb : Below X.heap.size X X') : Left D W X' cb bb r q es u D' :=
  ⟨h.ctr.keep hb, h.new, h.fram.thenB (hb.mono h.fram.size)⟩
theorem Left.trans {D D' E : Nat → Prop} {W X Y : World} {cb bb : Nat} {r : RulesD} {q p : PlaceD} {es fs : List PlaceD} {u v : Nat} (h : Left D W X cb bb r q es u D') (h2 : Left D' X Y cb bb r p fs v E) : Left D W Y cb bb r p fs v E := by
  refine ⟨h2.ctr, fun j hj => ?_, h.fram.then h2.fram fun j hj => ?_⟩
  · rcases h2.new j hj with g | g
    · exact h.new j g
    · have := h.fram.size; exact .inr (by omega)
  · rcases hj with g | g
    · rcases h.new j g with g | g
      · exact .inl (.inl g)
      · exact .inr g
    · exact .inl (.inr g)
theorem Left.put {D D' : Nat → Prop} {W X : World} {cb bb : Nat} {r : RulesD} {q : PlaceD} {es : List PlaceD} {u : Nat} (h : Left D W X cb bb r q es u D') (v : Nat) : Left D W (X.setCell ⟨cb, 1, none⟩ (.int .i64 (v : Int))) cb bb r q es v D' :=
  h.trans ⟨(h.ctr.put v).1, fun _ h => .inl h, (h.ctr.put v).2⟩
/-- Do and Undo, beside a counter. -/
theorem Ctr.doOk {D : Nat → Prop} {W : World} {cb bb : Nat} {r : RulesD} {q : PlaceD} {es : List PlaceD} {t : Nat} (h : Ctr D W cb bb r q es t) {m : MoveD} (hm : m ∈ stepsD r q) (hn : es.length ≤ 100) :
    Calls Tryz.prog 87 #[.pointer (some ⟨bb, 0, none⟩), moveV m] W fun e w' => e = .returned (.int .i64 0) ∧ Fram D W w' ∧ ∃ D', Left D W w' cb bb r (afterD r q m) (es ++ [q]) t D' := by
  obtain ⟨hz, hl⟩ := steps_legal hm
  refine (do_ok h.brd hz m hl hn).mono ?_
  rintro e w' ⟨rfl, h1, h2⟩
  refine ⟨rfl, h2, _, ⟨(h2.block cb h.size h.nd).trans h.row, h1, fun g => ?_, h.lt⟩, fun j hj => ?_, h2.weak (fun k _ hk => .inl hk)⟩
  · rcases g with g | g
    · exact h.nd g
    · have := h.size; omega
  · rcases hj with g | g
    · exact .inl g
    · exact .inr g.1
theorem Ctr.undoOk {D : Nat → Prop} {W : World} {cb bb : Nat} {r : RulesD} {q p : PlaceD} {es : List PlaceD} {t : Nat} (h : Ctr D W cb bb r q (es ++ [p]) t) (hn : es.length ≤ 1000) :
    Calls Tryz.prog 88 #[.pointer (some ⟨bb, 0, none⟩)] W fun e w' => e = .returned (.int .i64 0) ∧ Left D W w' cb bb r p es t D := by
  refine (undo_ok h.brd hn).mono ?_
  rintro e w' ⟨rfl, h1, h2⟩
  exact ⟨rfl, ⟨(h2.block cb h.size h.nd).trans h.row, h1, h.nd, h.lt⟩, fun j hj => .inl hj, h2.weak (fun k _ hk => .inl hk)⟩
/-- Moves, in a row of the call's own. -/
def BFresh (ms : List MoveD) (w : World) (e : Ending) (w' : World) : Prop := ∃ a n c, e = .returned (.slice a n c) ∧ IsSl (Blk (fun j => w.heap.size ≤ j) MoveAt) 3 w' (.slice a n c) ms ∧ n = ms.length ∧ Below w.heap.size w w'
theorem fresh_blk {B : Nat} {W : World} {a : Option Addr} {n c : Nat} {ms : List MoveD} (h : IsSl MoveAt 3 W (.slice a n c) ms) (hf : ∀ z, a = some z → B ≤ z.block) : IsSl (Blk (fun j => B ≤ j) MoveAt) 3 W (.slice a n c) ms := by
  rcases h with h | ⟨g, o, cap, e1, e2, e3, e4, hq⟩
  · exact .inl h
  · simp only [Value.slice.injEq] at e1
    obtain ⟨e5, e6, e7⟩ := e1
    subst e5 e6 e7
    exact .inr ⟨g, o, _, rfl, e2, e3, e4, fun i x hx => ⟨hf _ rfl, hq i x hx⟩⟩
set_option maxHeartbeats 2000000 in
theorem moves_new {W1 : Nat → Prop} {D : Nat → Prop} {W : World} {bb : Nat} {r : RulesD} {q : PlaceD} {es : List PlaceD} (h : Brd W1 D W bb r q es) (hx : resultD r q = 0) :
    Calls Tryz.prog 64 #[.pointer (some ⟨bb, 0, none⟩)] W (BFresh (allD r q) W) := by
  have HR := Lib.hid (bresult h)
  rw [hx] at HR
  obtain ⟨vp, vs, ve, vc, v0, v1, ea, en, ec, news, hv⟩ := h
  have HC : Hid (∀ W', Below W.heap.size W W' → Calls Tryz.prog 34 #[RulesV r vp vs ve, PlaceV q vc v0 v1] W' (FreshPost (allD r q) W')) := Lib.hid (fun W' hb => by
    have hk := hv.keep hb
    exact all_fresh r q vp vs ve vc v0 v1 W' (hk.rules W' (fun _ _ _ => rfl) (Nat.le_refl _)) hk.now.plain hk.ok)
  have HG : Hid (∀ W', Below W.heap.size W W' → Got16 W' bb r vp vs ve q vc v0 v1) := Lib.hid (fun W' hb => got16 hv.row hb)
  unfold Got16 at HG
  unfold RulesV PlaceV PlaceCells at HC
  obtain ⟨L, hL⟩ : ∃ L, L = allD r q := ⟨_, rfl⟩
  rw [← hL] at HC ⊢
  clear hv hx hL
  go_enter Tryz.func64, Tryz.ntmps64
  go_wp2_with fail
  go_at_call 86; refine HR.out.mono ?_; rintro e w1 ⟨rfl, hb⟩
  have HB := Lib.hid hb
  obtain ⟨y0, y1, y2, y3, y4, y5, y6, y7, y8, y9, y10, x0, x1, x2, x3, x4⟩ := HG.out w1 hb
  clear hb HR
  go_wp2_with fail
  have hBc : Below W.heap.size W w1.drew := HB.out.drew
  go_region_held3 (fun w' => w'.cell? ⟨bb, 0, none⟩ = some (.string r.name) ∧ w'.cell? ⟨bb, 1, none⟩ = some (.int .i64 r.width) ∧ w'.cell? ⟨bb, 2, none⟩ = some (.int .i64 r.height) ∧ w'.cell? ⟨bb, 3, none⟩ = some (vp) ∧ w'.cell? ⟨bb, 4, none⟩ = some (vs) ∧ w'.cell? ⟨bb, 5, none⟩ = some (.bool r.falls) ∧ w'.cell? ⟨bb, 6, none⟩ = some (.bool r.keeps) ∧ w'.cell? ⟨bb, 7, none⟩ = some (ve) ∧ w'.cell? ⟨bb, 8, none⟩ = some (.int .i64 r.blocked) ∧ w'.cell? ⟨bb, 9, none⟩ = some (.int .i64 r.quiet) ∧ w'.cell? ⟨bb, 10, none⟩ = some (.int .i64 r.rep) ∧ w'.cell? ⟨bb, 11, none⟩ = some (vc) ∧ w'.cell? ⟨bb, 12, none⟩ = some (v0) ∧ w'.cell? ⟨bb, 13, none⟩ = some (v1) ∧ w'.cell? ⟨bb, 14, none⟩ = some (.int .i64 q.turn) ∧ w'.cell? ⟨bb, 15, none⟩ = some (.int .i64 q.quiet)) (with_reducible exact HG.out _ hBc) (first
    | (go_at_call 34; refine (HC.out _ hBc).mono ?_; rintro e w5 ⟨la, ln, lc, rfl, hI, hln, hfr, hb⟩; have hI := fresh_blk hI (fun z hz => Nat.le_trans hBc.size (hfr z hz)); have HLN := Lib.hid hln; clear hln hfr; have hB5 : Below W.heap.size W w5 := hBc.trans (hb.mono hBc.size); have hBc := hB5; clear hb))
  have HB5 := Lib.hid hB5
  have HI := Lib.hid hI
  clear hB5 hI
  go_wp2_with fail
  go_ret
  exact ⟨la, ln, lc, rfl, HI.out, HLN.out, HB5.out⟩
theorem moves_steps {W1 : Nat → Prop} {D : Nat → Prop} {W : World} {bb : Nat} {r : RulesD} {q : PlaceD} {es : List PlaceD} (h : Brd W1 D W bb r q es) :
    Calls Tryz.prog 64 #[.pointer (some ⟨bb, 0, none⟩)] W (BFresh (stepsD r q) W) := by
  unfold stepsD
  by_cases hx : resultD r q = 0
  · rw [if_pos hx]; exact moves_new h hx
  · rw [if_neg hx]
    refine (moves_over h hx).mono ?_
    rintro e w' ⟨rfl, hb⟩
    exact ⟨none, 0, 0, rfl, .inl ⟨rfl, _, _, rfl⟩, rfl, hb⟩
end Go.Proofs.YtdhhdkbnlddnbaaGreatDoor
