/- Boards: what lies in memory, and New, Turn, Len, Undo, Position. (Written by genbrd.py.) -/
import Derived.Test.YtdhhdkbnlddnbaaGreatDoorClnA
import Derived.Test.YtdhhdkbnlddnbaaGreatDoorOthA
import Derived.Test.YtdhhdkbnlddnbaaGreatDoorEndA
import Derived.Deep.RegionHeld3
import Derived.OwnWalk
set_option maxRecDepth 100000
namespace Go.Proofs.YtdhhdkbnlddnbaaGreatDoor
open Go.ChangeShapes Go.WideShapes Go.ChangeAt Go.RowKit

/-- The cells of a board. -/
def BCells (r : RulesD) (vp vs ve : Value) (q : PlaceD) (vc v0 v1 ev : Value) : Array Value :=
  #[.string r.name, .int .i64 r.width, .int .i64 r.height, vp, vs, .bool r.falls, .bool r.keeps, ve, .int .i64 r.blocked, .int .i64 r.quiet, .int .i64 r.rep, vc, v0, v1, .int .i64 q.turn, .int .i64 q.quiet, ev]
/-- A block of a board's own that no later move writes into. -/
def BOk (D : Nat → Prop) (bb : Nat) (ea : Option Addr) (k : Nat) : Prop := D k ∧ k ≠ bb ∧ ∀ a, ea = some a → k ≠ a.block
/-- Positions in a row: what their cells hold. -/
def RowOf (d : Nat → Prop) (W : World) (ps : List PlaceD) (news : List Value) : Prop :=
  ∀ i p, ps[i]? = some p → ∃ ca cn cc a0 n0 c0 a1 n1 c1, (∀ j, j < 5 → news[i * 5 + j]? = (PlaceCells p (.slice ca cn cc) (.slice a0 n0 c0) (.slice a1 n1 c1))[j]?) ∧ PlaceF d W p (.slice ca cn cc) (.slice a0 n0 c0) (.slice a1 n1 c1)
/-- What holds in every later world that agrees, below block bb, on the blocks of a kind. -/
def Fast (c : Nat → Prop) (W : World) (bb : Nat) (Q : World → Prop) : Prop := ∀ W', (∀ k, k < bb → c k → W'.heap[k]? = W.heap[k]?) → W.heap.size ≤ W'.heap.size → Q W'
theorem Fast.on {c : Nat → Prop} {W W' : World} {bb : Nat} {Q : World → Prop} (h : Fast c W bb Q) (hb : ∀ k, k < bb → c k → W'.heap[k]? = W.heap[k]?) (hs : W.heap.size ≤ W'.heap.size) : Fast c W' bb Q := fun W2 h2 h3 => h W2 (fun k hk hc => (h2 k hk hc).trans (hb k hk hc)) (by omega)
/-- A board lies at bb: its rules (older than bb, in blocks of the kind W1 that are never written), its position, and the earlier ones. All that it writes into, and its positions, are blocks of the kind D. -/
structure BrdV (W1 : Nat → Prop) (D : Nat → Prop) (W : World) (bb : Nat) (r : RulesD) (q : PlaceD) (es : List PlaceD) (vp vs ve vc v0 v1 : Value) (ea : Option Addr) (en ec : Nat) (news : List Value) : Prop where
  row : W.heap[bb]? = some (.cells (BCells r vp vs ve q vc v0 v1 (.slice ea en ec)) 101 (0, 0))
  rules : Fast W1 W bb fun W' => RulesIn W' r vp vs ve
  dir : Fast W1 W bb Dir
  now : PlaceF (BOk D bb ea) W q vc v0 v1
  own : W.ownsRow (bb + 1) 29 5 (.slice ea en ec) es.length news
  old : RowOf (BOk D bb ea) W es news
  db : D bb
  de : ∀ a, ea = some a → D a.block
  lt : ∀ k, D k → k < W.heap.size
  ok : POkay r q
  oks : ∀ p ∈ es, POkay r p
def Brd (W1 : Nat → Prop) (D : Nat → Prop) (W : World) (bb : Nat) (r : RulesD) (q : PlaceD) (es : List PlaceD) : Prop := ∃ vp vs ve vc v0 v1 ea en ec news, BrdV W1 D W bb r q es vp vs ve vc v0 v1 ea en ec news
/-- Blocks of other kinds are as they were. -/
structure Fram (D : Nat → Prop) (w w' : World) : Prop where
  os : w'.os = w.os
  tape : w'.tape = w.tape
  output : w'.output = w.output
  size : w.heap.size ≤ w'.heap.size
  block : ∀ k, k < w.heap.size → ¬ D k → w'.heap[k]? = w.heap[k]?
theorem Fram.of {D : Nat → Prop} {w w' : World} (h : Below w.heap.size w w') : Fram D w w' := ⟨h.os, h.tape, h.output, h.size, fun k hk _ => h.block k hk⟩
theorem Fram.below {D : Nat → Prop} {w w' : World} (h : Fram D w w') {B : Nat} (hB : B ≤ w.heap.size) (hD : ∀ k, D k → B ≤ k) : Below B w w' := ⟨h.os, h.tape, h.output, h.size, fun k hk => h.block k (by omega) (fun hd => by have := hD k hd; omega)⟩
theorem Fram.trans {D : Nat → Prop} {a b c : World} (h : Fram D a b) (h2 : Fram D b c) : Fram D a c := ⟨h2.os.trans h.os, h2.tape.trans h.tape, h2.output.trans h.output, Nat.le_trans h.size h2.size, fun k hk hd => (h2.block k (by have := h.size; omega) hd).trans (h.block k hk hd)⟩
/-- The kind of a board's blocks behind a call: what has come is of it, too. -/
def Grow (D : Nat → Prop) (W W' : World) (k : Nat) : Prop := D k ∨ (W.heap.size ≤ k ∧ k < W'.heap.size)
theorem RowOf.on {d e : Nat → Prop} {W W' : World} {ps : List PlaceD} {news : List Value} (h : RowOf d W ps news) (hs : ∀ k, d k → k < W.heap.size → W'.heap[k]? = W.heap[k]?) (hd : ∀ k, d k → e k) : RowOf e W' ps news := fun i p hi => by
  obtain ⟨ca, cn, cc, a0, n0, c0, a1, n1, c1, h1, h2⟩ := h i p hi
  exact ⟨ca, cn, cc, a0, n0, c0, a1, n1, c1, h1, h2.on hs hd⟩
theorem own_at {W W' : World} {B : Nat} {e : TypeId} {size n : Nat} {ea : Option Addr} {en ec : Nat} {xs : List Value} (h : W.ownsRow B e size (.slice ea en ec) n xs) (hs : ∀ a, ea = some a → W'.heap[a.block]? = W.heap[a.block]?) : W'.ownsRow B e size (.slice ea en ec) n xs := by
  refine ⟨h.1, ?_⟩
  rcases h.2 with hn | ⟨g, cap, cur, hv, hb, hg, rest⟩
  · exact .inl hn
  · refine .inr ⟨g, cap, cur, hv, hb, ?_, rest⟩
    simp only [Value.slice.injEq] at hv
    exact (hs _ hv.1).trans hg
theorem BrdV.keepOn {W1 : Nat → Prop} {D : Nat → Prop} {W W' : World} {bb : Nat} {r : RulesD} {q : PlaceD} {es : List PlaceD} {vp vs ve vc v0 v1 : Value} {ea : Option Addr} {en ec : Nat} {news : List Value} (h : BrdV W1 D W bb r q es vp vs ve vc v0 v1 ea en ec news) (hb : ∀ k, k < bb → W1 k → W'.heap[k]? = W.heap[k]?) (hs : W.heap.size ≤ W'.heap.size) (hd : ∀ k, D k → W'.heap[k]? = W.heap[k]?) : BrdV W1 D W' bb r q es vp vs ve vc v0 v1 ea en ec news :=
  ⟨(hd bb h.db).trans h.row, h.rules.on hb hs, h.dir.on hb hs, h.now.on (fun k hk _ => hd k hk.1) (fun _ h => h), own_at h.own (fun a ha => hd _ (h.de a ha)), h.old.on (fun k hk _ => hd k hk.1) (fun _ h => h), h.db, h.de, fun k hk => Nat.lt_of_lt_of_le (h.lt k hk) hs, h.ok, h.oks⟩
theorem BrdV.keep {W1 : Nat → Prop} {D : Nat → Prop} {W W' : World} {bb : Nat} {r : RulesD} {q : PlaceD} {es : List PlaceD} {vp vs ve vc v0 v1 : Value} {ea : Option Addr} {en ec : Nat} {news : List Value} (h : BrdV W1 D W bb r q es vp vs ve vc v0 v1 ea en ec news) (hb : Below W.heap.size W W') : BrdV W1 D W' bb r q es vp vs ve vc v0 v1 ea en ec news :=
  h.keepOn (fun k hk _ => hb.block k (by have := h.lt bb h.db; omega)) hb.size (fun k hk => hb.block k (h.lt k hk))
theorem Brd.keep {W1 : Nat → Prop} {D : Nat → Prop} {W W' : World} {bb : Nat} {r : RulesD} {q : PlaceD} {es : List PlaceD} (h : Brd W1 D W bb r q es) (hb : Below W.heap.size W W') : Brd W1 D W' bb r q es := by
  obtain ⟨vp, vs, ve, vc, v0, v1, ea, en, ec, news, hv⟩ := h
  exact ⟨vp, vs, ve, vc, v0, v1, ea, en, ec, news, hv.keep hb⟩
theorem Brd.keepOn {W1 : Nat → Prop} {D : Nat → Prop} {W W' : World} {bb : Nat} {r : RulesD} {q : PlaceD} {es : List PlaceD} (h : Brd W1 D W bb r q es) (hb : ∀ k, k < bb → W1 k → W'.heap[k]? = W.heap[k]?) (hs : W.heap.size ≤ W'.heap.size) (hd : ∀ k, D k → W'.heap[k]? = W.heap[k]?) : Brd W1 D W' bb r q es := by
  obtain ⟨vp, vs, ve, vc, v0, v1, ea, en, ec, news, hv⟩ := h
  exact ⟨vp, vs, ve, vc, v0, v1, ea, en, ec, news, hv.keepOn hb hs hd⟩
theorem Brd.ok {W1 : Nat → Prop} {D : Nat → Prop} {W : World} {bb : Nat} {r : RulesD} {q : PlaceD} {es : List PlaceD} (h : Brd W1 D W bb r q es) : POkay r q ∧ (∀ p ∈ es, POkay r p) ∧ (∀ k, D k → k < W.heap.size) ∧ D bb := by
  obtain ⟨vp, vs, ve, vc, v0, v1, ea, en, ec, news, hv⟩ := h
  exact ⟨hv.ok, hv.oks, hv.lt, hv.db⟩
/-- The facts that the walks of a board's methods want. -/
def BFacts (W : World) (bb : Nat) (r : RulesD) (vp vs ve : Value) (q : PlaceD) (vc v0 v1 ev : Value) : Prop := BoxR W bb r vp vs ve ∧ (W.cell? ⟨bb, 11, none⟩ = some vc ∧ W.cell? ⟨bb, 12, none⟩ = some v0 ∧ W.cell? ⟨bb, 13, none⟩ = some v1 ∧ W.cell? ⟨bb, 14, none⟩ = some (.int .i64 q.turn) ∧ W.cell? ⟨bb, 15, none⟩ = some (.int .i64 q.quiet)) ∧ W.cell? ⟨bb, 16, none⟩ = some ev
theorem bfacts {W : World} {bb : Nat} {r : RulesD} {vp vs ve : Value} {q : PlaceD} {vc v0 v1 ev : Value} {t : TypeId} (h : W.heap[bb]? = some (.cells (BCells r vp vs ve q vc v0 v1 ev) t (0, 0))) : BFacts W bb r vp vs ve q vc v0 v1 ev := by
  have hc : ∀ i, W.cell? ⟨bb, i, none⟩ = (BCells r vp vs ve q vc v0 v1 ev)[i]? := fun i => cell_of_row W bb i _ t (0, 0) h
  exact ⟨⟨hc 0, hc 1, hc 2, hc 3, hc 4, hc 5, hc 6, hc 7, hc 8, hc 9, hc 10⟩, ⟨hc 11, hc 12, hc 13, hc 14, hc 15⟩, hc 16⟩
theorem bfrozen {W : World} {bb : Nat} {cs : Array Value} {t : TypeId} (h : W.heap[bb]? = some (.cells cs t (0, 0))) (i : Nat) : W.frozen? ⟨bb, i, none⟩ = false := frozen_of_row W bb i _ t h
/-- The facts keep where nothing below is written. -/
theorem bkeep {W W' : World} {bb : Nat} {cs : Array Value} {t : TypeId} {fr : Nat × Nat} (h : W.heap[bb]? = some (.cells cs t fr)) (hb : Below W.heap.size W W') : W'.heap[bb]? = some (.cells cs t fr) := (hb.block bb (Array.getElem?_eq_some_iff.1 h).1).trans h

/-! ### Turn and Len -/
theorem own_len {W : World} {B : Nat} {e : TypeId} {size n : Nat} {ea : Option Addr} {en ec : Nat} {xs : List Value} (h : W.ownsRow B e size (.slice ea en ec) n xs) : en = n := by
  rcases h.2 with ⟨h1, h2⟩ | ⟨g, cap, cur, h1, _⟩
  · simp only [Value.slice.injEq] at h1; omega
  · simp only [Value.slice.injEq] at h1; exact h1.2.1
theorem len_any {W1 : Nat → Prop} {D : Nat → Prop} {W : World} {bb : Nat} {r : RulesD} {q : PlaceD} {es : List PlaceD} (h : Brd W1 D W bb r q es) :
    Calls Tryz.prog 106 #[.pointer (some ⟨bb, 0, none⟩)] W (BelPost (.int .i64 (es.length : Int)) W) := by
  obtain ⟨vp, vs, ve, vc, v0, v1, ea, en, ec, news, hv⟩ := h
  obtain ⟨-, -, z0⟩ := bfacts hv.row
  have HL := Lib.hid (own_len hv.own)
  clear hv
  go_enter Tryz.func106, Tryz.ntmps106
  go_wp2_with fail
  go_ret
  exact ⟨ret_i64 (by rw [HL.out]), Below.refl _ _⟩

/-! ### New -/
theorem ints_lt {d : Nat → Prop} {W : World} {v : Value} {xs : List Int} (h : IsSl (Blk d IntAt) 1 W v xs) : IsSl (Blk (fun k => d k ∧ k < W.heap.size) IntAt) 1 W v xs := h.mono fun _ _ _ hx => ⟨⟨hx.1, World.block_lt_of_cell? _ _ hx.2⟩, hx.2⟩
theorem PlaceF.lt {d : Nat → Prop} {W : World} {p : PlaceD} {vc v0 v1 : Value} (h : PlaceF d W p vc v0 v1) : PlaceF (fun k => d k ∧ k < W.heap.size) W p vc v0 v1 := ⟨ints_lt h.c, ints_lt h.a, ints_lt h.b⟩
def NewOk (W1 : Nat → Prop) (r : RulesD) (q : PlaceD) (w : World) (e : Ending) (w' : World) : Prop :=
  ∃ bb, e = .returned (.tuple #[.pointer (some ⟨bb, 0, none⟩), .int .i64 0]) ∧ Brd W1 (fun k => w.heap.size ≤ k ∧ k < w'.heap.size) w' bb r q [] ∧ Below w.heap.size w w'
def NewBad (c : Int) (w : World) (e : Ending) (w' : World) : Prop := e = .returned (.tuple #[.pointer none, .int .i64 c]) ∧ Below w.heap.size w w'
set_option maxHeartbeats 8000000 in
theorem new_bad (r : RulesD) (p : PlaceD) (vp vs ve vc v0 v1 : Value) (w : World) (hr : RulesIn w r vp vs ve) (hp : PlaceIn w p vc v0 v1) (hz : placeE r p ≠ 0) :
    Calls Tryz.prog 45 #[RulesV r vp vs ve, PlaceV p vc v0 v1] w (NewBad (placeE r p) w) := by
  obtain ⟨hB, hY, hX⟩ := rp_boxes w r p vp vs ve vc v0 v1
  obtain ⟨V, hV⟩ : ∃ V, V = (w.alloc (.cells (RulesCells r vp vs ve) 26)).alloc (.cells (PlaceCells p vc v0 v1) 29) := ⟨_, rfl⟩
  rw [← hV] at hB hY hX
  have HB := Lib.hid hB
  have HPC := Lib.hid (pclone_bad r p vp vs ve vc v0 v1 V (hr.below hB (Nat.le_refl _)) (hp.below hB (Nat.le_refl _)) hz)
  obtain ⟨c, hc⟩ : ∃ c, c = placeE r p := ⟨_, rfl⟩
  rw [← hc] at HPC hz ⊢
  have hne : (c != 0) = true := by simpa using hz
  obtain ⟨x0, x1, x2, x3, x4⟩ := hX
  obtain ⟨y0, y1, y2, y3, y4, y5, y6, y7, y8, y9, y10⟩ := hY
  have hV' := hV
  unfold RulesCells PlaceCells at hV'
  unfold RulesV PlaceV PlaceCells at HPC ⊢
  rw [hV] at x0 x1 x2 x3 x4 y0 y1 y2 y3 y4 y5 y6 y7 y8 y9 y10
  clear hr hp hz hc hB hV
  go_enter Tryz.func45, Tryz.ntmps45
  go_wp2_with fail
  rw [← hV']
  clear hV' x0 x1 x2 x3 x4 y0 y1 y2 y3 y4 y5 y6 y7 y8 y9 y10
  go_at_call 62; refine HPC.out.mono ?_; rintro e w1 ⟨rfl, hb⟩
  have hal := (Below.refl w1.heap.size w1).alloc (Nat.le_refl _) (.cells #[.slice none 0 0, .slice none 0 0, .slice none 0 0, .int .i64 0, .int .i64 0] 29)
  have HBE := Lib.hid (HB.out.trans ((hb.trans (hal.mono hb.size)).mono HB.out.size))
  clear hal hb HB HPC
  go_wp2_with fail
  go_ret2
  exact ⟨rfl, HBE.out⟩
set_option maxHeartbeats 8000000 in
theorem new_ok (W1 : Nat → Prop) (r : RulesD) (p : PlaceD) (vp vs ve vc v0 v1 : Value) (w : World) (hr : RulesIn w r vp vs ve) (hp : PlaceIn w p vc v0 v1) (hok : POkay r p) (hT : Dir w) (hcf : ∀ k, w.heap.size ≤ k → W1 k) (hpc : IsSl (PieceIn W1) 4 w vp r.pieces) (hcd : W1 0) :
    Calls Tryz.prog 45 #[RulesV r vp vs ve, PlaceV p vc v0 v1] w (NewOk W1 r p w) := by
  obtain ⟨hB, hY, hX⟩ := rp_boxes w r p vp vs ve vc v0 v1
  obtain ⟨V, hV⟩ : ∃ V, V = (w.alloc (.cells (RulesCells r vp vs ve) 26)).alloc (.cells (PlaceCells p vc v0 v1) 29) := ⟨_, rfl⟩
  rw [← hV] at hB hY hX
  have HB := Lib.hid hB
  have HPC := Lib.hid (pclone_ok r p vp vs ve vc v0 v1 V (hr.below hB (Nat.le_refl _)) (hp.below hB (Nat.le_refl _)) hok)
  have HRC : Hid (∀ W, Below V.heap.size V W → Calls Tryz.prog 63 #[RulesV r vp vs ve] W (RClone W1 r W)) := Lib.hid (fun W h => rclone_ok W1 r vp vs ve W ((hr.below hB (Nat.le_refl _)).below h (Nat.le_refl _)) hok.e (fun k hk => hcf k (by have := hB.size; have := h.size; omega)) ((hpc.below (pieceIn_keeps _) hB (Nat.le_refl _)).below (pieceIn_keeps _) h (Nat.le_refl _)))
  have HDD := Lib.hid hT
  have HCD := Lib.hid hcd
  have HY : Hid (∀ W, Below V.heap.size V W → BoxR W w.heap.size r vp vs ve) := Lib.hid (fun W hb => hY.below hb (Nat.le_refl _))
  have HOK := Lib.hid hok
  obtain ⟨x0, x1, x2, x3, x4⟩ := hX
  obtain ⟨y0, y1, y2, y3, y4, y5, y6, y7, y8, y9, y10⟩ := hY
  have hV' := hV
  unfold RulesCells PlaceCells at hV'
  unfold RulesV at HPC HRC ⊢
  unfold PlaceV PlaceCells at HPC ⊢
  rw [hV] at x0 x1 x2 x3 x4 y0 y1 y2 y3 y4 y5 y6 y7 y8 y9 y10
  clear hr hp hok hB hV hT hcf hpc hcd
  go_enter Tryz.func45, Tryz.ntmps45
  go_wp2_with fail
  rw [← hV']
  clear hV' x0 x1 x2 x3 x4 y0 y1 y2 y3 y4 y5 y6 y7 y8 y9 y10
  go_at_call 62; refine HPC.out.mono ?_; rintro e w2 ⟨ca, cn, cc, a0, n0, c0, a1, n1, c1, rfl, hpf, hb⟩
  have hal := (Below.refl w2.heap.size w2).alloc (Nat.le_refl _) (.cells #[.slice ca cn cc, .slice a0 n0 c0, .slice a1 n1 c1, .int .i64 p.turn, .int .i64 p.quiet] 29)
  have hX3 := boxP_new w2 p (.slice ca cn cc) (.slice a0 n0 c0) (.slice a1 n1 c1) 29
  unfold PlaceCells at hX3
  have hlt3 : w2.heap.size < (w2.alloc (.cells #[.slice ca cn cc, .slice a0 n0 c0, .slice a1 n1 c1, .int .i64 p.turn, .int .i64 p.quiet] 29)).heap.size := by simp
  have hb3 := hb.trans (hal.mono hb.size)
  obtain ⟨y0, y1, y2, y3, y4, y5, y6, y7, y8, y9, y10⟩ := HY.out _ hb3
  have HB3 := Lib.hid (HB.out.trans (hb3.mono HB.out.size))
  have HP3 : Hid (PlaceF (fun k => w.heap.size ≤ k) (w2.alloc (.cells #[.slice ca cn cc, .slice a0 n0 c0, .slice a1 n1 c1, .int .i64 p.turn, .int .i64 p.quiet] 29)) p (.slice ca cn cc) (.slice a0 n0 c0) (.slice a1 n1 c1)) := Lib.hid (hpf.on (fun k _ hk => hal.block k hk) (fun k hk => Nat.le_trans HB.out.size hk))
  have HX3 := Lib.hid hX3
  have HRC3 := Lib.hid (HRC.out _ hb3)
  have HLT := Lib.hid hlt3
  clear hal hX3 hlt3 hb hb3 hpf HB HPC HRC HY
  go_wp2_with fail
  generalize w2.alloc (.cells #[.slice ca cn cc, .slice a0 n0 c0, .slice a1 n1 c1, .int .i64 p.turn, .int .i64 p.quiet] 29) = w3 at HRC3 HLT HX3 HP3 HB3 y0 y1 y2 y3 y4 y5 y6 y7 y8 y9 y10 ⊢
  generalize w2.heap.size = pb at HX3 HLT ⊢
  go_at_call 63; refine HRC3.out.mono ?_; rintro e w4 ⟨ap, np, cp, sa, ns, cs, ea, ne, ce, rfl, hri, hb⟩
  have hal := (Below.refl w4.heap.size w4).alloc (Nat.le_refl _) (.cells #[.string r.name, .int .i64 r.width, .int .i64 r.height, .slice ap np cp, .slice sa ns cs, .bool r.falls, .bool r.keeps, .slice ea ne ce, .int .i64 r.blocked, .int .i64 r.quiet, .int .i64 r.rep] 26)
  have hY5 := boxR_new w4 r (.slice ap np cp) (.slice sa ns cs) (.slice ea ne ce) 26
  unfold RulesCells at hY5
  unfold RulesV
  clear y0 y1 y2 y3 y4 y5 y6 y7 y8 y9 y10
  have hb5 := hb.trans (hal.mono hb.size)
  have HR5 := Lib.hid (hri.stays (Stays.of hal))
  have HB5 := Lib.hid (HB3.out.trans (hb5.mono HB3.out.size))
  have HP5 := Lib.hid (HP3.out.on (fun k _ hk => hb5.block k hk) (fun k hk => hk)).lt
  obtain ⟨x0, x1, x2, x3, x4⟩ := HX3.out.below hb5 (Nat.le_refl _)
  obtain ⟨y0, y1, y2, y3, y4, y5, y6, y7, y8, y9, y10⟩ := hY5
  have e5 : (w4.alloc (.cells #[.string r.name, .int .i64 r.width, .int .i64 r.height, .slice ap np cp, .slice sa ns cs, .bool r.falls, .bool r.keeps, .slice ea ne ce, .int .i64 r.blocked, .int .i64 r.quiet, .int .i64 r.rep] 26)).heap.size = w4.heap.size + 1 := by simp
  have E5 := Lib.hid e5
  clear hal hb hb5 hri HRC3 HX3 HP3 HB3 HLT e5
  go_wp2_with fail
  generalize w4.alloc (.cells #[.string r.name, .int .i64 r.width, .int .i64 r.height, .slice ap np cp, .slice sa ns cs, .bool r.falls, .bool r.keeps, .slice ea ne ce, .int .i64 r.blocked, .int .i64 r.quiet, .int .i64 r.rep] 26) = w5 at E5 HR5 HB5 HP5 x0 x1 x2 x3 x4 y0 y1 y2 y3 y4 y5 y6 y7 y8 y9 y10 ⊢
  rw [← E5.out]
  have hbn := (Below.refl w5.heap.size w5).alloc (Nat.le_refl _) (.cells (BCells r (.slice ap np cp) (.slice sa ns cs) (.slice ea ne ce) p (.slice ca cn cc) (.slice a0 n0 c0) (.slice a1 n1 c1) (.slice none 0 0)) 101)
  have hrw := heap_alloc_new w5 (.cells (BCells r (.slice ap np cp) (.slice sa ns cs) (.slice ea ne ce) p (.slice ca cn cc) (.slice a0 n0 c0) (.slice a1 n1 c1) (.slice none 0 0)) 101)
  have hsz : (w5.alloc (.cells (BCells r (.slice ap np cp) (.slice sa ns cs) (.slice ea ne ce) p (.slice ca cn cc) (.slice a0 n0 c0) (.slice a1 n1 c1) (.slice none 0 0)) 101)).heap.size = w5.heap.size + 1 := by simp
  have hw5 := HB5.out.size
  go_ret2
  refine ⟨w5.heap.size, rfl, ⟨.slice ap np cp, .slice sa ns cs, .slice ea ne ce, .slice ca cn cc, .slice a0 n0 c0, .slice a1 n1 c1, none, 0, 0, [], ?_⟩, HB5.out.alloc HB5.out.size _⟩
  unfold BCells at hbn hrw hsz
  have hdl : 0 < w5.heap.size := Nat.lt_of_lt_of_le HDD.out.size hw5
  exact
    { row := hrw
      rules := fun W' h1 h2 => (HR5.out.stays ⟨fun k hk hc => (h1 k hk hc).trans (hbn.block k hk), Nat.le_trans hbn.size h2⟩).plain
      dir := fun W' h1 _ i z hz => (World.cell?_of_block ((h1 _ hdl HCD.out).trans (hbn.block _ hdl))).trans ((HDD.out.below HB5.out (Nat.le_refl _)) i z hz)
      now := HP5.out.on (fun k hk _ => hbn.block k hk.2) (fun k hk => ⟨⟨hk.1, by rw [hsz]; omega⟩, by omega, fun a ha => by cases ha⟩)
      own := World.ownsRow_nil _ _ _ _
      old := fun i p hi => by simp at hi
      db := ⟨hw5, by rw [hsz]; omega⟩
      de := fun a ha => by cases ha
      lt := fun k hk => hk.2
      ok := HOK.out
      oks := fun p hp => by cases hp }

/-! ### Undo -/
theorem own_cut {W : World} {B : Nat} {e : TypeId} {size g n cap : Nat} {xs : List Value} (h : W.ownsRow B e size (.slice (some ⟨g, 0, none⟩) n cap) n xs) {m : Nat} (hm : m ≤ n) : W.ownsRow B e size (.slice (some ⟨g, 0, none⟩) m cap) m (xs.take (m * size)) := by
  have hms : m * size ≤ n * size := Nat.mul_le_mul_right _ hm
  rcases h.2 with ⟨h1, _⟩ | ⟨g', cap', cur, h1, hb, hg, h2, h3, h4, h5⟩
  · simp at h1
  · simp only [Value.slice.injEq, Option.some.injEq, Addr.mk.injEq, and_true, true_and] at h1
    obtain ⟨rfl, rfl⟩ := h1
    refine ⟨by rw [List.length_take, h.1, Nat.min_eq_left hms], .inr ⟨g, cap, cur, rfl, hb, hg, by omega, h3, h4, ?_⟩⟩
    rw [← h5, List.take_take, Nat.min_eq_left hms]
/-- The cells of a board's position, written one behind the other. -/
def fillB (W : World) (bb : Nat) (p : PlaceD) (vc v0 v1 : Value) : World :=
  ((((W.setCell ⟨bb, 11, none⟩ vc).setCell ⟨bb, 12, none⟩ v0).setCell ⟨bb, 13, none⟩ v1).setCell ⟨bb, 14, none⟩ (.int .i64 p.turn)).setCell ⟨bb, 15, none⟩ (.int .i64 p.quiet)
theorem fillB_row {W : World} {bb : Nat} {r : RulesD} {vp vs ve : Value} {q : PlaceD} {vc v0 v1 ev : Value} {t : TypeId} (h : W.heap[bb]? = some (.cells (BCells r vp vs ve q vc v0 v1 ev) t (0, 0))) (p : PlaceD) (uc u0 u1 : Value) : (fillB W bb p uc u0 u1).heap[bb]? = some (.cells (BCells r vp vs ve p uc u0 u1 ev) t (0, 0)) := by
  have h0 := heap_setCell_same _ bb 11 _ t uc h
  have h1 := heap_setCell_same _ bb 12 _ t u0 h0
  have h2 := heap_setCell_same _ bb 13 _ t u1 h1
  have h3 := heap_setCell_same _ bb 14 _ t (.int .i64 p.turn) h2
  exact heap_setCell_same _ bb 15 _ t (.int .i64 p.quiet) h3
theorem fillB_other (W : World) (bb : Nat) (p : PlaceD) (vc v0 v1 : Value) : (∀ k, k ≠ bb → (fillB W bb p vc v0 v1).heap[k]? = W.heap[k]?) ∧ (fillB W bb p vc v0 v1).heap.size = W.heap.size := by
  refine ⟨fun k hk => ?_, by simp [fillB]⟩
  unfold fillB
  rw [heap_setCell_other _ _ _ _ hk, heap_setCell_other _ _ _ _ hk, heap_setCell_other _ _ _ _ hk, heap_setCell_other _ _ _ _ hk, heap_setCell_other _ _ _ _ hk]
theorem fillB_below {B : Nat} {w W : World} (h : Below B w W) {bb : Nat} (hb : B ≤ bb) (p : PlaceD) (vc v0 v1 : Value) : Below B w (fillB W bb p vc v0 v1) :=
  ((((h.setCell hb _).setCell hb _).setCell hb _).setCell hb _).setCell hb _
theorem bset16 {W : World} {bb : Nat} {r : RulesD} {vp vs ve : Value} {q : PlaceD} {vc v0 v1 ev : Value} {t : TypeId} (h : W.heap[bb]? = some (.cells (BCells r vp vs ve q vc v0 v1 ev) t (0, 0))) (uv : Value) : (W.setCell ⟨bb, 16, none⟩ uv).heap[bb]? = some (.cells (BCells r vp vs ve q vc v0 v1 uv) t (0, 0)) := heap_setCell_same _ bb 16 _ t uv h
theorem below_only {B bb : Nat} {W W' : World} (h1 : ∀ k, k ≠ bb → W'.heap[k]? = W.heap[k]?) (hs : W'.heap.size = W.heap.size) (ho : W'.os = W.os) (ht : W'.tape = W.tape) (hu : W'.output = W.output) (hB : B ≤ bb) : Below B W W' := ⟨ho, ht, hu, by omega, fun k hk => h1 k (by omega)⟩
def UndoOk (W1 : Nat → Prop) (D : Nat → Prop) (bb : Nat) (r : RulesD) (p : PlaceD) (es : List PlaceD) (w : World) (e : Ending) (w' : World) : Prop := e = .returned (.int .i64 0) ∧ Brd W1 D w' bb r p es ∧ Fram D w w'
theorem undo_none {W1 : Nat → Prop} {D : Nat → Prop} {W : World} {bb : Nat} {r : RulesD} {q : PlaceD} (h : Brd W1 D W bb r q []) :
    Calls Tryz.prog 88 #[.pointer (some ⟨bb, 0, none⟩)] W (BelPost (.int .i64 8) W) := by
  have HL := Lib.hid (len_any h)
  clear h
  go_enter Tryz.func88, Tryz.ntmps88
  go_wp2_with fail
  go_at_call 106; refine HL.out.mono ?_; rintro e w1 ⟨rfl, hb⟩
  have HB := Lib.hid hb
  clear hb HL
  go_wp2_with fail
  go_ret
  exact ⟨rfl, HB.out⟩
theorem undo_end {W1 : Nat → Prop} {D : Nat → Prop} {W w1 : World} {bb g n ec : Nat} {r : RulesD} {q p : PlaceD} {es : List PlaceD} {vp vs ve vc v0 v1 : Value} {news : List Value} {ca a0 a1 : Option Addr} {cn cc n0 c0 n1 c1 : Nat} (HB1 : Below W.heap.size W w1) (hV : BrdV W1 D w1 bb r q (es ++ [p]) vp vs ve vc v0 v1 (some ⟨g, 0, none⟩) (n + 1) ec news)
    (hP : PlaceF (BOk D bb (some ⟨g, 0, none⟩)) w1 p (.slice ca cn cc) (.slice a0 n0 c0) (.slice a1 n1 c1)) (hn : n = es.length) : UndoOk W1 D bb r p es W (.returned (.int .i64 0)) ((((((w1.setCell ⟨bb, 11, none⟩ (.slice ca cn cc)).setCell ⟨bb, 12, none⟩ (.slice a0 n0 c0)).setCell ⟨bb, 13, none⟩ (.slice a1 n1 c1)).setCell ⟨bb, 14, none⟩ (.int .i64 p.turn)).setCell ⟨bb, 15, none⟩ (.int .i64 p.quiet)).setCell ⟨bb, 16, none⟩ (.slice (some ⟨g, 0, none⟩) n ec)) := by
  obtain ⟨WA, hWA⟩ : ∃ WA, WA = fillB w1 bb p (.slice ca cn cc) (.slice a0 n0 c0) (.slice a1 n1 c1) := ⟨_, rfl⟩
  have hr5 := fillB_row hV.row p (.slice ca cn cc) (.slice a0 n0 c0) (.slice a1 n1 c1)
  have ho := fillB_other w1 bb p (.slice ca cn cc) (.slice a0 n0 c0) (.slice a1 n1 c1)
  have hbo : ∀ B, B ≤ bb → Below B w1 (WA.setCell ⟨bb, 16, none⟩ (.slice (some ⟨g, 0, none⟩) n ec)) := fun B hB => by rw [hWA]; exact (fillB_below (Below.refl B w1) hB p _ _ _).setCell hB _
  rw [← hWA] at hr5 ho
  unfold fillB at hWA
  rw [← hWA]
  clear hWA
  have hr6 := bset16 hr5 (.slice (some ⟨g, 0, none⟩) n ec)
  have hoo : ∀ k, k ≠ bb → (WA.setCell ⟨bb, 16, none⟩ (.slice (some ⟨g, 0, none⟩) n ec)).heap[k]? = w1.heap[k]? := fun k hk => (heap_setCell_other _ _ _ _ hk).trans (ho.1 k hk)
  have hsz : (WA.setCell ⟨bb, 16, none⟩ (.slice (some ⟨g, 0, none⟩) n ec)).heap.size = w1.heap.size := by rw [World.size_setCell]; exact ho.2
  have hfr : Fram D w1 (WA.setCell ⟨bb, 16, none⟩ (.slice (some ⟨g, 0, none⟩) n ec)) := ⟨(hbo 0 (Nat.zero_le _)).os, (hbo 0 (Nat.zero_le _)).tape, (hbo 0 (Nat.zero_le _)).output, by omega, fun k _ hd => hoo k (fun e => hd (e ▸ hV.db))⟩
  generalize WA.setCell ⟨bb, 16, none⟩ (.slice (some ⟨g, 0, none⟩) n ec) = WF at hr6 hoo hsz hbo hfr ⊢
  have hown := hV.own
  have hl : (es ++ [p]).length = n + 1 := by simp [hn]
  rw [hl] at hown
  have hgb := (hown.lt g rfl).1
  refine ⟨rfl, ⟨vp, vs, ve, .slice ca cn cc, .slice a0 n0 c0, .slice a1 n1 c1, some ⟨g, 0, none⟩, n, ec, news.take (n * 5), ?_⟩, (Fram.of HB1).trans hfr⟩
  exact
    { row := hr6, rules := hV.rules.on (fun k hk _ => hoo k (by omega)) (by omega), dir := hV.dir.on (fun k hk _ => hoo k (by omega)) (by omega)
      now := hP.on (fun k hk _ => hoo k hk.2.1) (fun _ h => h)
      own := by
        have h1 := own_cut (own_keep hown (hoo g (by omega))) (m := n) (by omega)
        rw [← hn]; exact h1
      old := fun i p' hi => by
        have hin : i < n := by rw [hn]; exact (List.getElem?_eq_some_iff.1 hi).1
        obtain ⟨ca', cn', cc', a0', n0', c0', a1', n1', c1', h1, h2⟩ := hV.old i p' (by rw [List.getElem?_append_left (by rw [← hn]; exact hin)]; exact hi)
        exact ⟨ca', cn', cc', a0', n0', c0', a1', n1', c1', fun j hj => by rw [List.getElem?_take, if_pos (by omega)]; exact h1 j hj, h2.on (fun k hk _ => hoo k hk.2.1) (fun _ h => h)⟩
      db := hV.db, de := hV.de, lt := fun k hk => by rw [hsz]; exact hV.lt k hk
      ok := hV.oks p (by simp), oks := fun p' hp' => hV.oks p' (by simp [hp']) }
set_option maxHeartbeats 4000000 in
theorem undo_ok {W1 : Nat → Prop} {D : Nat → Prop} {W : World} {bb : Nat} {r : RulesD} {q p : PlaceD} {es : List PlaceD} (h : Brd W1 D W bb r q (es ++ [p])) (hle : es.length ≤ 1000) :
    Calls Tryz.prog 88 #[.pointer (some ⟨bb, 0, none⟩)] W (UndoOk W1 D bb r p es W) := by
  obtain ⟨n, hn⟩ : ∃ n, n = es.length := ⟨_, rfl⟩
  have hln : (es ++ [p]).length = n + 1 := by simp [hn]
  have HL : Hid (Calls Tryz.prog 106 #[.pointer (some ⟨bb, 0, none⟩)] W (BelPost (.int .i64 ((n : Int) + 1)) W)) := Lib.hid (by
    have h1 := len_any h
    rw [hln] at h1; exact_mod_cast h1)
  obtain ⟨vp, vs, ve, vc, v0, v1, ea, en, ec, news, hv⟩ := h
  have hen := own_len hv.own
  rw [hln] at hen
  subst hen
  have hown := hv.own
  rw [hln] at hown
  obtain ⟨g, cap, he⟩ := Joins.ownsRow_form hown (by omega)
  simp only [Value.slice.injEq, true_and] at he
  obtain ⟨rfl, rfl⟩ := he
  obtain ⟨ca, cn, cc, a0, n0, c0, a1, n1, c1, hcs, hpf⟩ := hv.old n p (by rw [hn]; simp)
  have hel : ∀ j, j < 5 → W.cell? ⟨g, n * 5 + j, none⟩ = (PlaceCells p (.slice ca cn cc) (.slice a0 n0 c0) (.slice a1 n1 c1))[j]? := fun j hj => (hown.cellAt (n * 5 + j) (by omega)).trans (hcs j hj)
  have HV : Hid (∀ W', Below W.heap.size W W' → BrdV W1 D W' bb r q (es ++ [p]) vp vs ve vc v0 v1 (some ⟨g, 0, none⟩) (n + 1) ec news) := Lib.hid (fun W' hb => hv.keep hb)
  have HE : Hid (∀ W', Below W.heap.size W W' → ∀ j, j < 5 → W'.cell? ⟨g, n * 5 + j, none⟩ = (PlaceCells p (.slice ca cn cc) (.slice a0 n0 c0) (.slice a1 n1 c1))[j]?) := Lib.hid (fun W' hb j hj => by
    have h1 := hel j hj
    have h2 : ∃ u, (PlaceCells p (.slice ca cn cc) (.slice a0 n0 c0) (.slice a1 n1 c1))[j]? = some u := ⟨_, Array.getElem?_eq_getElem (show j < (PlaceCells p (.slice ca cn cc) (.slice a0 n0 c0) (.slice a1 n1 c1)).size by simpa [PlaceCells] using hj)⟩
    obtain ⟨u, hu⟩ := h2
    rw [hu] at h1 ⊢
    exact cell_keeps hb (Nat.le_refl _) h1)
  have HPF : Hid (∀ W', Below W.heap.size W W' → PlaceF (BOk D bb (some ⟨g, 0, none⟩)) W' p (.slice ca cn cc) (.slice a0 n0 c0) (.slice a1 n1 c1)) := Lib.hid (fun W' hb => hpf.on (fun k _ hk => hb.block k hk) (fun _ h => h))
  have hc1 : n + 1 ≤ ec := own_cap hown
  have HN := Lib.hid hn
  rw [← hn] at hle
  clear hv hln hown hcs hpf hel hn
  go_enter Tryz.func88, Tryz.ntmps88
  go_wp2_with fail
  go_at_call 106; refine HL.out.mono ?_; rintro e w1 ⟨rfl, hb⟩
  have HV1 := Lib.hid (HV.out w1 hb)
  have HP1 := Lib.hid (HPF.out w1 hb)
  have HB1 := Lib.hid hb
  obtain ⟨-, ⟨x0, x1, x2, x3, x4⟩, z0⟩ := bfacts HV1.out.row
  have f1 := bfrozen HV1.out.row 11
  have f2 := bfrozen HV1.out.row 12
  have f3 := bfrozen HV1.out.row 13
  have f4 := bfrozen HV1.out.row 14
  have f5 := bfrozen HV1.out.row 15
  have f6 := bfrozen HV1.out.row 16
  have e0 : w1.cell? ⟨g, n * 5, none⟩ = some (.slice ca cn cc) := HE.out w1 hb 0 (by decide)
  have e1 : w1.cell? ⟨g, n * 5 + 1, none⟩ = some (.slice a0 n0 c0) := HE.out w1 hb 1 (by decide)
  have e2 : w1.cell? ⟨g, n * 5 + 2, none⟩ = some (.slice a1 n1 c1) := HE.out w1 hb 2 (by decide)
  have e3 : w1.cell? ⟨g, n * 5 + 3, none⟩ = some (.int .i64 p.turn) := HE.out w1 hb 3 (by decide)
  have e4 : w1.cell? ⟨g, n * 5 + 4, none⟩ = some (.int .i64 p.quiet) := HE.out w1 hb 4 (by decide)
  clear hb HV HPF HE HL
  go_wp2_with fail
  go_ret
  exact undo_end HB1.out HV1.out HP1.out HN.out

/-! ### Position -/
def PosPost (q : PlaceD) (w : World) (e : Ending) (w' : World) : Prop :=
  ∃ ca cn cc a0 n0 c0 a1 n1 c1, e = .returned (.agg #[.slice ca cn cc, .slice a0 n0 c0, .slice a1 n1 c1, .int .i64 q.turn, .int .i64 q.quiet]) ∧ PlaceF (fun k => w.heap.size ≤ k) w' q (.slice ca cn cc) (.slice a0 n0 c0) (.slice a1 n1 c1) ∧ Below w.heap.size w w'
/-- A position in a box of the call's own. -/
structure PEnd (U W : World) (b : Nat) (q : PlaceD) (vc v0 v1 : Value) : Prop where
  bel : Below U.heap.size U W
  low : U.heap.size ≤ b
  box : PBox W b 29 q vc v0 v1
  pl : PlaceF (fun k => U.heap.size ≤ k ∧ k ≠ b) W q vc v0 v1
theorem pendA {U w5 : World} {q : PlaceD} {vc v0 v1 : Value} (h5 : Below U.heap.size U w5) (hp : PlaceF (fun k => U.heap.size ≤ k) w5 q vc v0 v1) : PEnd U (w5.alloc (.cells (PlaceCells q vc v0 v1) 29)) w5.heap.size q vc v0 v1 :=
  ⟨h5.alloc h5.size _, h5.size, PBox.new _ _ _ _ _ _, hp.lt.on (fun k hk hl => Below.heap_alloc _ _ _ hl) (fun k hk => ⟨hk.1, by omega⟩)⟩
theorem pendB {U w5 : World} {q : PlaceD} {vc v0 v1 : Value} (h5 : Below U.heap.size U w5) (hbx : PBox w5 U.heap.size 29 zeroP (.slice none 0 0) (.slice none 0 0) (.slice none 0 0)) (hp : PlaceF (fun k => U.heap.size < k) w5 q vc v0 v1) : PEnd U (fillP w5 U.heap.size q vc v0 v1) U.heap.size q vc v0 v1 := by
  have hfo := fillP_other w5 U.heap.size q vc v0 v1
  exact ⟨fillP_below h5 (Nat.le_refl _) q _ _ _, Nat.le_refl _, pbox_fill hbx, hp.on (fun k hk _ => hfo.1 k (by omega)) (fun k hk => by omega)⟩
/-- What the loads of a board's rules and position find, in every later world. -/
def Got16 (w' : World) (bb : Nat) (r : RulesD) (vp vs ve : Value) (q : PlaceD) (vc v0 v1 : Value) : Prop :=
  w'.cell? ⟨bb, 0, none⟩ = some (.string r.name) ∧ w'.cell? ⟨bb, 1, none⟩ = some (.int .i64 r.width) ∧ w'.cell? ⟨bb, 2, none⟩ = some (.int .i64 r.height) ∧ w'.cell? ⟨bb, 3, none⟩ = some (vp) ∧ w'.cell? ⟨bb, 4, none⟩ = some (vs) ∧ w'.cell? ⟨bb, 5, none⟩ = some (.bool r.falls) ∧ w'.cell? ⟨bb, 6, none⟩ = some (.bool r.keeps) ∧ w'.cell? ⟨bb, 7, none⟩ = some (ve) ∧ w'.cell? ⟨bb, 8, none⟩ = some (.int .i64 r.blocked) ∧ w'.cell? ⟨bb, 9, none⟩ = some (.int .i64 r.quiet) ∧ w'.cell? ⟨bb, 10, none⟩ = some (.int .i64 r.rep) ∧ w'.cell? ⟨bb, 11, none⟩ = some (vc) ∧ w'.cell? ⟨bb, 12, none⟩ = some (v0) ∧ w'.cell? ⟨bb, 13, none⟩ = some (v1) ∧ w'.cell? ⟨bb, 14, none⟩ = some (.int .i64 q.turn) ∧ w'.cell? ⟨bb, 15, none⟩ = some (.int .i64 q.quiet)
theorem got16 {W W' : World} {bb : Nat} {r : RulesD} {vp vs ve : Value} {q : PlaceD} {vc v0 v1 ev : Value} {t : TypeId} (h : W.heap[bb]? = some (.cells (BCells r vp vs ve q vc v0 v1 ev) t (0, 0))) (hb : Below W.heap.size W W') : Got16 W' bb r vp vs ve q vc v0 v1 := by
  obtain ⟨⟨y0, y1, y2, y3, y4, y5, y6, y7, y8, y9, y10⟩, ⟨x0, x1, x2, x3, x4⟩, -⟩ := bfacts (bkeep h hb)
  exact ⟨y0, y1, y2, y3, y4, y5, y6, y7, y8, y9, y10, x0, x1, x2, x3, x4⟩
end Go.Proofs.YtdhhdkbnlddnbaaGreatDoor
