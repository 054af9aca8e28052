/- slices.Clone at the four kinds of slices that rules hold: a slice of its own with the same elements. -/
import Derived.Test.YthbilpgecombiaaCheckR
import Derived.OwnWalk
import Derived.Lib.SliceRun
import Derived.Lib.SmallJoins
namespace Go.Proofs.Ythbilpgecombiaa
open Go.ChangeShapes Go.WideShapes Go.ChangeAt Go.RowKit

/-- What q says of an element's cells holds wherever the same cells lie. -/
def Moves {α : Type} (q : World → Nat → Nat → α → Prop) (k : Nat) : Prop := ∀ W W' n g o g' o' x, Below n W W' → W.heap.size ≤ n → (∀ j, j < k → W'.cell? ⟨g', o' + j, none⟩ = W.cell? ⟨g, o + j, none⟩) → q W g o x → q W' g' o' x
/-- An element's cells are there, and none of them is a struct. -/
def Celled {α : Type} (q : World → Nat → Nat → α → Prop) (k : Nat) : Prop := ∀ W g o x, q W g o x → ∀ j, j < k → ∃ u, W.cell? ⟨g, o + j, none⟩ = some u ∧ u.oneCell' = true
/-- The k n cells behind an address. -/
def cellsOf (W : World) (g o m : Nat) : List Value := (List.range m).map fun j => (W.cell? ⟨g, o + j, none⟩).getD (.bool false)
theorem cellsOf_length (W : World) (g o m : Nat) : (cellsOf W g o m).length = m := by simp [cellsOf]
theorem cellsOf_at {W : World} {g o m j : Nat} (hj : j < m) {u : Value} (h : W.cell? ⟨g, o + j, none⟩ = some u) : (cellsOf W g o m)[j]? = some u := by
  simp [cellsOf, hj, h]
theorem all_cells {α : Type} {q : World → Nat → Nat → α → Prop} {k : Nat} (hk : 0 < k) (hq : Celled q k) {W : World} {g off : Nat} {xs : List α} (hc : ∀ i x, xs[i]? = some x → q W g (off + i * k) x) (j : Nat) (hj : j < xs.length * k) : ∃ u, W.cell? ⟨g, off + j, none⟩ = some u ∧ u.oneCell' = true := by
  have h1 : j / k < xs.length := (Nat.div_lt_iff_lt_mul hk).2 hj
  obtain ⟨u, h2, h3⟩ := hq W g _ _ (hc (j / k) _ (List.getElem?_eq_getElem h1)) (j % k) (Nat.mod_lt _ hk)
  refine ⟨u, ?_, h3⟩
  rw [← h2, Nat.add_assoc, Nat.mul_comm (j / k) k, Nat.div_add_mod]
def ClonePost {α : Type} (q : World → Nat → Nat → α → Prop) (e : TypeId) (k : Nat) (xs : List α) (w : World) (en : Ending) (w' : World) : Prop :=
  ∃ v', en = .returned v' ∧ (∃ news, w'.ownsRow w.heap.size e k v' xs.length news) ∧ IsSl q k w' v' xs ∧ Below w.heap.size w w'
/-- What the append into a slice of its own leaves. -/
theorem clone_of {α : Type} {q : World → Nat → Nat → α → Prop} {k : Nat} (hk : 0 < k) (hm : Moves q k) (hq : Celled q k) {W W' : World} {g off : Nat} {xs : List α} (hc : ∀ i x, xs[i]? = some x → q W g (off + i * k) x) {e : TypeId} {B : Nat} {v' : Value} (hbe : Below W.heap.size W W')
    (h : W'.ownsRow B e k v' xs.length (cellsOf W g off (xs.length * k))) (hne : xs ≠ []) : IsSl q k W' v' xs := by
  have hl : 0 < xs.length := List.length_pos_iff.2 hne
  obtain ⟨_, ⟨rfl, h0⟩ | ⟨g', cap, cur, rfl, hb, hg, h2, h3, h4, h5⟩⟩ := h
  · omega
  · refine .inr ⟨g', 0, cap, rfl, hne, h2, h3, fun i x hx => hm W W' _ g (off + i * k) g' (0 + i * k) x hbe (Nat.le_refl _) (fun j hj => ?_) (hc i x hx)⟩
    have hi : i < xs.length := (List.getElem?_eq_some_iff.1 hx).1
    have hij : i * k + j < xs.length * k := by
      have : (i + 1) * k ≤ xs.length * k := Nat.mul_le_mul_right k hi
      rw [Nat.add_mul] at this; omega
    obtain ⟨u, hu, _⟩ := all_cells hk hq hc (i * k + j) hij
    have hown : W'.ownsRow B e k (.slice (some ⟨g', 0, none⟩) xs.length cap) xs.length (cellsOf W g off (xs.length * k)) := ⟨by rw [cellsOf_length], .inr ⟨g', cap, cur, rfl, hb, hg, h2, h3, h4, h5⟩⟩
    have := hown.cellAt (i * k + j) hij
    rw [cellsOf_at hij hu] at this
    rw [Nat.zero_add, this, Nat.add_assoc, hu]
theorem int_moves : Moves IntAt 1 := fun W W' n g o g' o' x _ _ h hx => (h 0 (by decide)).trans hx
theorem int_celled : Celled IntAt 1 := fun W g o x hx j hj => by
  obtain rfl : j = 0 := by omega
  exact ⟨_, hx, rfl⟩
theorem way_moves : Moves WayAt 4 := fun W W' n g o g' o' x _ _ h hx => ⟨(h 0 (by decide)).trans hx.1, (h 1 (by decide)).trans hx.2.1, (h 2 (by decide)).trans hx.2.2.1, (h 3 (by decide)).trans hx.2.2.2⟩
theorem way_celled : Celled WayAt 4 := fun W g o x hx j hj => by
  match j, hj with
  | 0, _ => exact ⟨_, hx.1, rfl⟩
  | 1, _ => exact ⟨_, hx.2.1, rfl⟩
  | 2, _ => exact ⟨_, hx.2.2.1, rfl⟩
  | 3, _ => exact ⟨_, hx.2.2.2, rfl⟩
theorem end_moves : Moves EndAt 4 := fun W W' n g o g' o' x _ _ h hx => ⟨(h 0 (by decide)).trans hx.1, (h 1 (by decide)).trans hx.2.1, (h 2 (by decide)).trans hx.2.2.1, (h 3 (by decide)).trans hx.2.2.2⟩
theorem end_celled : Celled EndAt 4 := fun W g o x hx j hj => by
  match j, hj with
  | 0, _ => exact ⟨_, hx.1, rfl⟩
  | 1, _ => exact ⟨_, hx.2.1, rfl⟩
  | 2, _ => exact ⟨_, hx.2.2.1, rfl⟩
  | 3, _ => exact ⟨_, hx.2.2.2, rfl⟩
/-- The same, in a block of a certain kind. -/
def Blk {α : Type} (b : Nat → Prop) (q : World → Nat → Nat → α → Prop) (W : World) (g o : Nat) (x : α) : Prop := b g ∧ q W g o x
theorem Blk.keeps {α : Type} {b : Nat → Prop} {q : World → Nat → Nat → α → Prop} (h : Keeps q) : Keeps (Blk b q) := fun W W' n g o x hb hn hx => ⟨hx.1, h W W' n g o x hb hn hx.2⟩
/-- A type of pieces whose ways lie in blocks of a certain kind. -/
def PieceIn (b : Nat → Prop) (W : World) (g o : Nat) (x : PieceD) : Prop :=
  ∃ v, W.cell? ⟨g, o, none⟩ = some (.int .u8 x.letter) ∧ W.cell? ⟨g, o + 1, none⟩ = some (.int .i64 x.hand) ∧ W.cell? ⟨g, o + 2, none⟩ = some (.int .i64 x.promote) ∧ W.cell? ⟨g, o + 3, none⟩ = some v ∧ v.oneCell' = true ∧ IsSl (Blk b WayAt) 4 W v x.ways
theorem IsSl.mono {α : Type} {q q' : World → Nat → Nat → α → Prop} {k : Nat} {W W' : World} {v : Value} {xs : List α} (h : IsSl q k W v xs) (hq : ∀ g o x, q W g o x → q' W' g o x) : IsSl q' k W' v xs := by
  rcases h with h | ⟨g, off, cap, e1, e2, e3, e4, hc⟩
  · exact .inl h
  · exact .inr ⟨g, off, cap, e1, e2, e3, e4, fun i x hx => hq _ _ _ (hc i x hx)⟩
theorem IsSl.one {α : Type} {q : World → Nat → Nat → α → Prop} {k : Nat} {W : World} {v : Value} {xs : List α} (h : IsSl q k W v xs) : v.oneCell' = true := by
  rcases h with ⟨_, a, cap, rfl⟩ | ⟨g, off, cap, rfl, _⟩ <;> rfl
theorem PieceIn.plain {b : Nat → Prop} {W : World} {g o : Nat} {x : PieceD} (h : PieceIn b W g o x) : PieceAt W g o x := by
  obtain ⟨v, c0, c1, c2, c3, _, hv⟩ := h
  exact ⟨v, c0, c1, c2, c3, hv.mono fun _ _ _ h => h.2⟩
theorem pieceIn_of {W : World} {g o : Nat} {x : PieceD} (h : PieceAt W g o x) {b : Nat → Prop} (hb : ∀ g, g < W.heap.size → b g) : PieceIn b W g o x := by
  obtain ⟨v, c0, c1, c2, c3, hv⟩ := h
  exact ⟨v, c0, c1, c2, c3, hv.one, hv.mono fun g o x h => ⟨hb g (World.block_lt_of_cell? _ _ h.1), h⟩⟩
theorem pieceIn_keeps (b : Nat → Prop) : Keeps (PieceIn b) := fun _ _ _ _ _ _ hb hn ⟨v, h0, h1, h2, h3, h4, h5⟩ => ⟨v, cell_keeps hb hn h0, cell_keeps hb hn h1, cell_keeps hb hn h2, cell_keeps hb hn h3, h4, h5.below (Blk.keeps way_keeps) hb hn⟩
theorem pieceIn_moves (b : Nat → Prop) : Moves (PieceIn b) 4 := fun W W' n g o g' o' x hb hn h ⟨v, h0, h1, h2, h3, h4, h5⟩ =>
  ⟨v, (h 0 (by decide)).trans h0, (h 1 (by decide)).trans h1, (h 2 (by decide)).trans h2, (h 3 (by decide)).trans h3, h4, h5.below (Blk.keeps way_keeps) hb hn⟩
theorem pieceIn_celled (b : Nat → Prop) : Celled (PieceIn b) 4 := fun W g o x ⟨v, h0, h1, h2, h3, h4, h5⟩ j hj => by
  match j, hj with
  | 0, _ => exact ⟨_, h0, rfl⟩
  | 1, _ => exact ⟨_, h1, rfl⟩
  | 2, _ => exact ⟨_, h2, rfl⟩
  | 3, _ => exact ⟨_, h3, h4⟩

theorem infoPieceR : (Try.prog.info? 61).map (fun i => (i.zero, i.size, i.bytes)) = some (some (.agg #[.int .u8 0, .int .i64 0, .int .i64 0, .slice none 0 0]), 4, 48) := by kernel_rfl
set_option maxHeartbeats 2000000 in
set_option maxRecDepth 100000 in
theorem clone_pieces {α : Type} {q : World → Nat → Nat → α → Prop} (hm : Moves q 4) (hq : Celled q 4) (xs : List α) (v : Value) (w : World) (hv : IsSl q 4 w v xs) (hl : xs.length ≤ 100) :
    Calls Try.prog 87 #[v] w (ClonePost q 61 4 xs w) := by
  obtain ⟨i0, hi, hz0, hz1, hz2⟩ := info_parts infoPieceR
  have qq : ∀ (w : World) (a : Option Addr) (n c n' c' : Nat), (binOp .eql 22 (.slice a n c) (.slice none n' c')).run Try.prog w = .ok (.bool a.isNone) w := fun w a n c n' c' => Lib.run_eql_slice_nil w _ _ a n c n' c' Try.underlying22
  have uu : ∀ w, Sem.run Try.prog (underlying 22) w = .ok (TypeDesc.slice 61) w := run_underlying Try.underlying22
  obtain ⟨n, hn⟩ : ∃ n : Nat, n = xs.length := ⟨_, rfl⟩
  rcases hv with ⟨rfl, a, cap, rfl⟩ | ⟨g, off, cap, rfl, hne, h3, h4, hc⟩
  · cases a with
    | none =>
      go_enter Try.func87, Try.ntmps87
      go_wp2
      go_ret
      exact ⟨_, rfl, ⟨[], World.ownsRow_nil _ _ _ _⟩, .inl ⟨rfl, _, _, rfl⟩, Below.refl _ _⟩
    | some a =>
      go_enter Try.func87, Try.ntmps87
      go_wp2_with (at_builtin; refine wpList_append_own _ rfl _ _ 22 rfl w.heap.size 61 i0 (.agg #[.int .u8 0, .int .i64 0, .int .i64 0, .slice none 0 0]) 4 48 Try.underlying22 hi hz0 hz1 hz2 rfl (by decide) _ _ _ rfl (World.ownsRow_made w #[] 0 (Nat.le_refl _) (Nat.zero_le _) rfl) a 0 cap [] rfl rfl (by intro j u hj; simp at hj) (by intro u hu; cases hu) (by unfold maxLen; omega) (by omega) (by simp) ?_)
      intro v' w1 hown hgrow hnil
      go_wp2
      go_ret
      refine ⟨v', rfl, ⟨_, by simpa using hown⟩, .inl ⟨rfl, ?_⟩, ((Below.refl _ w).alloc (Nat.le_refl _) _).grown hgrow (by simp) (by intro k hk; simp [Value.ownBlock] at hk; omega)⟩
      obtain ⟨_, ⟨h, _⟩ | ⟨g', cap', cur, h, _⟩⟩ := hown
      · exact ⟨_, _, h⟩
      · exact ⟨_, _, h⟩
  · have HC : Hid _ := Lib.hid hc
    have HN : Hid _ := Lib.hid hn
    have HNE : Hid _ := Lib.hid hne
    have hL : (cellsOf w g off (n * 4)).length = n * 4 := cellsOf_length _ _ _ _
    have hA : ∀ j u, (cellsOf w g off (n * 4))[j]? = some u → w.cell? ⟨g, off + j, none⟩ = some u ∧ u.oneCell' = true := by
      intro j u hj
      have hjl : j < n * 4 := by have := (List.getElem?_eq_some_iff.1 hj).1; rwa [cellsOf_length] at this
      obtain ⟨u', h1, h2⟩ := all_cells (by decide) hq hc j (by rw [← hn]; exact hjl)
      rw [cellsOf_at hjl h1] at hj
      obtain rfl := Option.some.inj hj
      exact ⟨h1, h2⟩
    rw [← hn] at h3 hl ⊢
    have HM : Hid _ := Lib.hid hm
    have HQ : Hid _ := Lib.hid hq
    obtain ⟨news, hnews⟩ : ∃ l, l = cellsOf w g off (n * 4) := ⟨_, rfl⟩
    rw [← hnews] at hA hL
    have HNW : Hid _ := Lib.hid hnews
    have hA : Hid _ := Lib.hid hA
    clear hc hn hne hm hq hnews
    go_enter Try.func87, Try.ntmps87
    go_wp2_with (at_builtin; refine wpList_append_own _ rfl _ _ 22 rfl w.heap.size 61 i0 (.agg #[.int .u8 0, .int .i64 0, .int .i64 0, .slice none 0 0]) 4 48 Try.underlying22 hi hz0 hz1 hz2 rfl (by decide) _ _ _ rfl (World.ownsRow_made w #[] 0 (Nat.le_refl _) (Nat.zero_le _) rfl) ⟨g, off, none⟩ n cap news rfl hL ?qc2 ?qc3 ?qc4 ?qc5 ?qc6 ?_)
    case qc2 =>
      intro j u hj
      rw [Addr.add_lit]
      exact Lib.cell?_alloc_some _ (hA.out j u hj).1
    case qc3 => intro u hu; obtain ⟨j, hj⟩ := List.getElem?_of_mem hu; exact (hA.out j u hj).2
    case qc4 => unfold maxLen; omega
    case qc5 => omega
    case qc6 => simp
    intro v' w1 hown hgrow hnil
    have hbel : Below w.heap.size w w1 := ((Below.refl _ w).alloc (Nat.le_refl _) _).grown hgrow (by simp) (by intro k hk; simp [Value.ownBlock] at hk; omega)
    have HO : Hid (w1.ownsRow w.heap.size 61 4 v' xs.length (cellsOf w g off (xs.length * 4))) := Lib.hid (by rw [← HN.out, ← HNW.out]; simpa using hown)
    have HBE : Hid _ := Lib.hid hbel
    clear hown hgrow hnil hbel
    go_wp2
    go_ret
    exact ⟨v', rfl, ⟨_, HO.out⟩, clone_of (by decide) HM.out HQ.out HC.out HBE.out HO.out HNE.out, HBE.out⟩
theorem infoWayR : (Try.prog.info? 76).map (fun i => (i.zero, i.size, i.bytes)) = some (some (.agg #[.int .i64 0, .int .i64 0, .int .i64 0, .int .i64 0]), 4, 32) := by kernel_rfl
set_option maxHeartbeats 2000000 in
set_option maxRecDepth 100000 in
theorem clone_ways {α : Type} {q : World → Nat → Nat → α → Prop} (hm : Moves q 4) (hq : Celled q 4) (xs : List α) (v : Value) (w : World) (hv : IsSl q 4 w v xs) (hl : xs.length ≤ 100) :
    Calls Try.prog 88 #[v] w (ClonePost q 76 4 xs w) := by
  obtain ⟨i0, hi, hz0, hz1, hz2⟩ := info_parts infoWayR
  have qq : ∀ (w : World) (a : Option Addr) (n c n' c' : Nat), (binOp .eql 59 (.slice a n c) (.slice none n' c')).run Try.prog w = .ok (.bool a.isNone) w := fun w a n c n' c' => Lib.run_eql_slice_nil w _ _ a n c n' c' Try.underlying59
  have uu : ∀ w, Sem.run Try.prog (underlying 59) w = .ok (TypeDesc.slice 76) w := run_underlying Try.underlying59
  obtain ⟨n, hn⟩ : ∃ n : Nat, n = xs.length := ⟨_, rfl⟩
  rcases hv with ⟨rfl, a, cap, rfl⟩ | ⟨g, off, cap, rfl, hne, h3, h4, hc⟩
  · cases a with
    | none =>
      go_enter Try.func88, Try.ntmps88
      go_wp2
      go_ret
      exact ⟨_, rfl, ⟨[], World.ownsRow_nil _ _ _ _⟩, .inl ⟨rfl, _, _, rfl⟩, Below.refl _ _⟩
    | some a =>
      go_enter Try.func88, Try.ntmps88
      go_wp2_with (at_builtin; refine wpList_append_own _ rfl _ _ 59 rfl w.heap.size 76 i0 (.agg #[.int .i64 0, .int .i64 0, .int .i64 0, .int .i64 0]) 4 32 Try.underlying59 hi hz0 hz1 hz2 rfl (by decide) _ _ _ rfl (World.ownsRow_made w #[] 0 (Nat.le_refl _) (Nat.zero_le _) rfl) a 0 cap [] rfl rfl (by intro j u hj; simp at hj) (by intro u hu; cases hu) (by unfold maxLen; omega) (by omega) (by simp) ?_)
      intro v' w1 hown hgrow hnil
      go_wp2
      go_ret
      refine ⟨v', rfl, ⟨_, by simpa using hown⟩, .inl ⟨rfl, ?_⟩, ((Below.refl _ w).alloc (Nat.le_refl _) _).grown hgrow (by simp) (by intro k hk; simp [Value.ownBlock] at hk; omega)⟩
      obtain ⟨_, ⟨h, _⟩ | ⟨g', cap', cur, h, _⟩⟩ := hown
      · exact ⟨_, _, h⟩
      · exact ⟨_, _, h⟩
  · have HC : Hid _ := Lib.hid hc
    have HN : Hid _ := Lib.hid hn
    have HNE : Hid _ := Lib.hid hne
    have hL : (cellsOf w g off (n * 4)).length = n * 4 := cellsOf_length _ _ _ _
    have hA : ∀ j u, (cellsOf w g off (n * 4))[j]? = some u → w.cell? ⟨g, off + j, none⟩ = some u ∧ u.oneCell' = true := by
      intro j u hj
      have hjl : j < n * 4 := by have := (List.getElem?_eq_some_iff.1 hj).1; rwa [cellsOf_length] at this
      obtain ⟨u', h1, h2⟩ := all_cells (by decide) hq hc j (by rw [← hn]; exact hjl)
      rw [cellsOf_at hjl h1] at hj
      obtain rfl := Option.some.inj hj
      exact ⟨h1, h2⟩
    rw [← hn] at h3 hl ⊢
    have HM : Hid _ := Lib.hid hm
    have HQ : Hid _ := Lib.hid hq
    obtain ⟨news, hnews⟩ : ∃ l, l = cellsOf w g off (n * 4) := ⟨_, rfl⟩
    rw [← hnews] at hA hL
    have HNW : Hid _ := Lib.hid hnews
    have hA : Hid _ := Lib.hid hA
    clear hc hn hne hm hq hnews
    go_enter Try.func88, Try.ntmps88
    go_wp2_with (at_builtin; refine wpList_append_own _ rfl _ _ 59 rfl w.heap.size 76 i0 (.agg #[.int .i64 0, .int .i64 0, .int .i64 0, .int .i64 0]) 4 32 Try.underlying59 hi hz0 hz1 hz2 rfl (by decide) _ _ _ rfl (World.ownsRow_made w #[] 0 (Nat.le_refl _) (Nat.zero_le _) rfl) ⟨g, off, none⟩ n cap news rfl hL ?qc2 ?qc3 ?qc4 ?qc5 ?qc6 ?_)
    case qc2 =>
      intro j u hj
      rw [Addr.add_lit]
      exact Lib.cell?_alloc_some _ (hA.out j u hj).1
    case qc3 => intro u hu; obtain ⟨j, hj⟩ := List.getElem?_of_mem hu; exact (hA.out j u hj).2
    case qc4 => unfold maxLen; omega
    case qc5 => omega
    case qc6 => simp
    intro v' w1 hown hgrow hnil
    have hbel : Below w.heap.size w w1 := ((Below.refl _ w).alloc (Nat.le_refl _) _).grown hgrow (by simp) (by intro k hk; simp [Value.ownBlock] at hk; omega)
    have HO : Hid (w1.ownsRow w.heap.size 76 4 v' xs.length (cellsOf w g off (xs.length * 4))) := Lib.hid (by rw [← HN.out, ← HNW.out]; simpa using hown)
    have HBE : Hid _ := Lib.hid hbel
    clear hown hgrow hnil hbel
    go_wp2
    go_ret
    exact ⟨v', rfl, ⟨_, HO.out⟩, clone_of (by decide) HM.out HQ.out HC.out HBE.out HO.out HNE.out, HBE.out⟩
theorem infoIntR : (Try.prog.info? 3).map (fun i => (i.zero, i.size, i.bytes)) = some (some (.int .i64 0), 1, 8) := by kernel_rfl
set_option maxHeartbeats 2000000 in
set_option maxRecDepth 100000 in
theorem clone_start {α : Type} {q : World → Nat → Nat → α → Prop} (hm : Moves q 1) (hq : Celled q 1) (xs : List α) (v : Value) (w : World) (hv : IsSl q 1 w v xs) (hl : xs.length ≤ 100) :
    Calls Try.prog 38 #[v] w (ClonePost q 3 1 xs w) := by
  obtain ⟨i0, hi, hz0, hz1, hz2⟩ := info_parts infoIntR
  have qq : ∀ (w : World) (a : Option Addr) (n c n' c' : Nat), (binOp .eql 23 (.slice a n c) (.slice none n' c')).run Try.prog w = .ok (.bool a.isNone) w := fun w a n c n' c' => Lib.run_eql_slice_nil w _ _ a n c n' c' Try.underlying23
  have uu : ∀ w, Sem.run Try.prog (underlying 23) w = .ok (TypeDesc.slice 3) w := run_underlying Try.underlying23
  obtain ⟨n, hn⟩ : ∃ n : Nat, n = xs.length := ⟨_, rfl⟩
  rcases hv with ⟨rfl, a, cap, rfl⟩ | ⟨g, off, cap, rfl, hne, h3, h4, hc⟩
  · cases a with
    | none =>
      go_enter Try.func38, Try.ntmps38
      go_wp2
      go_ret
      exact ⟨_, rfl, ⟨[], World.ownsRow_nil _ _ _ _⟩, .inl ⟨rfl, _, _, rfl⟩, Below.refl _ _⟩
    | some a =>
      go_enter Try.func38, Try.ntmps38
      go_wp2_with (at_builtin; refine wpList_append_own _ rfl _ _ 23 rfl w.heap.size 3 i0 (.int .i64 0) 1 8 Try.underlying23 hi hz0 hz1 hz2 rfl (by decide) _ _ _ rfl (World.ownsRow_made w #[] 0 (Nat.le_refl _) (Nat.zero_le _) rfl) a 0 cap [] rfl rfl (by intro j u hj; simp at hj) (by intro u hu; cases hu) (by unfold maxLen; omega) (by omega) (by simp) ?_)
      intro v' w1 hown hgrow hnil
      go_wp2
      go_ret
      refine ⟨v', rfl, ⟨_, by simpa using hown⟩, .inl ⟨rfl, ?_⟩, ((Below.refl _ w).alloc (Nat.le_refl _) _).grown hgrow (by simp) (by intro k hk; simp [Value.ownBlock] at hk; omega)⟩
      obtain ⟨_, ⟨h, _⟩ | ⟨g', cap', cur, h, _⟩⟩ := hown
      · exact ⟨_, _, h⟩
      · exact ⟨_, _, h⟩
  · have HC : Hid _ := Lib.hid hc
    have HN : Hid _ := Lib.hid hn
    have HNE : Hid _ := Lib.hid hne
    have hL : (cellsOf w g off (n * 1)).length = n * 1 := cellsOf_length _ _ _ _
    have hA : ∀ j u, (cellsOf w g off (n * 1))[j]? = some u → w.cell? ⟨g, off + j, none⟩ = some u ∧ u.oneCell' = true := by
      intro j u hj
      have hjl : j < n * 1 := by have := (List.getElem?_eq_some_iff.1 hj).1; rwa [cellsOf_length] at this
      obtain ⟨u', h1, h2⟩ := all_cells (by decide) hq hc j (by rw [← hn]; exact hjl)
      rw [cellsOf_at hjl h1] at hj
      obtain rfl := Option.some.inj hj
      exact ⟨h1, h2⟩
    rw [← hn] at h3 hl ⊢
    have HM : Hid _ := Lib.hid hm
    have HQ : Hid _ := Lib.hid hq
    obtain ⟨news, hnews⟩ : ∃ l, l = cellsOf w g off (n * 1) := ⟨_, rfl⟩
    rw [← hnews] at hA hL
    have HNW : Hid _ := Lib.hid hnews
    have hA : Hid _ := Lib.hid hA
    clear hc hn hne hm hq hnews
    go_enter Try.func38, Try.ntmps38
    go_wp2_with (at_builtin; refine wpList_append_own _ rfl _ _ 23 rfl w.heap.size 3 i0 (.int .i64 0) 1 8 Try.underlying23 hi hz0 hz1 hz2 rfl (by decide) _ _ _ rfl (World.ownsRow_made w #[] 0 (Nat.le_refl _) (Nat.zero_le _) rfl) ⟨g, off, none⟩ n cap news rfl hL ?qc2 ?qc3 ?qc4 ?qc5 ?qc6 ?_)
    case qc2 =>
      intro j u hj
      rw [Addr.add_lit]
      exact Lib.cell?_alloc_some _ (hA.out j u hj).1
    case qc3 => intro u hu; obtain ⟨j, hj⟩ := List.getElem?_of_mem hu; exact (hA.out j u hj).2
    case qc4 => unfold maxLen; omega
    case qc5 => omega
    case qc6 => simp
    intro v' w1 hown hgrow hnil
    have hbel : Below w.heap.size w w1 := ((Below.refl _ w).alloc (Nat.le_refl _) _).grown hgrow (by simp) (by intro k hk; simp [Value.ownBlock] at hk; omega)
    have HO : Hid (w1.ownsRow w.heap.size 3 1 v' xs.length (cellsOf w g off (xs.length * 1))) := Lib.hid (by rw [← HN.out, ← HNW.out]; simpa using hown)
    have HBE : Hid _ := Lib.hid hbel
    clear hown hgrow hnil hbel
    go_wp2
    go_ret
    exact ⟨v', rfl, ⟨_, HO.out⟩, clone_of (by decide) HM.out HQ.out HC.out HBE.out HO.out HNE.out, HBE.out⟩
theorem infoEndR : (Try.prog.info? 63).map (fun i => (i.zero, i.size, i.bytes)) = some (some (.agg #[.int .i64 0, .int .i64 0, .int .i64 0, .bool false]), 4, 32) := by kernel_rfl
set_option maxHeartbeats 2000000 in
set_option maxRecDepth 100000 in
theorem clone_ends {α : Type} {q : World → Nat → Nat → α → Prop} (hm : Moves q 4) (hq : Celled q 4) (xs : List α) (v : Value) (w : World) (hv : IsSl q 4 w v xs) (hl : xs.length ≤ 100) :
    Calls Try.prog 89 #[v] w (ClonePost q 63 4 xs w) := by
  obtain ⟨i0, hi, hz0, hz1, hz2⟩ := info_parts infoEndR
  have qq : ∀ (w : World) (a : Option Addr) (n c n' c' : Nat), (binOp .eql 24 (.slice a n c) (.slice none n' c')).run Try.prog w = .ok (.bool a.isNone) w := fun w a n c n' c' => Lib.run_eql_slice_nil w _ _ a n c n' c' Try.underlying24
  have uu : ∀ w, Sem.run Try.prog (underlying 24) w = .ok (TypeDesc.slice 63) w := run_underlying Try.underlying24
  obtain ⟨n, hn⟩ : ∃ n : Nat, n = xs.length := ⟨_, rfl⟩
  rcases hv with ⟨rfl, a, cap, rfl⟩ | ⟨g, off, cap, rfl, hne, h3, h4, hc⟩
  · cases a with
    | none =>
      go_enter Try.func89, Try.ntmps89
      go_wp2
      go_ret
      exact ⟨_, rfl, ⟨[], World.ownsRow_nil _ _ _ _⟩, .inl ⟨rfl, _, _, rfl⟩, Below.refl _ _⟩
    | some a =>
      go_enter Try.func89, Try.ntmps89
      go_wp2_with (at_builtin; refine wpList_append_own _ rfl _ _ 24 rfl w.heap.size 63 i0 (.agg #[.int .i64 0, .int .i64 0, .int .i64 0, .bool false]) 4 32 Try.underlying24 hi hz0 hz1 hz2 rfl (by decide) _ _ _ rfl (World.ownsRow_made w #[] 0 (Nat.le_refl _) (Nat.zero_le _) rfl) a 0 cap [] rfl rfl (by intro j u hj; simp at hj) (by intro u hu; cases hu) (by unfold maxLen; omega) (by omega) (by simp) ?_)
      intro v' w1 hown hgrow hnil
      go_wp2
      go_ret
      refine ⟨v', rfl, ⟨_, by simpa using hown⟩, .inl ⟨rfl, ?_⟩, ((Below.refl _ w).alloc (Nat.le_refl _) _).grown hgrow (by simp) (by intro k hk; simp [Value.ownBlock] at hk; omega)⟩
      obtain ⟨_, ⟨h, _⟩ | ⟨g', cap', cur, h, _⟩⟩ := hown
      · exact ⟨_, _, h⟩
      · exact ⟨_, _, h⟩
  · have HC : Hid _ := Lib.hid hc
    have HN : Hid _ := Lib.hid hn
    have HNE : Hid _ := Lib.hid hne
    have hL : (cellsOf w g off (n * 4)).length = n * 4 := cellsOf_length _ _ _ _
    have hA : ∀ j u, (cellsOf w g off (n * 4))[j]? = some u → w.cell? ⟨g, off + j, none⟩ = some u ∧ u.oneCell' = true := by
      intro j u hj
      have hjl : j < n * 4 := by have := (List.getElem?_eq_some_iff.1 hj).1; rwa [cellsOf_length] at this
      obtain ⟨u', h1, h2⟩ := all_cells (by decide) hq hc j (by rw [← hn]; exact hjl)
      rw [cellsOf_at hjl h1] at hj
      obtain rfl := Option.some.inj hj
      exact ⟨h1, h2⟩
    rw [← hn] at h3 hl ⊢
    have HM : Hid _ := Lib.hid hm
    have HQ : Hid _ := Lib.hid hq
    obtain ⟨news, hnews⟩ : ∃ l, l = cellsOf w g off (n * 4) := ⟨_, rfl⟩
    rw [← hnews] at hA hL
    have HNW : Hid _ := Lib.hid hnews
    have hA : Hid _ := Lib.hid hA
    clear hc hn hne hm hq hnews
    go_enter Try.func89, Try.ntmps89
    go_wp2_with (at_builtin; refine wpList_append_own _ rfl _ _ 24 rfl w.heap.size 63 i0 (.agg #[.int .i64 0, .int .i64 0, .int .i64 0, .bool false]) 4 32 Try.underlying24 hi hz0 hz1 hz2 rfl (by decide) _ _ _ rfl (World.ownsRow_made w #[] 0 (Nat.le_refl _) (Nat.zero_le _) rfl) ⟨g, off, none⟩ n cap news rfl hL ?qc2 ?qc3 ?qc4 ?qc5 ?qc6 ?_)
    case qc2 =>
      intro j u hj
      rw [Addr.add_lit]
      exact Lib.cell?_alloc_some _ (hA.out j u hj).1
    case qc3 => intro u hu; obtain ⟨j, hj⟩ := List.getElem?_of_mem hu; exact (hA.out j u hj).2
    case qc4 => unfold maxLen; omega
    case qc5 => omega
    case qc6 => simp
    intro v' w1 hown hgrow hnil
    have hbel : Below w.heap.size w w1 := ((Below.refl _ w).alloc (Nat.le_refl _) _).grown hgrow (by simp) (by intro k hk; simp [Value.ownBlock] at hk; omega)
    have HO : Hid (w1.ownsRow w.heap.size 63 4 v' xs.length (cellsOf w g off (xs.length * 4))) := Lib.hid (by rw [← HN.out, ← HNW.out]; simpa using hown)
    have HBE : Hid _ := Lib.hid hbel
    clear hown hgrow hnil hbel
    go_wp2
    go_ret
    exact ⟨v', rfl, ⟨_, HO.out⟩, clone_of (by decide) HM.out HQ.out HC.out HBE.out HO.out HNE.out, HBE.out⟩
end Go.Proofs.Ythbilpgecombiaa
