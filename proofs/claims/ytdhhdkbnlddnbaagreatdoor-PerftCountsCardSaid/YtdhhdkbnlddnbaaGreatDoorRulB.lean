/- Merged by merge.py of the texts Clones CloneR MirD RBox. -/
import Derived.Test.YtdhhdkbnlddnbaaGreatDoorRulA
import Derived.OwnWalk
import Derived.Lib.SliceRun
import Derived.Lib.SmallJoins
import Derived.Deep.RegionHeld3
namespace Go.Proofs.YtdhhdkbnlddnbaaGreatDoor
open Go.ChangeShapes Go.WideShapes Go.ChangeAt Go.RowKit

/-- What q says of an element's cells holds wherever the same cells lie. -/
def Moves {α : Type} (q : World → Nat → Nat → α → Prop) (k : Nat) : Prop := ∀ W W' n g o g' o' x, Below n W W' → W.heap.size ≤ n → (∀ j, j < k → W'.cell? ⟨g', o' + j, none⟩ = W.cell? ⟨g, o + j, none⟩) → q W g o x → q W' g' o' x
/-- An element's cells are there, and none of them is a struct. -/
def Celled {α : Type} (q : World → Nat → Nat → α → Prop) (k : Nat) : Prop := ∀ W g o x, q W g o x → ∀ j, j < k → ∃ u, W.cell? ⟨g, o + j, none⟩ = some u ∧ u.oneCell' = true
/-- The k n cells behind an address. -/
def cellsOf (W : World) (g o m : Nat) : List Value := (List.range m).map fun j => (W.cell? ⟨g, o + j, none⟩).getD (.bool false)
theorem cellsOf_length (W : World) (g o m : Nat) : (cellsOf W g o m).length = m := by simp [cellsOf]
theorem cellsOf_at {W : World} {g o m j : Nat} (hj : j < m) {u : Value} (h : W.cell? ⟨g, o + j, none⟩ = some u) : (cellsOf W g o m)[j]? = some u := by
  simp [cellsOf, hj, h]
theorem all_cells {α : Type} {q : World → Nat → Nat → α → Prop} {k : Nat} (hk : 0 < k) (hq : Celled q k) {W : World} {g off : Nat} {xs : List α} (hc : ∀ i x, xs[i]? = some x → q W g (off + i * k) x) (j : Nat) (hj : j < xs.length * k) : ∃ u, W.cell? ⟨g, off + j, none⟩ = some u ∧ u.oneCell' = true := by
  have h1 : j / k < xs.length := (Nat.div_lt_iff_lt_mul hk).2 hj
  obtain ⟨u, h2, h3⟩ := hq W g _ _ (hc (j / k) _ (List.getElem?_eq_getElem h1)) (j % k) (Nat.mod_lt _ hk)
  refine ⟨u, ?_, h3⟩
  rw [← h2, Nat.add_assoc, Nat.mul_comm (j / k) k, Nat.div_add_mod]
def ClonePost {α : Type} (q : World → Nat → Nat → α → Prop) (e : TypeId) (k : Nat) (xs : List α) (w : World) (en : Ending) (w' : World) : Prop :=
  ∃ v', en = .returned v' ∧ (∃ news, w'.ownsRow w.heap.size e k v' xs.length news) ∧ IsSl q k w' v' xs ∧ Below w.heap.size w w'
/-- What the append into a slice of its own leaves. -/
theorem clone_of {α : Type} {q : World → Nat → Nat → α → Prop} {k : Nat} (hk : 0 < k) (hm : Moves q k) (hq : Celled q k) {W W' : World} {g off : Nat} {xs : List α} (hc : ∀ i x, xs[i]? = some x → q W g (off + i * k) x) {e : TypeId} {B : Nat} {v' : Value} (hbe : Below W.heap.size W W')
    (h : W'.ownsRow B e k v' xs.length (cellsOf W g off (xs.length * k))) (hne : xs ≠ []) : IsSl q k W' v' xs := by
  have hl : 0 < xs.length := List.length_pos_iff.2 hne
  obtain ⟨_, ⟨rfl, h0⟩ | ⟨g', cap, cur, rfl, hb, hg, h2, h3, h4, h5⟩⟩ := h
  · omega
  · refine .inr ⟨g', 0, cap, rfl, hne, h2, h3, fun i x hx => hm W W' _ g (off + i * k) g' (0 + i * k) x hbe (Nat.le_refl _) (fun j hj => ?_) (hc i x hx)⟩
    have hi : i < xs.length := (List.getElem?_eq_some_iff.1 hx).1
    have hij : i * k + j < xs.length * k := by
      have : (i + 1) * k ≤ xs.length * k := Nat.mul_le_mul_right k hi
      rw [Nat.add_mul] at this; omega
    obtain ⟨u, hu, _⟩ := all_cells hk hq hc (i * k + j) hij
    have hown : W'.ownsRow B e k (.slice (some ⟨g', 0, none⟩) xs.length cap) xs.length (cellsOf W g off (xs.length * k)) := ⟨by rw [cellsOf_length], .inr ⟨g', cap, cur, rfl, hb, hg, h2, h3, h4, h5⟩⟩
    have := hown.cellAt (i * k + j) hij
    rw [cellsOf_at hij hu] at this
    rw [Nat.zero_add, this, Nat.add_assoc, hu]
theorem int_moves : Moves IntAt 1 := fun W W' n g o g' o' x _ _ h hx => (h 0 (by decide)).trans hx
theorem int_celled : Celled IntAt 1 := fun W g o x hx j hj => by
  obtain rfl : j = 0 := by omega
  exact ⟨_, hx, rfl⟩
theorem way_moves : Moves WayAt 4 := fun W W' n g o g' o' x _ _ h hx => ⟨(h 0 (by decide)).trans hx.1, (h 1 (by decide)).trans hx.2.1, (h 2 (by decide)).trans hx.2.2.1, (h 3 (by decide)).trans hx.2.2.2⟩
theorem way_celled : Celled WayAt 4 := fun W g o x hx j hj => by
  match j, hj with
  | 0, _ => exact ⟨_, hx.1, rfl⟩
  | 1, _ => exact ⟨_, hx.2.1, rfl⟩
  | 2, _ => exact ⟨_, hx.2.2.1, rfl⟩
  | 3, _ => exact ⟨_, hx.2.2.2, rfl⟩
theorem end_moves : Moves EndAt 4 := fun W W' n g o g' o' x _ _ h hx => ⟨(h 0 (by decide)).trans hx.1, (h 1 (by decide)).trans hx.2.1, (h 2 (by decide)).trans hx.2.2.1, (h 3 (by decide)).trans hx.2.2.2⟩
theorem end_celled : Celled EndAt 4 := fun W g o x hx j hj => by
  match j, hj with
  | 0, _ => exact ⟨_, hx.1, rfl⟩
  | 1, _ => exact ⟨_, hx.2.1, rfl⟩
  | 2, _ => exact ⟨_, hx.2.2.1, rfl⟩
  | 3, _ => exact ⟨_, hx.2.2.2, rfl⟩
/-- The same, in a block of a certain kind. -/
def Blk {α : Type} (b : Nat → Prop) (q : World → Nat → Nat → α → Prop) (W : World) (g o : Nat) (x : α) : Prop := b g ∧ q W g o x
theorem Blk.keeps {α : Type} {b : Nat → Prop} {q : World → Nat → Nat → α → Prop} (h : Keeps q) : Keeps (Blk b q) := fun W W' n g o x hb hn hx => ⟨hx.1, h W W' n g o x hb hn hx.2⟩
/-- A type of pieces whose ways lie in blocks of a certain kind. -/
def PieceIn (b : Nat → Prop) (W : World) (g o : Nat) (x : PieceD) : Prop :=
  ∃ v, W.cell? ⟨g, o, none⟩ = some (.int .u8 x.letter) ∧ W.cell? ⟨g, o + 1, none⟩ = some (.int .i64 x.hand) ∧ W.cell? ⟨g, o + 2, none⟩ = some (.int .i64 x.promote) ∧ W.cell? ⟨g, o + 3, none⟩ = some v ∧ v.oneCell' = true ∧ IsSl (Blk b WayAt) 4 W v x.ways
theorem IsSl.mono {α : Type} {q q' : World → Nat → Nat → α → Prop} {k : Nat} {W W' : World} {v : Value} {xs : List α} (h : IsSl q k W v xs) (hq : ∀ g o x, q W g o x → q' W' g o x) : IsSl q' k W' v xs := by
  rcases h with h | ⟨g, off, cap, e1, e2, e3, e4, hc⟩
  · exact .inl h
  · exact .inr ⟨g, off, cap, e1, e2, e3, e4, fun i x hx => hq _ _ _ (hc i x hx)⟩
theorem IsSl.one {α : Type} {q : World → Nat → Nat → α → Prop} {k : Nat} {W : World} {v : Value} {xs : List α} (h : IsSl q k W v xs) : v.oneCell' = true := by
  rcases h with ⟨_, a, cap, rfl⟩ | ⟨g, off, cap, rfl, _⟩ <;> rfl
theorem PieceIn.plain {b : Nat → Prop} {W : World} {g o : Nat} {x : PieceD} (h : PieceIn b W g o x) : PieceAt W g o x := by
  obtain ⟨v, c0, c1, c2, c3, _, hv⟩ := h
  exact ⟨v, c0, c1, c2, c3, hv.mono fun _ _ _ h => h.2⟩
theorem pieceIn_of {W : World} {g o : Nat} {x : PieceD} (h : PieceAt W g o x) {b : Nat → Prop} (hb : ∀ g, g < W.heap.size → b g) : PieceIn b W g o x := by
  obtain ⟨v, c0, c1, c2, c3, hv⟩ := h
  exact ⟨v, c0, c1, c2, c3, hv.one, hv.mono fun g o x h => ⟨hb g (World.block_lt_of_cell? _ _ h.1), h⟩⟩
theorem pieceIn_keeps (b : Nat → Prop) : Keeps (PieceIn b) := fun _ _ _ _ _ _ hb hn ⟨v, h0, h1, h2, h3, h4, h5⟩ => ⟨v, cell_keeps hb hn h0, cell_keeps hb hn h1, cell_keeps hb hn h2, cell_keeps hb hn h3, h4, h5.below (Blk.keeps way_keeps) hb hn⟩
theorem pieceIn_moves (b : Nat → Prop) : Moves (PieceIn b) 4 := fun W W' n g o g' o' x hb hn h ⟨v, h0, h1, h2, h3, h4, h5⟩ =>
  ⟨v, (h 0 (by decide)).trans h0, (h 1 (by decide)).trans h1, (h 2 (by decide)).trans h2, (h 3 (by decide)).trans h3, h4, h5.below (Blk.keeps way_keeps) hb hn⟩
theorem pieceIn_celled (b : Nat → Prop) : Celled (PieceIn b) 4 := fun W g o x ⟨v, h0, h1, h2, h3, h4, h5⟩ j hj => by
  match j, hj with
  | 0, _ => exact ⟨_, h0, rfl⟩
  | 1, _ => exact ⟨_, h1, rfl⟩
  | 2, _ => exact ⟨_, h2, rfl⟩
  | 3, _ => exact ⟨_, h3, h4⟩

theorem infoPieceR : (Tryz.prog.info? 60).map (fun i => (i.zero, i.size, i.bytes)) = some (some (.agg #[.int .u8 0, .int .i64 0, .int .i64 0, .slice none 0 0]), 4, 48) := by kernel_rfl
set_option maxHeartbeats 2000000 in
set_option maxRecDepth 100000 in
theorem clone_pieces {α : Type} {q : World → Nat → Nat → α → Prop} (hm : Moves q 4) (hq : Celled q 4) (xs : List α) (v : Value) (w : World) (hv : IsSl q 4 w v xs) (hl : xs.length ≤ 100) :
    Calls Tryz.prog 102 #[v] w (ClonePost q 60 4 xs w) := by
  obtain ⟨i0, hi, hz0, hz1, hz2⟩ := info_parts infoPieceR
  have qq : ∀ (w : World) (a : Option Addr) (n c n' c' : Nat), (binOp .eql 22 (.slice a n c) (.slice none n' c')).run Tryz.prog w = .ok (.bool a.isNone) w := fun w a n c n' c' => Lib.run_eql_slice_nil w _ _ a n c n' c' Tryz.underlying22
  have uu : ∀ w, Sem.run Tryz.prog (underlying 22) w = .ok (TypeDesc.slice 60) w := run_underlying Tryz.underlying22
  obtain ⟨n, hn⟩ : ∃ n : Nat, n = xs.length := ⟨_, rfl⟩
  rcases hv with ⟨rfl, a, cap, rfl⟩ | ⟨g, off, cap, rfl, hne, h3, h4, hc⟩
  · cases a with
    | none =>
      go_enter Tryz.func102, Tryz.ntmps102
      go_wp2
      go_ret
      exact ⟨_, rfl, ⟨[], World.ownsRow_nil _ _ _ _⟩, .inl ⟨rfl, _, _, rfl⟩, Below.refl _ _⟩
    | some a =>
      go_enter Tryz.func102, Tryz.ntmps102
      go_wp2_with (at_builtin; refine wpList_append_own _ rfl _ _ 22 rfl w.heap.size 60 i0 (.agg #[.int .u8 0, .int .i64 0, .int .i64 0, .slice none 0 0]) 4 48 Tryz.underlying22 hi hz0 hz1 hz2 rfl (by decide) _ _ _ rfl (World.ownsRow_made w #[] 0 (Nat.le_refl _) (Nat.zero_le _) rfl) a 0 cap [] rfl rfl (by intro j u hj; simp at hj) (by intro u hu; cases hu) (by unfold maxLen; omega) (by omega) (by simp) ?_)
      intro v' w1 hown hgrow hnil
      go_wp2
      go_ret
      refine ⟨v', rfl, ⟨_, by simpa using hown⟩, .inl ⟨rfl, ?_⟩, ((Below.refl _ w).alloc (Nat.le_refl _) _).grown hgrow (by simp) (by intro k hk; simp [Value.ownBlock] at hk; omega)⟩
      obtain ⟨_, ⟨h, _⟩ | ⟨g', cap', cur, h, _⟩⟩ := hown
      · exact ⟨_, _, h⟩
      · exact ⟨_, _, h⟩
  · have HC : Hid _ := Lib.hid hc
    have HN : Hid _ := Lib.hid hn
    have HNE : Hid _ := Lib.hid hne
    have hL : (cellsOf w g off (n * 4)).length = n * 4 := cellsOf_length _ _ _ _
    have hA : ∀ j u, (cellsOf w g off (n * 4))[j]? = some u → w.cell? ⟨g, off + j, none⟩ = some u ∧ u.oneCell' = true := by
      intro j u hj
      have hjl : j < n * 4 := by have := (List.getElem?_eq_some_iff.1 hj).1; rwa [cellsOf_length] at this
      obtain ⟨u', h1, h2⟩ := all_cells (by decide) hq hc j (by rw [← hn]; exact hjl)
      rw [cellsOf_at hjl h1] at hj
      obtain rfl := Option.some.inj hj
      exact ⟨h1, h2⟩
    rw [← hn] at h3 hl ⊢
    have HM : Hid _ := Lib.hid hm
    have HQ : Hid _ := Lib.hid hq
    obtain ⟨news, hnews⟩ : ∃ l, l = cellsOf w g off (n * 4) := ⟨_, rfl⟩
    rw [← hnews] at hA hL
    have HNW : Hid _ := Lib.hid hnews
    have hA : Hid _ := Lib.hid hA
    clear hc hn hne hm hq hnews
    go_enter Tryz.func102, Tryz.ntmps102
    go_wp2_with (at_builtin; refine wpList_append_own _ rfl _ _ 22 rfl w.heap.size 60 i0 (.agg #[.int .u8 0, .int .i64 0, .int .i64 0, .slice none 0 0]) 4 48 Tryz.underlying22 hi hz0 hz1 hz2 rfl (by decide) _ _ _ rfl (World.ownsRow_made w #[] 0 (Nat.le_refl _) (Nat.zero_le _) rfl) ⟨g, off, none⟩ n cap news rfl hL ?qc2 ?qc3 ?qc4 ?qc5 ?qc6 ?_)
    case qc2 =>
      intro j u hj
      rw [Addr.add_lit]
      exact Lib.cell?_alloc_some _ (hA.out j u hj).1
    case qc3 => intro u hu; obtain ⟨j, hj⟩ := List.getElem?_of_mem hu; exact (hA.out j u hj).2
    case qc4 => unfold maxLen; omega
    case qc5 => omega
    case qc6 => simp
    intro v' w1 hown hgrow hnil
    have hbel : Below w.heap.size w w1 := ((Below.refl _ w).alloc (Nat.le_refl _) _).grown hgrow (by simp) (by intro k hk; simp [Value.ownBlock] at hk; omega)
    have HO : Hid (w1.ownsRow w.heap.size 60 4 v' xs.length (cellsOf w g off (xs.length * 4))) := Lib.hid (by rw [← HN.out, ← HNW.out]; simpa using hown)
    have HBE : Hid _ := Lib.hid hbel
    clear hown hgrow hnil hbel
    go_wp2
    go_ret
    exact ⟨v', rfl, ⟨_, HO.out⟩, clone_of (by decide) HM.out HQ.out HC.out HBE.out HO.out HNE.out, HBE.out⟩
theorem infoWayR : (Tryz.prog.info? 94).map (fun i => (i.zero, i.size, i.bytes)) = some (some (.agg #[.int .i64 0, .int .i64 0, .int .i64 0, .int .i64 0]), 4, 32) := by kernel_rfl
set_option maxHeartbeats 2000000 in
set_option maxRecDepth 100000 in
theorem clone_ways {α : Type} {q : World → Nat → Nat → α → Prop} (hm : Moves q 4) (hq : Celled q 4) (xs : List α) (v : Value) (w : World) (hv : IsSl q 4 w v xs) (hl : xs.length ≤ 100) :
    Calls Tryz.prog 103 #[v] w (ClonePost q 94 4 xs w) := by
  obtain ⟨i0, hi, hz0, hz1, hz2⟩ := info_parts infoWayR
  have qq : ∀ (w : World) (a : Option Addr) (n c n' c' : Nat), (binOp .eql 58 (.slice a n c) (.slice none n' c')).run Tryz.prog w = .ok (.bool a.isNone) w := fun w a n c n' c' => Lib.run_eql_slice_nil w _ _ a n c n' c' Tryz.underlying58
  have uu : ∀ w, Sem.run Tryz.prog (underlying 58) w = .ok (TypeDesc.slice 94) w := run_underlying Tryz.underlying58
  obtain ⟨n, hn⟩ : ∃ n : Nat, n = xs.length := ⟨_, rfl⟩
  rcases hv with ⟨rfl, a, cap, rfl⟩ | ⟨g, off, cap, rfl, hne, h3, h4, hc⟩
  · cases a with
    | none =>
      go_enter Tryz.func103, Tryz.ntmps103
      go_wp2
      go_ret
      exact ⟨_, rfl, ⟨[], World.ownsRow_nil _ _ _ _⟩, .inl ⟨rfl, _, _, rfl⟩, Below.refl _ _⟩
    | some a =>
      go_enter Tryz.func103, Tryz.ntmps103
      go_wp2_with (at_builtin; refine wpList_append_own _ rfl _ _ 58 rfl w.heap.size 94 i0 (.agg #[.int .i64 0, .int .i64 0, .int .i64 0, .int .i64 0]) 4 32 Tryz.underlying58 hi hz0 hz1 hz2 rfl (by decide) _ _ _ rfl (World.ownsRow_made w #[] 0 (Nat.le_refl _) (Nat.zero_le _) rfl) a 0 cap [] rfl rfl (by intro j u hj; simp at hj) (by intro u hu; cases hu) (by unfold maxLen; omega) (by omega) (by simp) ?_)
      intro v' w1 hown hgrow hnil
      go_wp2
      go_ret
      refine ⟨v', rfl, ⟨_, by simpa using hown⟩, .inl ⟨rfl, ?_⟩, ((Below.refl _ w).alloc (Nat.le_refl _) _).grown hgrow (by simp) (by intro k hk; simp [Value.ownBlock] at hk; omega)⟩
      obtain ⟨_, ⟨h, _⟩ | ⟨g', cap', cur, h, _⟩⟩ := hown
      · exact ⟨_, _, h⟩
      · exact ⟨_, _, h⟩
  · have HC : Hid _ := Lib.hid hc
    have HN : Hid _ := Lib.hid hn
    have HNE : Hid _ := Lib.hid hne
    have hL : (cellsOf w g off (n * 4)).length = n * 4 := cellsOf_length _ _ _ _
    have hA : ∀ j u, (cellsOf w g off (n * 4))[j]? = some u → w.cell? ⟨g, off + j, none⟩ = some u ∧ u.oneCell' = true := by
      intro j u hj
      have hjl : j < n * 4 := by have := (List.getElem?_eq_some_iff.1 hj).1; rwa [cellsOf_length] at this
      obtain ⟨u', h1, h2⟩ := all_cells (by decide) hq hc j (by rw [← hn]; exact hjl)
      rw [cellsOf_at hjl h1] at hj
      obtain rfl := Option.some.inj hj
      exact ⟨h1, h2⟩
    rw [← hn] at h3 hl ⊢
    have HM : Hid _ := Lib.hid hm
    have HQ : Hid _ := Lib.hid hq
    obtain ⟨news, hnews⟩ : ∃ l, l = cellsOf w g off (n * 4) := ⟨_, rfl⟩
    rw [← hnews] at hA hL
    have HNW : Hid _ := Lib.hid hnews
    have hA : Hid _ := Lib.hid hA
    clear hc hn hne hm hq hnews
    go_enter Tryz.func103, Tryz.ntmps103
    go_wp2_with (at_builtin; refine wpList_append_own _ rfl _ _ 58 rfl w.heap.size 94 i0 (.agg #[.int .i64 0, .int .i64 0, .int .i64 0, .int .i64 0]) 4 32 Tryz.underlying58 hi hz0 hz1 hz2 rfl (by decide) _ _ _ rfl (World.ownsRow_made w #[] 0 (Nat.le_refl _) (Nat.zero_le _) rfl) ⟨g, off, none⟩ n cap news rfl hL ?qc2 ?qc3 ?qc4 ?qc5 ?qc6 ?_)
    case qc2 =>
      intro j u hj
      rw [Addr.add_lit]
      exact Lib.cell?_alloc_some _ (hA.out j u hj).1
    case qc3 => intro u hu; obtain ⟨j, hj⟩ := List.getElem?_of_mem hu; exact (hA.out j u hj).2
    case qc4 => unfold maxLen; omega
    case qc5 => omega
    case qc6 => simp
    intro v' w1 hown hgrow hnil
    have hbel : Below w.heap.size w w1 := ((Below.refl _ w).alloc (Nat.le_refl _) _).grown hgrow (by simp) (by intro k hk; simp [Value.ownBlock] at hk; omega)
    have HO : Hid (w1.ownsRow w.heap.size 94 4 v' xs.length (cellsOf w g off (xs.length * 4))) := Lib.hid (by rw [← HN.out, ← HNW.out]; simpa using hown)
    have HBE : Hid _ := Lib.hid hbel
    clear hown hgrow hnil hbel
    go_wp2
    go_ret
    exact ⟨v', rfl, ⟨_, HO.out⟩, clone_of (by decide) HM.out HQ.out HC.out HBE.out HO.out HNE.out, HBE.out⟩
theorem infoIntR : (Tryz.prog.info? 3).map (fun i => (i.zero, i.size, i.bytes)) = some (some (.int .i64 0), 1, 8) := by kernel_rfl
set_option maxHeartbeats 2000000 in
set_option maxRecDepth 100000 in
theorem clone_start {α : Type} {q : World → Nat → Nat → α → Prop} (hm : Moves q 1) (hq : Celled q 1) (xs : List α) (v : Value) (w : World) (hv : IsSl q 1 w v xs) (hl : xs.length ≤ 100) :
    Calls Tryz.prog 49 #[v] w (ClonePost q 3 1 xs w) := by
  obtain ⟨i0, hi, hz0, hz1, hz2⟩ := info_parts infoIntR
  have qq : ∀ (w : World) (a : Option Addr) (n c n' c' : Nat), (binOp .eql 23 (.slice a n c) (.slice none n' c')).run Tryz.prog w = .ok (.bool a.isNone) w := fun w a n c n' c' => Lib.run_eql_slice_nil w _ _ a n c n' c' Tryz.underlying23
  have uu : ∀ w, Sem.run Tryz.prog (underlying 23) w = .ok (TypeDesc.slice 3) w := run_underlying Tryz.underlying23
  obtain ⟨n, hn⟩ : ∃ n : Nat, n = xs.length := ⟨_, rfl⟩
  rcases hv with ⟨rfl, a, cap, rfl⟩ | ⟨g, off, cap, rfl, hne, h3, h4, hc⟩
  · cases a with
    | none =>
      go_enter Tryz.func49, Tryz.ntmps49
      go_wp2
      go_ret
      exact ⟨_, rfl, ⟨[], World.ownsRow_nil _ _ _ _⟩, .inl ⟨rfl, _, _, rfl⟩, Below.refl _ _⟩
    | some a =>
      go_enter Tryz.func49, Tryz.ntmps49
      go_wp2_with (at_builtin; refine wpList_append_own _ rfl _ _ 23 rfl w.heap.size 3 i0 (.int .i64 0) 1 8 Tryz.underlying23 hi hz0 hz1 hz2 rfl (by decide) _ _ _ rfl (World.ownsRow_made w #[] 0 (Nat.le_refl _) (Nat.zero_le _) rfl) a 0 cap [] rfl rfl (by intro j u hj; simp at hj) (by intro u hu; cases hu) (by unfold maxLen; omega) (by omega) (by simp) ?_)
      intro v' w1 hown hgrow hnil
      go_wp2
      go_ret
      refine ⟨v', rfl, ⟨_, by simpa using hown⟩, .inl ⟨rfl, ?_⟩, ((Below.refl _ w).alloc (Nat.le_refl _) _).grown hgrow (by simp) (by intro k hk; simp [Value.ownBlock] at hk; omega)⟩
      obtain ⟨_, ⟨h, _⟩ | ⟨g', cap', cur, h, _⟩⟩ := hown
      · exact ⟨_, _, h⟩
      · exact ⟨_, _, h⟩
  · have HC : Hid _ := Lib.hid hc
    have HN : Hid _ := Lib.hid hn
    have HNE : Hid _ := Lib.hid hne
    have hL : (cellsOf w g off (n * 1)).length = n * 1 := cellsOf_length _ _ _ _
    have hA : ∀ j u, (cellsOf w g off (n * 1))[j]? = some u → w.cell? ⟨g, off + j, none⟩ = some u ∧ u.oneCell' = true := by
      intro j u hj
      have hjl : j < n * 1 := by have := (List.getElem?_eq_some_iff.1 hj).1; rwa [cellsOf_length] at this
      obtain ⟨u', h1, h2⟩ := all_cells (by decide) hq hc j (by rw [← hn]; exact hjl)
      rw [cellsOf_at hjl h1] at hj
      obtain rfl := Option.some.inj hj
      exact ⟨h1, h2⟩
    rw [← hn] at h3 hl ⊢
    have HM : Hid _ := Lib.hid hm
    have HQ : Hid _ := Lib.hid hq
    obtain ⟨news, hnews⟩ : ∃ l, l = cellsOf w g off (n * 1) := ⟨_, rfl⟩
    rw [← hnews] at hA hL
    have HNW : Hid _ := Lib.hid hnews
    have hA : Hid _ := Lib.hid hA
    clear hc hn hne hm hq hnews
    go_enter Tryz.func49, Tryz.ntmps49
    go_wp2_with (at_builtin; refine wpList_append_own _ rfl _ _ 23 rfl w.heap.size 3 i0 (.int .i64 0) 1 8 Tryz.underlying23 hi hz0 hz1 hz2 rfl (by decide) _ _ _ rfl (World.ownsRow_made w #[] 0 (Nat.le_refl _) (Nat.zero_le _) rfl) ⟨g, off, none⟩ n cap news rfl hL ?qc2 ?qc3 ?qc4 ?qc5 ?qc6 ?_)
    case qc2 =>
      intro j u hj
      rw [Addr.add_lit]
      exact Lib.cell?_alloc_some _ (hA.out j u hj).1
    case qc3 => intro u hu; obtain ⟨j, hj⟩ := List.getElem?_of_mem hu; exact (hA.out j u hj).2
    case qc4 => unfold maxLen; omega
    case qc5 => omega
    case qc6 => simp
    intro v' w1 hown hgrow hnil
    have hbel : Below w.heap.size w w1 := ((Below.refl _ w).alloc (Nat.le_refl _) _).grown hgrow (by simp) (by intro k hk; simp [Value.ownBlock] at hk; omega)
    have HO : Hid (w1.ownsRow w.heap.size 3 1 v' xs.length (cellsOf w g off (xs.length * 1))) := Lib.hid (by rw [← HN.out, ← HNW.out]; simpa using hown)
    have HBE : Hid _ := Lib.hid hbel
    clear hown hgrow hnil hbel
    go_wp2
    go_ret
    exact ⟨v', rfl, ⟨_, HO.out⟩, clone_of (by decide) HM.out HQ.out HC.out HBE.out HO.out HNE.out, HBE.out⟩
theorem infoEndR : (Tryz.prog.info? 62).map (fun i => (i.zero, i.size, i.bytes)) = some (some (.agg #[.int .i64 0, .int .i64 0, .int .i64 0, .bool false]), 4, 32) := by kernel_rfl
set_option maxHeartbeats 2000000 in
set_option maxRecDepth 100000 in
theorem clone_ends {α : Type} {q : World → Nat → Nat → α → Prop} (hm : Moves q 4) (hq : Celled q 4) (xs : List α) (v : Value) (w : World) (hv : IsSl q 4 w v xs) (hl : xs.length ≤ 100) :
    Calls Tryz.prog 104 #[v] w (ClonePost q 62 4 xs w) := by
  obtain ⟨i0, hi, hz0, hz1, hz2⟩ := info_parts infoEndR
  have qq : ∀ (w : World) (a : Option Addr) (n c n' c' : Nat), (binOp .eql 24 (.slice a n c) (.slice none n' c')).run Tryz.prog w = .ok (.bool a.isNone) w := fun w a n c n' c' => Lib.run_eql_slice_nil w _ _ a n c n' c' Tryz.underlying24
  have uu : ∀ w, Sem.run Tryz.prog (underlying 24) w = .ok (TypeDesc.slice 62) w := run_underlying Tryz.underlying24
  obtain ⟨n, hn⟩ : ∃ n : Nat, n = xs.length := ⟨_, rfl⟩
  rcases hv with ⟨rfl, a, cap, rfl⟩ | ⟨g, off, cap, rfl, hne, h3, h4, hc⟩
  · cases a with
    | none =>
      go_enter Tryz.func104, Tryz.ntmps104
      go_wp2
      go_ret
      exact ⟨_, rfl, ⟨[], World.ownsRow_nil _ _ _ _⟩, .inl ⟨rfl, _, _, rfl⟩, Below.refl _ _⟩
    | some a =>
      go_enter Tryz.func104, Tryz.ntmps104
      go_wp2_with (at_builtin; refine wpList_append_own _ rfl _ _ 24 rfl w.heap.size 62 i0 (.agg #[.int .i64 0, .int .i64 0, .int .i64 0, .bool false]) 4 32 Tryz.underlying24 hi hz0 hz1 hz2 rfl (by decide) _ _ _ rfl (World.ownsRow_made w #[] 0 (Nat.le_refl _) (Nat.zero_le _) rfl) a 0 cap [] rfl rfl (by intro j u hj; simp at hj) (by intro u hu; cases hu) (by unfold maxLen; omega) (by omega) (by simp) ?_)
      intro v' w1 hown hgrow hnil
      go_wp2
      go_ret
      refine ⟨v', rfl, ⟨_, by simpa using hown⟩, .inl ⟨rfl, ?_⟩, ((Below.refl _ w).alloc (Nat.le_refl _) _).grown hgrow (by simp) (by intro k hk; simp [Value.ownBlock] at hk; omega)⟩
      obtain ⟨_, ⟨h, _⟩ | ⟨g', cap', cur, h, _⟩⟩ := hown
      · exact ⟨_, _, h⟩
      · exact ⟨_, _, h⟩
  · have HC : Hid _ := Lib.hid hc
    have HN : Hid _ := Lib.hid hn
    have HNE : Hid _ := Lib.hid hne
    have hL : (cellsOf w g off (n * 4)).length = n * 4 := cellsOf_length _ _ _ _
    have hA : ∀ j u, (cellsOf w g off (n * 4))[j]? = some u → w.cell? ⟨g, off + j, none⟩ = some u ∧ u.oneCell' = true := by
      intro j u hj
      have hjl : j < n * 4 := by have := (List.getElem?_eq_some_iff.1 hj).1; rwa [cellsOf_length] at this
      obtain ⟨u', h1, h2⟩ := all_cells (by decide) hq hc j (by rw [← hn]; exact hjl)
      rw [cellsOf_at hjl h1] at hj
      obtain rfl := Option.some.inj hj
      exact ⟨h1, h2⟩
    rw [← hn] at h3 hl ⊢
    have HM : Hid _ := Lib.hid hm
    have HQ : Hid _ := Lib.hid hq
    obtain ⟨news, hnews⟩ : ∃ l, l = cellsOf w g off (n * 4) := ⟨_, rfl⟩
    rw [← hnews] at hA hL
    have HNW : Hid _ := Lib.hid hnews
    have hA : Hid _ := Lib.hid hA
    clear hc hn hne hm hq hnews
    go_enter Tryz.func104, Tryz.ntmps104
    go_wp2_with (at_builtin; refine wpList_append_own _ rfl _ _ 24 rfl w.heap.size 62 i0 (.agg #[.int .i64 0, .int .i64 0, .int .i64 0, .bool false]) 4 32 Tryz.underlying24 hi hz0 hz1 hz2 rfl (by decide) _ _ _ rfl (World.ownsRow_made w #[] 0 (Nat.le_refl _) (Nat.zero_le _) rfl) ⟨g, off, none⟩ n cap news rfl hL ?qc2 ?qc3 ?qc4 ?qc5 ?qc6 ?_)
    case qc2 =>
      intro j u hj
      rw [Addr.add_lit]
      exact Lib.cell?_alloc_some _ (hA.out j u hj).1
    case qc3 => intro u hu; obtain ⟨j, hj⟩ := List.getElem?_of_mem hu; exact (hA.out j u hj).2
    case qc4 => unfold maxLen; omega
    case qc5 => omega
    case qc6 => simp
    intro v' w1 hown hgrow hnil
    have hbel : Below w.heap.size w w1 := ((Below.refl _ w).alloc (Nat.le_refl _) _).grown hgrow (by simp) (by intro k hk; simp [Value.ownBlock] at hk; omega)
    have HO : Hid (w1.ownsRow w.heap.size 62 4 v' xs.length (cellsOf w g off (xs.length * 4))) := Lib.hid (by rw [← HN.out, ← HNW.out]; simpa using hown)
    have HBE : Hid _ := Lib.hid hbel
    clear hown hgrow hnil hbel
    go_wp2
    go_ret
    exact ⟨v', rfl, ⟨_, HO.out⟩, clone_of (by decide) HM.out HQ.out HC.out HBE.out HO.out HNE.out, HBE.out⟩
end Go.Proofs.YtdhhdkbnlddnbaaGreatDoor

namespace Go.Proofs.YtdhhdkbnlddnbaaGreatDoor
open Go.ChangeShapes Go.WideShapes Go.ChangeAt Go.RowKit

/-- A block of rules: what it holds, and that it may be written. -/
def RBox (W : World) (b : Nat) (t : TypeId) (r : RulesD) (vp vs ve : Value) : Prop := W.heap[b]? = some (.cells (RulesCells r vp vs ve) t (0, 0))
theorem RBox.below {W W' : World} {b n : Nat} {t : TypeId} {r : RulesD} {vp vs ve : Value} (h : RBox W b t r vp vs ve) (hb : Below n W W') (hn : b < n) : RBox W' b t r vp vs ve := (hb.block b hn).trans h
def RFacts (W : World) (b : Nat) (r : RulesD) (vp vs ve : Value) : Prop := BoxR W b r vp vs ve ∧ W.frozen? ⟨b, 0, none⟩ = false ∧ W.frozen? ⟨b, 1, none⟩ = false ∧ W.frozen? ⟨b, 2, none⟩ = false ∧ W.frozen? ⟨b, 3, none⟩ = false ∧ W.frozen? ⟨b, 4, none⟩ = false ∧ W.frozen? ⟨b, 5, none⟩ = false ∧ W.frozen? ⟨b, 6, none⟩ = false ∧ W.frozen? ⟨b, 7, none⟩ = false ∧ W.frozen? ⟨b, 8, none⟩ = false ∧ W.frozen? ⟨b, 9, none⟩ = false ∧ W.frozen? ⟨b, 10, none⟩ = false
theorem RBox.facts {W : World} {b : Nat} {t : TypeId} {r : RulesD} {vp vs ve : Value} (h : RBox W b t r vp vs ve) : RFacts W b r vp vs ve := by
  have hc : ∀ i, W.cell? ⟨b, i, none⟩ = (RulesCells r vp vs ve)[i]? := fun i => cell_of_row W b i _ t (0, 0) h
  have hf : ∀ i, W.frozen? ⟨b, i, none⟩ = false := fun i => frozen_of_row W b i _ t h
  exact ⟨⟨hc 0, hc 1, hc 2, hc 3, hc 4, hc 5, hc 6, hc 7, hc 8, hc 9, hc 10⟩, hf 0, hf 1, hf 2, hf 3, hf 4, hf 5, hf 6, hf 7, hf 8, hf 9, hf 10⟩
theorem RBox.set3 {W : World} {b : Nat} {t : TypeId} {r : RulesD} {vp vs ve : Value} (h : RBox W b t r vp vs ve) (u : Value) : RBox (W.setCell ⟨b, 3, none⟩ u) b t r u vs ve := heap_setCell_same W b 3 _ t u h
theorem RBox.set4 {W : World} {b : Nat} {t : TypeId} {r : RulesD} {vp vs ve : Value} (h : RBox W b t r vp vs ve) (u : Value) : RBox (W.setCell ⟨b, 4, none⟩ u) b t r vp u ve := heap_setCell_same W b 4 _ t u h
theorem RBox.set7 {W : World} {b : Nat} {t : TypeId} {r : RulesD} {vp vs ve : Value} (h : RBox W b t r vp vs ve) (u : Value) : RBox (W.setCell ⟨b, 7, none⟩ u) b t r vp vs u := heap_setCell_same W b 7 _ t u h
theorem RBox.other {W : World} {b : Nat} {t : TypeId} {r : RulesD} {vp vs ve : Value} (h : RBox W b t r vp vs ve) {a : Addr} (ha : b ≠ a.block) (u : Value) : RBox (W.setCell a u) b t r vp vs ve := (heap_setCell_other W a b u ha).trans h
theorem RBox.new (W : World) (t : TypeId) (r : RulesD) (vp vs ve : Value) : RBox (W.alloc (.cells (RulesCells r vp vs ve) t)) W.heap.size t r vp vs ve := heap_alloc_new W _
theorem RBox.alloc {W : World} {b : Nat} {t : TypeId} {r : RulesD} {vp vs ve : Value} (h : RBox W b t r vp vs ve) (o : Obj) : RBox (W.alloc o) b t r vp vs ve := (Below.heap_alloc W o b (Array.getElem?_eq_some_iff.1 h).1).trans h

def zero0 : RulesD := { name := ⟨#[]⟩, width := 0, height := 0, pieces := [], start := [], falls := false, keeps := false, ends := [], blocked := 0, quiet := 0, rep := 0 }
/-- What rules must not exceed for a clone. -/
def Fits (r : RulesD) : Prop := (0 < r.pieces.length ∧ r.pieces.length ≤ 100) ∧ (0 < r.start.length ∧ r.start.length ≤ 100) ∧ r.ends.length ≤ 100 ∧ ∀ x ∈ r.pieces, x.ways.length ≤ 100
def CloneR (c : Nat → Prop) (r : RulesD) (w : World) (e : Ending) (w' : World) : Prop :=
  ∃ vp gs cs ve, e = .returned (RulesV r vp (.slice (some ⟨gs, 0, none⟩) r.start.length cs) ve) ∧ IsSl (Blk (fun k => k ≠ gs ∧ c k) (PieceIn (fun k => k ≠ gs ∧ c k))) 4 w' vp r.pieces ∧ IsSl (Blk (fun k => k ≠ gs ∧ c k) EndAt) 4 w' ve r.ends ∧
    w'.ownsRow w.heap.size 3 1 (.slice (some ⟨gs, 0, none⟩) r.start.length cs) r.start.length (r.start.map (.int .i64)) ∧ Below w.heap.size w w'
/-- All eleven cells of a block of rules, written one behind the other. -/
def fill11 (W : World) (b : Nat) (r : RulesD) (vp vs ve : Value) : World :=
  ((((((((((W.setCell ⟨b, 0, none⟩ (.string r.name)).setCell ⟨b, 1, none⟩ (.int .i64 r.width)).setCell ⟨b, 2, none⟩ (.int .i64 r.height)).setCell ⟨b, 3, none⟩ vp).setCell ⟨b, 4, none⟩ vs).setCell ⟨b, 5, none⟩ (.bool r.falls)).setCell ⟨b, 6, none⟩ (.bool r.keeps)).setCell ⟨b, 7, none⟩ ve).setCell ⟨b, 8, none⟩ (.int .i64 r.blocked)).setCell ⟨b, 9, none⟩ (.int .i64 r.quiet)).setCell ⟨b, 10, none⟩ (.int .i64 r.rep)
theorem fill_gen {W : World} {b : Nat} {t : TypeId} {a0 c0 a1 c1 a2 c2 a3 c3 a4 c4 a5 c5 a6 c6 a7 c7 a8 c8 a9 c9 a10 c10 : Value} (h : W.heap[b]? = some (.cells #[c0, c1, c2, c3, c4, c5, c6, c7, c8, c9, c10] t (0, 0))) : (((((((((((W.setCell ⟨b, 0, none⟩ a0).setCell ⟨b, 1, none⟩ a1).setCell ⟨b, 2, none⟩ a2).setCell ⟨b, 3, none⟩ a3).setCell ⟨b, 4, none⟩ a4).setCell ⟨b, 5, none⟩ a5).setCell ⟨b, 6, none⟩ a6).setCell ⟨b, 7, none⟩ a7).setCell ⟨b, 8, none⟩ a8).setCell ⟨b, 9, none⟩ a9).setCell ⟨b, 10, none⟩ a10).heap[b]? = some (.cells #[a0, a1, a2, a3, a4, a5, a6, a7, a8, a9, a10] t (0, 0)) := by
  have h0 : (W.setCell ⟨b, 0, none⟩ a0).heap[b]? = some (.cells #[a0, c1, c2, c3, c4, c5, c6, c7, c8, c9, c10] t (0, 0)) := heap_setCell_same _ b 0 _ t a0 h
  have h1 : ((W.setCell ⟨b, 0, none⟩ a0).setCell ⟨b, 1, none⟩ a1).heap[b]? = some (.cells #[a0, a1, c2, c3, c4, c5, c6, c7, c8, c9, c10] t (0, 0)) := heap_setCell_same _ b 1 _ t a1 h0
  have h2 : (((W.setCell ⟨b, 0, none⟩ a0).setCell ⟨b, 1, none⟩ a1).setCell ⟨b, 2, none⟩ a2).heap[b]? = some (.cells #[a0, a1, a2, c3, c4, c5, c6, c7, c8, c9, c10] t (0, 0)) := heap_setCell_same _ b 2 _ t a2 h1
  have h3 : ((((W.setCell ⟨b, 0, none⟩ a0).setCell ⟨b, 1, none⟩ a1).setCell ⟨b, 2, none⟩ a2).setCell ⟨b, 3, none⟩ a3).heap[b]? = some (.cells #[a0, a1, a2, a3, c4, c5, c6, c7, c8, c9, c10] t (0, 0)) := heap_setCell_same _ b 3 _ t a3 h2
  have h4 : (((((W.setCell ⟨b, 0, none⟩ a0).setCell ⟨b, 1, none⟩ a1).setCell ⟨b, 2, none⟩ a2).setCell ⟨b, 3, none⟩ a3).setCell ⟨b, 4, none⟩ a4).heap[b]? = some (.cells #[a0, a1, a2, a3, a4, c5, c6, c7, c8, c9, c10] t (0, 0)) := heap_setCell_same _ b 4 _ t a4 h3
  have h5 : ((((((W.setCell ⟨b, 0, none⟩ a0).setCell ⟨b, 1, none⟩ a1).setCell ⟨b, 2, none⟩ a2).setCell ⟨b, 3, none⟩ a3).setCell ⟨b, 4, none⟩ a4).setCell ⟨b, 5, none⟩ a5).heap[b]? = some (.cells #[a0, a1, a2, a3, a4, a5, c6, c7, c8, c9, c10] t (0, 0)) := heap_setCell_same _ b 5 _ t a5 h4
  have h6 : (((((((W.setCell ⟨b, 0, none⟩ a0).setCell ⟨b, 1, none⟩ a1).setCell ⟨b, 2, none⟩ a2).setCell ⟨b, 3, none⟩ a3).setCell ⟨b, 4, none⟩ a4).setCell ⟨b, 5, none⟩ a5).setCell ⟨b, 6, none⟩ a6).heap[b]? = some (.cells #[a0, a1, a2, a3, a4, a5, a6, c7, c8, c9, c10] t (0, 0)) := heap_setCell_same _ b 6 _ t a6 h5
  have h7 : ((((((((W.setCell ⟨b, 0, none⟩ a0).setCell ⟨b, 1, none⟩ a1).setCell ⟨b, 2, none⟩ a2).setCell ⟨b, 3, none⟩ a3).setCell ⟨b, 4, none⟩ a4).setCell ⟨b, 5, none⟩ a5).setCell ⟨b, 6, none⟩ a6).setCell ⟨b, 7, none⟩ a7).heap[b]? = some (.cells #[a0, a1, a2, a3, a4, a5, a6, a7, c8, c9, c10] t (0, 0)) := heap_setCell_same _ b 7 _ t a7 h6
  have h8 : (((((((((W.setCell ⟨b, 0, none⟩ a0).setCell ⟨b, 1, none⟩ a1).setCell ⟨b, 2, none⟩ a2).setCell ⟨b, 3, none⟩ a3).setCell ⟨b, 4, none⟩ a4).setCell ⟨b, 5, none⟩ a5).setCell ⟨b, 6, none⟩ a6).setCell ⟨b, 7, none⟩ a7).setCell ⟨b, 8, none⟩ a8).heap[b]? = some (.cells #[a0, a1, a2, a3, a4, a5, a6, a7, a8, c9, c10] t (0, 0)) := heap_setCell_same _ b 8 _ t a8 h7
  have h9 : ((((((((((W.setCell ⟨b, 0, none⟩ a0).setCell ⟨b, 1, none⟩ a1).setCell ⟨b, 2, none⟩ a2).setCell ⟨b, 3, none⟩ a3).setCell ⟨b, 4, none⟩ a4).setCell ⟨b, 5, none⟩ a5).setCell ⟨b, 6, none⟩ a6).setCell ⟨b, 7, none⟩ a7).setCell ⟨b, 8, none⟩ a8).setCell ⟨b, 9, none⟩ a9).heap[b]? = some (.cells #[a0, a1, a2, a3, a4, a5, a6, a7, a8, a9, c10] t (0, 0)) := heap_setCell_same _ b 9 _ t a9 h8
  have h10 : (((((((((((W.setCell ⟨b, 0, none⟩ a0).setCell ⟨b, 1, none⟩ a1).setCell ⟨b, 2, none⟩ a2).setCell ⟨b, 3, none⟩ a3).setCell ⟨b, 4, none⟩ a4).setCell ⟨b, 5, none⟩ a5).setCell ⟨b, 6, none⟩ a6).setCell ⟨b, 7, none⟩ a7).setCell ⟨b, 8, none⟩ a8).setCell ⟨b, 9, none⟩ a9).setCell ⟨b, 10, none⟩ a10).heap[b]? = some (.cells #[a0, a1, a2, a3, a4, a5, a6, a7, a8, a9, a10] t (0, 0)) := heap_setCell_same _ b 10 _ t a10 h9
  exact h10
theorem rbox_fill {W : World} {b : Nat} {t : TypeId} {r0 r : RulesD} {up us ue vp vs ve : Value} (h : RBox W b t r0 up us ue) : RBox (fill11 W b r vp vs ve) b t r vp vs ve := fill_gen h
theorem fill_other (W : World) (b : Nat) (r : RulesD) (vp vs ve : Value) : (∀ k, k ≠ b → (fill11 W b r vp vs ve).heap[k]? = W.heap[k]?) ∧ (fill11 W b r vp vs ve).heap.size = W.heap.size := by
  refine ⟨fun k hk => ?_, by simp [fill11]⟩
  unfold fill11
  rw [heap_setCell_other _ _ _ _ hk, heap_setCell_other _ _ _ _ hk, heap_setCell_other _ _ _ _ hk, heap_setCell_other _ _ _ _ hk, heap_setCell_other _ _ _ _ hk, heap_setCell_other _ _ _ _ hk, heap_setCell_other _ _ _ _ hk, heap_setCell_other _ _ _ _ hk, heap_setCell_other _ _ _ _ hk, heap_setCell_other _ _ _ _ hk, heap_setCell_other _ _ _ _ hk]
theorem fill_below {B : Nat} {w W : World} (h : Below B w W) {b : Nat} (hb : B ≤ b) (r : RulesD) (vp vs ve : Value) : Below B w (fill11 W b r vp vs ve) :=
  ((((((((((h.setCell hb _).setCell hb _).setCell hb _).setCell hb _).setCell hb _).setCell hb _).setCell hb _).setCell hb _).setCell hb _).setCell hb _).setCell hb _
theorem own_max {W : World} {B : Nat} {e : TypeId} {size g n cap : Nat} {xs : List Value} (h : W.ownsRow B e size (.slice (some ⟨g, 0, none⟩) n cap) n xs) : cap ≤ maxLen := by
  rcases h.2 with ⟨h', _⟩ | ⟨g', cap', cur, h', _, _, _, hc, _⟩
  · simp at h'
  · simp only [Value.slice.injEq] at h'
    omega
theorem own_keep {W W' : World} {B : Nat} {e : TypeId} {size n g cap : Nat} {xs : List Value} (h : W.ownsRow B e size (.slice (some ⟨g, 0, none⟩) n cap) n xs) (hg : W'.heap[g]? = W.heap[g]?) : W'.ownsRow B e size (.slice (some ⟨g, 0, none⟩) n cap) n xs := by
  refine ⟨h.1, ?_⟩
  rcases h.2 with hn | ⟨g', cap', cur, h', h1, h2, rest⟩
  · exact .inl hn
  · simp only [Value.slice.injEq, Option.some.injEq, Addr.mk.injEq, and_true, true_and] at h'
    obtain ⟨rfl, rfl⟩ := h'
    exact .inr ⟨g, cap, cur, rfl, h1, hg.trans h2, rest⟩
theorem own_ints {W : World} {B : Nat} {e : TypeId} {g n cap : Nat} {xs : List Value} {st : List Int} (h : W.ownsRow B e 1 (.slice (some ⟨g, 0, none⟩) n cap) n xs) (hs : IsSl IntAt 1 W (.slice (some ⟨g, 0, none⟩) n cap) st) (hn : n = st.length) : xs = st.map (.int .i64) := by
  have hl : xs.length = n * 1 := h.1
  apply List.ext_getElem?
  intro j
  by_cases hj : j < n
  · rcases hs with ⟨h0, _⟩ | ⟨g', off, cap', e1, e2, e3, e4, hc⟩
    · subst h0; simp at hn; omega
    · simp only [Value.slice.injEq, Option.some.injEq, Addr.mk.injEq, and_true] at e1
      obtain ⟨⟨rfl, rfl⟩, _⟩ := e1
      have h1 := hc j (st[j]'(by omega)) (by simp)
      have h2 := h.cellAt j (by omega)
      unfold IntAt at h1
      rw [Nat.zero_add, Nat.mul_one, h2] at h1
      rw [h1, List.getElem?_map, List.getElem?_eq_getElem (by omega)]
      rfl
  · rw [List.getElem?_eq_none (by omega), List.getElem?_eq_none (by simp; omega)]
theorem PieceIn.here {c : Nat → Prop} {W : World} {g o : Nat} {x : PieceD} (h : PieceIn c W g o x) : PieceIn (fun k => c k ∧ k < W.heap.size) W g o x := by
  obtain ⟨v, c0, c1, c2, c3, c4, c5⟩ := h
  exact ⟨v, c0, c1, c2, c3, c4, c5.mono fun _ _ _ hx => ⟨⟨hx.1, World.block_lt_of_cell? _ _ hx.2.1⟩, hx.2⟩⟩
theorem PieceIn.weak {c d : Nat → Prop} (hcd : ∀ k, c k → d k) {W : World} {g o : Nat} {x : PieceD} (h : PieceIn c W g o x) : PieceIn d W g o x := by
  obtain ⟨v, c0, c1, c2, c3, c4, c5⟩ := h
  exact ⟨v, c0, c1, c2, c3, c4, c5.mono fun _ _ _ hx => ⟨hcd _ hx.1, hx.2⟩⟩
/-- The blocks of a kind that were there are as they were. -/
def Stays (b : Nat → Prop) (W W' : World) : Prop := (∀ k, k < W.heap.size → b k → W'.heap[k]? = W.heap[k]?) ∧ W.heap.size ≤ W'.heap.size
theorem Stays.trans {b : Nat → Prop} {W W' W2 : World} (h : Stays b W W') (h2 : Stays b W' W2) : Stays b W W2 := ⟨fun k hk hb => (h2.1 k (by have := h.2; omega) hb).trans (h.1 k hk hb), Nat.le_trans h.2 h2.2⟩
theorem Stays.of {b : Nat → Prop} {W W' : World} (h : Below W.heap.size W W') : Stays b W W' := ⟨fun k hk _ => h.block k hk, h.size⟩
theorem Stays.set {b : Nat → Prop} {W W' : World} (h : Stays b W W') {a : Addr} (ha : ¬ b a.block) (u : Value) : Stays b W (W'.setCell a u) := ⟨fun k hk hb => (heap_setCell_other W' a k u (fun e => ha (e ▸ hb))).trans (h.1 k hk hb), by rw [World.size_setCell]; exact h.2⟩
theorem Stays.cell {b : Nat → Prop} {W W' : World} (h : Stays b W W') {a : Addr} {u : Value} (hb : b a.block) (hc : W.cell? a = some u) : W'.cell? a = some u :=
  (World.cell?_of_block (h.1 a.block (World.block_lt_of_cell? _ _ hc) hb)).trans hc
theorem Stays.way {b c : Nat → Prop} {W W' : World} (h : Stays b W W') (hbc : ∀ k, c k → b k) {g o : Nat} {x : WayD} (hx : Blk c WayAt W g o x) : Blk c WayAt W' g o x :=
  ⟨hx.1, h.cell (hbc _ hx.1) hx.2.1, h.cell (hbc _ hx.1) hx.2.2.1, h.cell (hbc _ hx.1) hx.2.2.2.1, h.cell (hbc _ hx.1) hx.2.2.2.2⟩
theorem Stays.endd {b c : Nat → Prop} {W W' : World} (h : Stays b W W') (hbc : ∀ k, c k → b k) {g o : Nat} {x : EndD} (hx : Blk c EndAt W g o x) : Blk c EndAt W' g o x :=
  ⟨hx.1, h.cell (hbc _ hx.1) hx.2.1, h.cell (hbc _ hx.1) hx.2.2.1, h.cell (hbc _ hx.1) hx.2.2.2.1, h.cell (hbc _ hx.1) hx.2.2.2.2⟩
theorem Stays.piece {b c : Nat → Prop} {W W' : World} (h : Stays b W W') (hbc : ∀ k, c k → b k) {g o : Nat} {x : PieceD} (hg : b g) (hx : PieceIn c W g o x) : PieceIn c W' g o x := by
  obtain ⟨v, c0, c1, c2, c3, c4, c5⟩ := hx
  exact ⟨v, h.cell hg c0, h.cell hg c1, h.cell hg c2, h.cell hg c3, c4, c5.mono fun _ _ _ hx => h.way hbc hx⟩
/-- Neither block g nor one of the call's two own variables. -/
def Ap (c : Nat → Prop) (w : World) (g k : Nat) : Prop := k ≠ g ∧ k ≠ w.heap.size ∧ k ≠ w.heap.size + 1 ∧ c k
theorem own_cap {W : World} {B : Nat} {e : TypeId} {size g n cap : Nat} {xs : List Value} (h : W.ownsRow B e size (.slice (some ⟨g, 0, none⟩) n cap) n xs) : n ≤ cap := by
  rcases h.2 with ⟨h', _⟩ | ⟨g', cap', cur, h', _, _, hc, _⟩
  · simp at h'
  · simp only [Value.slice.injEq] at h'
    omega
def CInv (c : Nat → Prop) (r : RulesD) (w : World) (g cap n : Nat) (vs ve : Value) (W : World) : Prop :=
  RBox W w.heap.size 26 r (.slice (some ⟨g, 0, none⟩) n cap) vs ve ∧ RBox W (w.heap.size + 1) 26 zero0 (.slice none 0 0) (.slice none 0 0) (.slice none 0 0) ∧
    (∃ news, W.ownsRow (w.heap.size + 2) 60 4 (.slice (some ⟨g, 0, none⟩) n cap) n news) ∧ (∀ i x, r.pieces[i]? = some x → PieceIn (Ap c w g) W g (i * 4) x) ∧ Below w.heap.size w W
theorem own_below {W W' : World} {B : Nat} {e : TypeId} {size n : Nat} {v : Value} {xs : List Value} (h : W.ownsRow B e size v n xs) (hb : Below W.heap.size W W') : W'.ownsRow B e size v n xs := by
  refine ⟨h.1, ?_⟩
  rcases h.2 with hn | ⟨g, cap, cur, rfl, h1, h2, rest⟩
  · exact .inl hn
  · exact .inr ⟨g, cap, cur, rfl, h1, (hb.block g (Array.getElem?_eq_some_iff.1 h2).1).trans h2, rest⟩
theorem CInv.below {c : Nat → Prop} {r : RulesD} {w : World} {g cap n : Nat} {vs ve : Value} {W W' : World} (h : CInv c r w g cap n vs ve W) (hb : Below W.heap.size W W') : CInv c r w g cap n vs ve W' := by
  obtain ⟨h1, h2, ⟨news, h3⟩, h4, h5⟩ := h
  exact ⟨h1.below hb (Array.getElem?_eq_some_iff.1 h1).1, h2.below hb (Array.getElem?_eq_some_iff.1 h2).1, ⟨news, own_below h3 hb⟩, fun i x hx => pieceIn_keeps _ _ _ _ _ _ _ hb (Nat.le_refl _) (h4 i x hx), h5.trans (hb.mono h5.size)⟩
theorem way_other {c : Nat → Prop} {w : World} {g o : Nat} {u : Value} {W : World} : ∀ (b i : Nat) (x : WayD), Blk (Ap c w g) WayAt W b i x → Blk (Ap c w g) WayAt (W.setCell ⟨g, o, none⟩ u) b i x := by
  intro b i x ⟨hb, h0, h1, h2, h3⟩
  have hk : ∀ j, (W.setCell ⟨g, o, none⟩ u).cell? ⟨b, j, none⟩ = W.cell? ⟨b, j, none⟩ := fun j => World.cell?_setCell_other _ _ _ _ (fun e => hb.1 (by rw [Addr.mk.injEq] at e; exact e.1.symm))
  exact ⟨hb, (hk _).trans h0, (hk _).trans h1, (hk _).trans h2, (hk _).trans h3⟩
theorem piece_other {c : Nat → Prop} {w : World} {g o : Nat} {u : Value} {W : World} {g' i : Nat} {x : PieceD} (h : PieceIn (Ap c w g) W g' i x) (hne : g' ≠ g ∨ o < i ∨ i + 4 ≤ o) : PieceIn (Ap c w g) (W.setCell ⟨g, o, none⟩ u) g' i x := by
  obtain ⟨v, c0, c1, c2, c3, c4, c5⟩ := h
  have hk : ∀ j, j < 4 → (W.setCell ⟨g, o, none⟩ u).cell? ⟨g', i + j, none⟩ = W.cell? ⟨g', i + j, none⟩ := fun j hj => World.cell?_setCell_other _ _ _ _ (fun e => by rw [Addr.mk.injEq] at e; omega)
  exact ⟨v, (hk 0 (by decide)).trans c0, (hk 1 (by decide)).trans c1, (hk 2 (by decide)).trans c2, (hk 3 (by decide)).trans c3, c4, c5.mono way_other⟩
theorem piece_put {c : Nat → Prop} {w : World} {g : Nat} {u : Value} {W : World} {i : Nat} {x : PieceD} (h : PieceIn (Ap c w g) W g i x) (hu : IsSl (Blk (Ap c w g) WayAt) 4 W u x.ways) : PieceIn (Ap c w g) (W.setCell ⟨g, i + 3, none⟩ u) g i x := by
  obtain ⟨v, c0, c1, c2, c3, c4, c5⟩ := h
  have hk : ∀ j, j < 3 → (W.setCell ⟨g, i + 3, none⟩ u).cell? ⟨g, i + j, none⟩ = W.cell? ⟨g, i + j, none⟩ := fun j hj => World.cell?_setCell_other _ _ _ _ (fun e => by rw [Addr.mk.injEq] at e; omega)
  exact ⟨u, (hk 0 (by decide)).trans c0, (hk 1 (by decide)).trans c1, (hk 2 (by decide)).trans c2, World.cell?_setCell_same _ _ _ c3, hu.one, hu.mono way_other⟩
theorem CInv.put {c : Nat → Prop} {r : RulesD} {w : World} {g cap n : Nat} {vs ve : Value} {W : World} (h : CInv c r w g cap n vs ve W) (hg : w.heap.size + 2 ≤ g) {k : Nat} {x : PieceD} (hx : r.pieces[k]? = some x) {u : Value} (hu : IsSl (Blk (Ap c w g) WayAt) 4 W u x.ways) : CInv c r w g cap n vs ve (W.setCell ⟨g, k * 4 + 3, none⟩ u) := by
  obtain ⟨h1, h2, ⟨news, h3⟩, h4, h5⟩ := h
  refine ⟨h1.other (by simp; omega) _, h2.other (by simp; omega) _, ⟨_, (h3.stored _ _).1⟩, fun i y hy => ?_, h5.setCell (by simp; omega) _⟩
  by_cases hik : i = k
  · subst hik
    rw [hx] at hy
    obtain rfl := Option.some.inj hy
    exact piece_put (h4 _ _ hx) hu
  · exact piece_other (h4 i y hy) (by omega)
theorem CInv.atk {c : Nat → Prop} {r : RulesD} {w : World} {g cap n : Nat} {vs ve : Value} {W : World} (h : CInv c r w g cap n vs ve W) {k : Nat} {x : PieceD} (hx : r.pieces[k]? = some x) : ∃ u, W.cell? ⟨g, k * 4 + 3, none⟩ = some u ∧ W.frozen? ⟨g, k * 4 + 3, none⟩ = false := by
  obtain ⟨h1, h2, ⟨news, h3⟩, h4, h5⟩ := h
  obtain ⟨v, _, _, _, c3, _⟩ := h4 k x hx
  exact ⟨v, c3, h3.frozenAt _⟩
set_option maxRecDepth 100000 in
set_option maxHeartbeats 4000000 in
theorem cloneR_any (c : Nat → Prop) (r : RulesD) (vp vs ve : Value) (w : World) (hc : ∀ k, w.heap.size ≤ k → c k) (hp : IsSl (PieceIn c) 4 w vp r.pieces) (hr : RulesIn w r vp vs ve) (hf : Fits r) :
    Calls Tryz.prog 85 #[RulesV r vp vs ve] w (CloneR c r w) := by
  have HCK : Hid _ := Lib.hid hc
  have HPP : Hid _ := Lib.hid hp
  obtain ⟨n, hnn⟩ : ∃ n : Nat, n = r.pieces.length := ⟨_, rfl⟩
  have HR : Hid _ := Lib.hid hr
  have HF : Hid _ := Lib.hid hf
  have HN : Hid _ := Lib.hid hnn
  obtain ⟨ap, cp, rfl, _, _⟩ := hr.1.1.shape hnn
  obtain ⟨sa, cs, rfl, _, _⟩ := hr.1.2.1.shape (n := r.start.length) rfl
  obtain ⟨ea, ce, rfl, _, _⟩ := hr.1.2.2.shape (n := r.ends.length) rfl
  have hn100 : n ≤ 100 := by rw [hnn]; exact hf.1.2
  unfold RulesV
  clear hnn hr hf hc hp
  go_enter Tryz.func85, Tryz.ntmps85
  go_wp2_with fail
  go_at_call 102
  have HB0 := Below.alloc (Below.alloc (Below.refl w.heap.size w) (Nat.le_refl _) (.cells (RulesCells r (.slice ap n cp) (.slice sa r.start.length cs) (.slice ea r.ends.length ce)) 26)) (by simp) (.cells (RulesCells zero0 (.slice none 0 0) (.slice none 0 0) (.slice none 0 0)) 26)
  have HX0 := RBox.alloc (RBox.new w 26 r (.slice ap n cp) (.slice sa r.start.length cs) (.slice ea r.ends.length ce)) (.cells (RulesCells zero0 (.slice none 0 0) (.slice none 0 0) (.slice none 0 0)) 26)
  have HZ0 := RBox.new (w.alloc (.cells (RulesCells r (.slice ap n cp) (.slice sa r.start.length cs) (.slice ea r.ends.length ce)) 26)) 26 zero0 (.slice none 0 0) (.slice none 0 0) (.slice none 0 0)
  refine (clone_pieces (pieceIn_moves (fun g => c g ∧ g < w.heap.size)) (pieceIn_celled _) r.pieces _ _ ((HPP.out.mono fun g o x h => h.here).below (pieceIn_keeps _) HB0 (Nat.le_refl _)) HF.out.1.2).mono ?_
  rintro e w1 ⟨vp, rfl, ⟨news, hown⟩, hsl, hb⟩
  obtain ⟨g, cap, rfl⟩ := Joins.ownsRow_form hown HF.out.1.1
  have hg := (hown.lt g rfl).1
  simp only [World.size_alloc] at hg hb HZ0 hown
  have HB1 : Hid (Below w.heap.size w w1) := Lib.hid (HB0.trans (hb.mono (by omega)))
  have HX1 := HX0.below hb (by omega)
  have HZ1 : Hid _ := Lib.hid (HZ0.below hb (by omega))
  have HP1 : Hid (∀ i x, r.pieces[i]? = some x → PieceIn (Ap c w g) w1 g (i * 4) x) := Lib.hid (by
    rcases hsl with ⟨h0, _⟩ | ⟨g', off, cap', e1, e2, e3, e4, hc⟩
    · intro i x hx; rw [h0] at hx; simp at hx
    · simp only [Value.slice.injEq, Option.some.injEq, Addr.mk.injEq, and_true, true_and] at e1
      obtain ⟨⟨rfl, rfl⟩, _⟩ := e1
      intro i x hx
      obtain ⟨v, c0, c1, c2, c3, c4, c5⟩ := hc i x hx
      rw [Nat.zero_add] at c0 c1 c2 c3
      exact ⟨v, c0, c1, c2, c3, c4, c5.mono fun g2 o x h => ⟨⟨by have := h.1.2; omega, by have := h.1.2; omega, by have := h.1.2; omega, h.1.1⟩, h.2⟩⟩)
  rw [← HN.out] at hown ⊢
  have HO1 : Hid _ := Lib.hid hown
  have hncap : n ≤ cap := own_cap hown
  have HF1 := HX1.facts
  unfold RFacts BoxR at HF1
  clear hsl hown hb HB0 HX0 HZ0
  obtain ⟨⟨b0, b1, b2, b3, b4, b5, b6, b7, b8, b9, b10⟩, f0, f1, f2, f3, f4, f5, f6, f7, f8, f9, f10⟩ := HF1
  have hgl : w.heap.size + 2 ≤ g := by omega
  have hx1 := HX1.set3 (.slice (some ⟨g, 0, none⟩) n cap)
  have HX2 : Hid _ := Lib.hid hx1
  clear hx1 HX1 hg
  go_wp2_with fail
  have HI : Hid (CInv c r w g cap n (.slice sa r.start.length cs) (.slice ea r.ends.length ce) (w1.setCell ⟨w.heap.size, 3, none⟩ (.slice (some ⟨g, 0, none⟩) n cap))) := Lib.hid (by
    refine ⟨HX2.out, HZ1.out.other (by simp) _, ⟨news, ownsRow_setCell_below HO1.out (by simp; omega) _⟩, fun i x hx => ?_, HB1.out.setCell (Nat.le_refl _) _⟩
    exact ((Stays.of (Below.refl _ w1)).set (b := fun k => k ≠ w.heap.size ∧ k ≠ w.heap.size + 1) (a := ⟨w.heap.size, 3, none⟩) (by simp) _).piece (fun k hk => ⟨hk.2.1, hk.2.2.1⟩) (by omega) (HP1.out i x hx))
  clear HX2 HZ1 HP1 HO1 HB1
  clear b0 b1 b2 b3 b4 b5 b6 b7 b8 b9 b10 f0 f1 f2 f3 f4 f5 f6 f7 f8 f9 f10
  go_loopw [3, 4, 12] (fun _ _ i wr => ∃ k : Nat, k ≤ n ∧ i = .int .i64 (k : Int) ∧ Hid (CInv c r w g cap n (.slice sa r.start.length cs) (.slice ea r.ends.length ce) wr)) (fun _ _ i _ => n - (intOf i).toNat)
  case atStart => exact ⟨0, by omega, rfl, HI⟩
  case round =>
    clear HI
    obtain ⟨k, hk, rfl, hinv⟩ := hrel
    by_cases hlt : k < n
    · obtain ⟨x, hx⟩ : ∃ x, r.pieces[k]? = some x := ⟨_, List.getElem?_eq_getElem (by rw [← HN.out]; exact hlt)⟩
      obtain ⟨u, c0, c1, c2, c3, c4, c5⟩ := hinv.out.2.2.2.1 k x hx
      obtain ⟨m, hm⟩ : ∃ m : Nat, m = x.ways.length := ⟨_, rfl⟩
      have HM : Hid _ := Lib.hid hm
      obtain ⟨au, cu, rfl, _, _⟩ := c5.shape hm
      have HU : Hid _ := Lib.hid c5
      have HXK : Hid _ := Lib.hid hx
      have HF1 := hinv.out.1.facts
      unfold RFacts BoxR at HF1
      clear c5 c4 hx hm
      obtain ⟨⟨b0, b1, b2, b3, b4, b5, b6, b7, b8, b9, b10⟩, f0, f1, f2, f3, f4, f5, f6, f7, f8, f9, f10⟩ := HF1
      have hkc : k ≤ cap := by omega
      go_wp2_with fail
      have HCN := cells4_new wr (.int .u8 x.letter) (.int .i64 x.hand) (.int .i64 x.promote) (.slice au m cu) 60 _ (Below.refl _ _)
      have HBW := (Below.refl wr.heap.size wr).alloc (Nat.le_refl _) (.cells #[.int .u8 x.letter, .int .i64 x.hand, .int .i64 x.promote, .slice au m cu] 60)
      have HSZ : (wr.alloc (.cells #[.int .u8 x.letter, .int .i64 x.hand, .int .i64 x.promote, .slice au m cu] 60)).heap.size = wr.heap.size + 1 := by simp
      have hbw : w.heap.size < wr.heap.size := World.block_lt_of_cell? _ _ b3
      have e3 := cell_keeps HBW (Nat.le_refl _) b3
      have HINV : Hid (CInv c r w g cap n (.slice sa r.start.length cs) (.slice ea r.ends.length ce) (wr.alloc (.cells #[.int .u8 x.letter, .int .i64 x.hand, .int .i64 x.promote, .slice au m cu] 60))) := Lib.hid (by
        obtain ⟨h1, h2, ⟨news, h3⟩, h4, h5⟩ := hinv.out
        exact ⟨h1.alloc _, h2.alloc _, ⟨news, h3.alloc _⟩, fun i y hy => pieceIn_keeps _ _ _ _ _ _ _ HBW (Nat.le_refl _) (h4 i y hy), h5.trans (HBW.mono h5.size)⟩)
      have hgr : g < wr.heap.size := by
        obtain ⟨_, _, ⟨news, h3⟩, _⟩ := hinv.out
        exact (h3.lt g rfl).2
      have HU2 : Hid _ := Lib.hid (HU.out.below (Blk.keeps way_keeps) HBW (Nat.le_refl _))
      clear b0 b1 b2 b3 b4 b5 b6 b7 b8 b9 b10 f0 f1 f2 f3 f4 f5 f6 f7 f8 f9 f10 c0 c1 c2 c3 HBW HU hinv
      generalize wr.alloc (.cells #[.int .u8 x.letter, .int .i64 x.hand, .int .i64 x.promote, .slice au m cu] 60) = W at HCN HSZ e3 HINV HU2 ⊢
      obtain ⟨d0, d1, d2, d3⟩ := HCN
      have hgW : g < W.heap.size := by
        obtain ⟨_, _, ⟨news, h3⟩, _⟩ := HINV.out
        exact (h3.lt g rfl).2
      have HCL : Hid _ := Lib.hid (clone_ways way_moves way_celled x.ways (.slice au m cu) W.drew (HU2.out.mono fun _ _ _ h => h.2) (HF.out.2.2.2 x (List.mem_of_getElem? HXK.out)))
      clear d0 d1 d2 HSZ
      have n1 : ∀ (V : World) (o i : Nat) (z : Value), (V.setCell ⟨g, o, none⟩ z).cell? ⟨w.heap.size, i, none⟩ = V.cell? ⟨w.heap.size, i, none⟩ := fun V o i z => World.cell?_setCell_other _ _ _ _ (fun e => by rw [Addr.mk.injEq] at e; omega)
      have n2 : ∀ (V : World) (o i : Nat) (z : Value), (V.setCell ⟨g, o, none⟩ z).cell? ⟨wr.heap.size, i, none⟩ = V.cell? ⟨wr.heap.size, i, none⟩ := fun V o i z => World.cell?_setCell_other _ _ _ _ (fun e => by rw [Addr.mk.injEq] at e; omega)
      go_region_held3 (fun w' => w'.cell? ⟨w.heap.size, 3, none⟩ = some (.slice (some ⟨g, 0, none⟩) n cap) ∧ w'.cell? ⟨wr.heap.size, 3, none⟩ = some (.slice au m cu)) (go_keep)
        (first | (go_at_call 103; refine HCL.out.mono ?_; rintro e w2 ⟨v2, rfl, ⟨news2, hown2⟩, hsl2, hb2⟩; have s1 := cell_keeps hb2 (Nat.le_refl _) e3; have s2 := cell_keeps hb2 (Nat.le_refl _) d3; have HI2 := Lib.hid (HINV.out.below (W' := w2) (show Below W.heap.size W w2 from ⟨hb2.os, hb2.tape, hb2.output, hb2.size, hb2.block⟩)); obtain ⟨u0, hu0, hf0⟩ := HI2.out.atk HXK.out; obtain ⟨a2, cap2, rfl, _, _⟩ := hsl2.shape HM.out; have HS2 := Lib.hid hsl2; have HO2 := Lib.hid hown2; have HB2 := Lib.hid hb2; clear hsl2 hown2 hb2))
      have HSB : IsSl (Blk (Ap c w g) WayAt) 4 w2 (.slice a2 m cap2) x.ways := by
        rcases HS2.out with h | ⟨g2, off2, cap3, e1, e2, e4, e5, hc⟩
        · exact .inl h
        · have hg2 := (HO2.out.lt g2 (by rw [e1]; rfl)).1
          have hg3 : W.heap.size ≤ g2 := hg2
          exact .inr ⟨g2, off2, cap3, e1, e2, e4, e5, fun i y hy => ⟨⟨by omega, by omega, by omega, HCK.out g2 (by omega)⟩, hc i y hy⟩⟩
      have HN2 := Lib.hid (HI2.out.put hgl HXK.out HSB)
      clear HSB HI2 HO2 HS2 HB2 s1 s2 hu0 hf0 n1 n2 e3 HCL hgW hgr hbw HINV HU2
      go_wp2_with fail
      go_roundw
      case rel => exact ⟨k + 1, by omega, by go_num, HN2⟩
      case measure => simp [intOf]; omega
    · obtain rfl : n = k := by omega
      have HF1 := hinv.out.1.facts
      unfold RFacts BoxR at HF1
      obtain ⟨⟨b0, b1, b2, b3, b4, b5, b6, b7, b8, b9, b10⟩, f0, f1, f2, f3, f4, f5, f6, f7, f8, f9, f10⟩ := HF1
      go_wp2_with fail
      go_at_call 49
      refine (clone_start int_moves int_celled r.start _ _ (HR.out.1.2.1.below int_keeps hinv.out.2.2.2.2 (Nat.le_refl _)) HF.out.2.1.2).mono ?_
      rintro e w3 ⟨v3, rfl, ⟨news3, hown3⟩, hsl3, hb3⟩
      have HX3 := hinv.out.1.below hb3 (Array.getElem?_eq_some_iff.1 hinv.out.1).1
      have HX3F := HX3.facts
      obtain ⟨gs, cs3, rfl⟩ := Joins.ownsRow_form hown3 HF.out.2.1.1
      obtain rfl := own_ints hown3 hsl3 rfl
      have HXH := Lib.hid HX3
      have HO3 := Lib.hid hown3
      have HS3 := Lib.hid hsl3
      have HB3 := Lib.hid hb3
      clear HX3 hown3 hsl3 hb3 b0 b1 b2 b3 b4 b5 b6 b7 b8 b9 b10 f0 f1 f2 f3 f4 f5 f6 f7 f8 f9 f10
      unfold RFacts BoxR at HX3F
      obtain ⟨⟨b0, b1, b2, b3, b4, b5, b6, b7, b8, b9, b10⟩, f0, f1, f2, f3, f4, f5, f6, f7, f8, f9, f10⟩ := HX3F
      go_wp2_with fail
      go_at_call 104
      have hbw : w.heap.size < wr.heap.size := (Array.getElem?_eq_some_iff.1 hinv.out.1).1
      have hbw2 : w.heap.size + 1 < wr.heap.size := (Array.getElem?_eq_some_iff.1 hinv.out.2.1).1
      have hb4 : Below w.heap.size w (w3.setCell ⟨w.heap.size, 4, none⟩ (.slice (some ⟨gs, 0, none⟩) r.start.length cs3)) := (hinv.out.2.2.2.2.trans (HB3.out.mono hinv.out.2.2.2.2.size)).setCell (Nat.le_refl _) _
      have hx4 := HXH.out.set4 (.slice (some ⟨gs, 0, none⟩) r.start.length cs3)
      have hz4 := (hinv.out.2.1.below HB3.out hbw2).other (a := ⟨w.heap.size, 4, none⟩) (by simp) (.slice (some ⟨gs, 0, none⟩) r.start.length cs3)
      have ho4 := ownsRow_setCell_below HO3.out (a := ⟨w.heap.size, 4, none⟩) hbw (.slice (some ⟨gs, 0, none⟩) r.start.length cs3)
      have hs4 : Stays (fun k => k ≠ w.heap.size ∧ k ≠ w.heap.size + 1) wr (w3.setCell ⟨w.heap.size, 4, none⟩ (.slice (some ⟨gs, 0, none⟩) r.start.length cs3)) := (Stays.of HB3.out).set (by simp) _
      refine (clone_ends end_moves end_celled r.ends _ _ (HR.out.1.2.2.below end_keeps hb4 (Nat.le_refl _)) HF.out.2.2.1).mono ?_
      generalize w3.setCell ⟨w.heap.size, 4, none⟩ (.slice (some ⟨gs, 0, none⟩) r.start.length cs3) = w4 at hb4 hx4 hz4 ho4 hs4 ⊢
      rintro e w6 ⟨v6, rfl, ⟨news6, hown6⟩, hsl6, hb6⟩
      have hl1 := (Array.getElem?_eq_some_iff.1 hx4).1
      have hl2 := (Array.getElem?_eq_some_iff.1 hz4).1
      have HX6 := hx4.below hb6 hl1
      have HZ6 := hz4.below hb6 hl2
      have HO6 := Lib.hid (own_below ho4 hb6)
      have HB6 := Lib.hid (hb4.trans (hb6.mono hb4.size))
      have HS6 := Lib.hid (hs4.trans (Stays.of hb6))
      have HW4 := Lib.hid hs4.2
      have HG4 := Lib.hid (ho4.lt gs rfl)
      obtain ⟨ae, ce6, rfl, _, _⟩ := hsl6.shape rfl
      have HE6 := Lib.hid hown6
      have HL6 := Lib.hid hsl6
      have HX6F := HX6.facts
      have HZ6F := HZ6.facts
      have HXX := Lib.hid HX6
      have HZZ := Lib.hid HZ6
      clear hb4 hx4 hz4 ho4 hs4 hown6 hsl6 hb6 HX6 HZ6 hl1 hl2 b0 b1 b2 b3 b4 b5 b6 b7 b8 b9 b10 f0 f1 f2 f3 f4 f5 f6 f7 f8 f9 f10 HB3 HO3 HXH
      unfold RFacts BoxR at HX6F HZ6F
      obtain ⟨⟨b0, b1, b2, b3, b4, b5, b6, b7, b8, b9, b10⟩, f0, f1, f2, f3, f4, f5, f6, f7, f8, f9, f10⟩ := HX6F
      obtain ⟨⟨z0, z1, z2, z3, z4, z5, z6, z7, z8, z9, z10⟩, y0, y1, y2, y3, y4, y5, y6, y7, y8, y9, y10⟩ := HZ6F
      go_wp2_with fail
      have HF1 := HXX.out.set7 (.slice ae r.ends.length ce6)
      have HZ1 := HZZ.out.other (a := ⟨w.heap.size, 7, none⟩) (by simp) (.slice ae r.ends.length ce6)
      have HR2 := rbox_fill (r := r) (vp := .slice (some ⟨g, 0, none⟩) n cap) (vs := .slice (some ⟨gs, 0, none⟩) r.start.length cs3) (ve := .slice ae r.ends.length ce6) HZ1
      have HRF := HR2.facts
      have hbl := fill_below (HB6.out.setCell (p := ⟨w.heap.size, 7, none⟩) (Nat.le_refl _) (.slice ae r.ends.length ce6)) (b := w.heap.size + 1) (by omega) r (.slice (some ⟨g, 0, none⟩) n cap) (.slice (some ⟨gs, 0, none⟩) r.start.length cs3) (.slice ae r.ends.length ce6)
      have hfo := fill_other (w6.setCell ⟨w.heap.size, 7, none⟩ (.slice ae r.ends.length ce6)) (w.heap.size + 1) r (.slice (some ⟨g, 0, none⟩) n cap) (.slice (some ⟨gs, 0, none⟩) r.start.length cs3) (.slice ae r.ends.length ce6)
      unfold fill11 at HR2 HRF hbl hfo
      generalize ((((((((((((w6.setCell _ _).setCell _ _).setCell _ _).setCell _ _).setCell _ _).setCell _ _).setCell _ _).setCell _ _).setCell _ _).setCell _ _).setCell _ _).setCell _ _) = WF at HR2 HRF hbl hfo ⊢
      clear b0 b1 b2 b3 b4 b5 b6 b7 b8 b9 b10 f0 f1 f2 f3 f4 f5 f6 f7 f8 f9 f10 z0 z1 z2 z3 z4 z5 z6 z7 z8 z9 z10 y0 y1 y2 y3 y4 y5 y6 y7 y8 y9 y10 HF1 HZ1
      unfold RFacts BoxR at HRF
      obtain ⟨⟨b0, b1, b2, b3, b4, b5, b6, b7, b8, b9, b10⟩, f0, f1, f2, f3, f4, f5, f6, f7, f8, f9, f10⟩ := HRF
      have HBL := Lib.hid hbl
      have HFO := Lib.hid hfo
      clear hbl hfo
      refine bodyPost_ret (results_cell_row rfl _ _ (w.heap.size + 1) 26 _ (0, 0) _ rfl HR2 Tryz.underlying26 rfl (by kernel_rfl)) rfl ?_
      have hW4 : wr.heap.size ≤ w4.heap.size := HW4.out
      obtain ⟨hG4, hG5⟩ := HG4.out
      have hSF : Stays (fun k => k ≠ w.heap.size ∧ k ≠ w.heap.size + 1) wr WF := HS6.out.trans ⟨fun k _ hk => (HFO.out.1 k hk.2).trans (heap_setCell_other _ _ _ _ hk.1), by rw [HFO.out.2, World.size_setCell]; exact Nat.le_refl _⟩
      have hS6 : Stays (fun k => k ≠ w.heap.size ∧ k ≠ w.heap.size + 1) w6 WF := ⟨fun k _ hk => (HFO.out.1 k hk.2).trans (heap_setCell_other _ _ _ _ hk.1), by rw [HFO.out.2, World.size_setCell]; exact Nat.le_refl _⟩
      obtain ⟨_, _, ⟨news, h3⟩, h4, _⟩ := hinv.out
      have hgr : g < wr.heap.size := (h3.lt g rfl).2
      refine ⟨.slice (some ⟨g, 0, none⟩) n cap, gs, cs3, .slice ae r.ends.length ce6, rfl, ?_, ?_, ?_, HBL.out⟩
      · refine .inr ⟨g, 0, cap, by rw [HN.out], ?_, by rw [← HN.out]; exact hncap, own_max h3, fun i x hx => ⟨⟨by omega, HCK.out g (by omega)⟩, ?_⟩⟩
        · intro e; have := HF.out.1.1; rw [e] at this; simp at this
        · rw [Nat.zero_add]
          refine (hSF.piece (fun k hk => ⟨hk.1.2.1, hk.1.2.2.1⟩) (by omega) (h4 i x hx).here).weak (fun k hk => ⟨?_, hk.1.2.2.2⟩)
          have := hk.2; omega
      · rcases HL6.out with h | ⟨ge, oe, ce7, e1, e2, e4, e5, hc⟩
        · exact .inl h
        · have hge := (HE6.out.lt ge (by rw [e1]; rfl)).1
          exact .inr ⟨ge, oe, ce7, e1, e2, e4, e5, fun i y hy => hS6.endd (fun k hk => ⟨fun e => hk.2 (.inl e), fun e => hk.2 (.inr e)⟩) (c := fun k => (k ≠ gs ∧ c k) ∧ ¬ (k = w.heap.size ∨ k = w.heap.size + 1)) ⟨⟨⟨by omega, HCK.out ge (by omega)⟩, by omega⟩, hc i y hy⟩ |>.imp (fun h => h.1) id⟩
      · exact Joins.ownsRow_le (own_keep HO6.out ((HFO.out.1 gs (by omega)).trans (heap_setCell_other _ _ _ _ (by simp; omega)))) (by omega)
end Go.Proofs.YtdhhdkbnlddnbaaGreatDoor

namespace Go.Proofs.YtdhhdkbnlddnbaaGreatDoor
open Go.ChangeShapes Go.WideShapes Go.ChangeAt Go.RowKit

def exch (c : Int) : Int := if c = 0 then 0 else if c % 2 = 1 then c + 1 else c - 1
def mirSq (W H k : Nat) : Nat := k % W + (H - 1 - k / W) * W
/-- The cells after an exchange, of which those that come from a square below k are there, and the old ones else. -/
def mirTo (W H : Nat) (st : List Int) (k : Nat) : List Int := (List.range (W * H)).map fun p => if mirSq W H p < k then exch (st[mirSq W H p]?.getD 0) else st[p]?.getD 0
def mirL (W H : Nat) (st : List Int) : List Int := mirTo W H st (W * H)
def mirD (r : RulesD) : RulesD := { r with start := mirL r.width.toNat r.height.toNat r.start }
theorem exch_fits {c n : Int} (h : inB c 0 (2 * n) = true) : inB (exch c) 0 (2 * n) = true := by
  rw [inB_iff] at h ⊢
  unfold exch
  split
  · omega
  · split <;> omega
theorem exch_exch {c : Int} (h : 0 ≤ c) : exch (exch c) = c := by
  unfold exch
  by_cases h1 : c = 0
  · simp [h1]
  · rw [if_neg h1]
    by_cases h2 : c % 2 = 1
    · rw [if_pos h2, if_neg (by omega), if_neg (by omega)]; omega
    · rw [if_neg h2, if_neg (by omega), if_pos (by omega)]; omega
theorem mir_mod {W H : Nat} (k : Nat) : mirSq W H k % W = k % W := by
  rw [mirSq, Nat.add_mul_mod_self_right, Nat.mod_mod]
theorem mir_div {W H : Nat} (hW : 0 < W) (k : Nat) : mirSq W H k / W = H - 1 - k / W := by
  rw [mirSq, Nat.add_mul_div_right _ _ hW, Nat.div_eq_of_lt (Nat.mod_lt _ hW), Nat.zero_add]
theorem row_lt {W H k : Nat} (hk : k < W * H) : k / W < H := Nat.div_lt_of_lt_mul hk
theorem mir_lt {W H k : Nat} (hW : 0 < W) (hk : k < W * H) : mirSq W H k < W * H := by
  have h1 := row_lt hk
  have h2 := Nat.mod_lt k hW
  rw [mirSq, Nat.mul_comm W H]
  generalize k / W = y at h1 ⊢
  have h3 : (H - 1 - y + 1) * W ≤ H * W := Nat.mul_le_mul_right W (by omega)
  rw [Nat.add_mul, Nat.one_mul] at h3
  omega
theorem mir_mir {W H k : Nat} (hW : 0 < W) (hk : k < W * H) : mirSq W H (mirSq W H k) = k := by
  have h1 := row_lt hk
  have h2 : H - 1 - (H - 1 - k / W) = k / W := by
    generalize k / W = y at h1 ⊢
    omega
  rw [mirSq, mir_mod, mir_div hW, h2, Nat.mul_comm]
  exact Nat.mod_add_div k W
theorem mirTo_length (W H : Nat) (st : List Int) (k : Nat) : (mirTo W H st k).length = W * H := by simp [mirTo]
theorem mirTo_zero {W H : Nat} {st : List Int} (h : st.length = W * H) : mirTo W H st 0 = st := by
  apply List.ext_getElem
  · simp [mirTo, h]
  · intro i h1 h2; simp [mirTo, h2]
theorem mirTo_set {W H : Nat} (hW : 0 < W) {st : List Int} {k : Nat} (hk : k < W * H) :
    ((mirTo W H st k).map (Value.int .i64)).set (mirSq W H k) (.int .i64 (exch (st[k]?.getD 0))) = (mirTo W H st (k + 1)).map (Value.int .i64) := by
  apply List.ext_getElem
  · simp [mirTo]
  · intro p h1 h2
    have hp : p < W * H := by simpa [mirTo] using h2
    rw [List.getElem_set]
    by_cases e : mirSq W H k = p
    · subst e
      rw [if_pos rfl]
      simp [mirTo, mir_mir hW hk]
    · rw [if_neg e]
      have h3 : mirSq W H p ≠ k := fun h => e (by rw [← h]; exact mir_mir hW hp)
      simp only [mirTo, List.getElem_map, List.getElem_range]
      by_cases h4 : mirSq W H p < k
      · rw [if_pos h4, if_pos (by omega)]
      · rw [if_neg h4, if_neg (by omega)]
theorem mirL_at {W H : Nat} (hW : 0 < W) (st : List Int) {p : Nat} (hp : p < W * H) : (mirL W H st)[p]?.getD 0 = exch (st[mirSq W H p]?.getD 0) := by
  have h := mir_lt hW hp
  simp [mirL, mirTo, hp, h]
theorem mirL_mirL {W H : Nat} (hW : 0 < W) {st : List Int} (h : st.length = W * H) (hc : ∀ c ∈ st, 0 ≤ c) : mirL W H (mirL W H st) = st := by
  apply List.ext_getElem?
  intro p
  by_cases hp : p < W * H
  · have h1 := mirL_at hW (mirL W H st) hp
    rw [mirL_at hW st (mir_lt hW hp), mir_mir hW hp, exch_exch (by
      have hl : p < st.length := by omega
      rw [List.getElem?_eq_getElem hl]
      exact hc _ (List.getElem_mem hl))] at h1
    have hl : p < (mirL W H (mirL W H st)).length := by rw [mirL, mirTo_length]; exact hp
    have hl2 : p < st.length := by omega
    rw [List.getElem?_eq_getElem hl, List.getElem?_eq_getElem hl2] at h1 ⊢
    rw [show (mirL W H (mirL W H st))[p] = st[p] from h1]
  · rw [List.getElem?_eq_none (by rw [mirL, mirTo_length]; omega), List.getElem?_eq_none (by omega)]
/-- What rules that stand are. -/
theorem ok_nats {r : RulesD} (hz : rulesE r = 0) : ∃ W H : Nat, r.width = W ∧ r.height = H ∧ 1 ≤ W ∧ W ≤ 8 ∧ 1 ≤ H ∧ H ≤ 8 ∧ r.start.length = W * H ∧ (∀ c ∈ r.start, inB c 0 (2 * r.pieces.length) = true) := by
  obtain ⟨_, k2, k3, _, k5, _, _⟩ := rulesE_ok hz
  obtain ⟨h1, h2⟩ := startE_ok k5
  rw [inB_iff] at k2 k3
  refine ⟨r.width.toNat, r.height.toNat, by omega, by omega, by omega, by omega, by omega, by omega, ?_, fun c hc => List.all_eq_true.1 h2 c hc⟩
  have : ((r.start.length : Nat) : Int) = ((r.width.toNat * r.height.toNat : Nat) : Int) := by
    rw [h1, Int.natCast_mul, Int.toNat_of_nonneg (by omega), Int.toNat_of_nonneg (by omega)]
  exact_mod_cast this
theorem mirD_E {r : RulesD} (hz : rulesE r = 0) : rulesE (mirD r) = 0 := by
  obtain ⟨k1, k2, k3, k4, k5, k6, k7⟩ := rulesE_ok hz
  obtain ⟨W, H, hw, hh, w1, w2, h1, h2, hl, hc⟩ := ok_nats hz
  have hs : startE (mirD r) = 0 := by
    unfold startE
    rw [if_neg]
    · rw [if_pos]
      rw [List.all_eq_true]
      intro c hm
      obtain ⟨p, hp⟩ := List.getElem?_of_mem hm
      have hp1 := (List.getElem?_eq_some_iff.1 hp).1
      have hp2 : p < W * H := by rw [mirD, hw, hh] at hp1; simpa [mirL, mirTo] using hp1
      have h3 := mirL_at (W := W) (H := H) w1 r.start hp2
      have hp3 : (mirL W H r.start)[p]? = some c := by rw [mirD, hw, hh] at hp; simpa using hp
      rw [hp3] at h3
      have h4 : c = exch (r.start[mirSq W H p]?.getD 0) := h3
      have hl2 : mirSq W H p < r.start.length := by rw [hl]; exact mir_lt w1 hp2
      rw [List.getElem?_eq_getElem hl2] at h4
      rw [h4]
      exact exch_fits (hc _ (List.getElem_mem hl2))
    · show ¬ (((mirL r.width.toNat r.height.toNat r.start).length : Int) ≠ r.width * r.height)
      rw [hw, hh, mirL, mirTo_length]
      simp
  unfold rulesE
  rw [show (mirD r).name = r.name from rfl, show (mirD r).width = r.width from rfl, show (mirD r).height = r.height from rfl, show (mirD r).pieces = r.pieces from rfl, show endsE (mirD r) = endsE r from rfl, show otherE (mirD r) = otherE r from rfl, hs, k1, k2, k3, k4, k6, k7]
  rfl
theorem mirD_mirD {r : RulesD} (hz : rulesE r = 0) : mirD (mirD r) = r := by
  obtain ⟨W, H, hw, hh, w1, w2, h1, h2, hl, hc⟩ := ok_nats hz
  have : mirL r.width.toNat r.height.toNat (mirL r.width.toNat r.height.toNat r.start) = r.start := by
    rw [hw, hh, Int.toNat_natCast, Int.toNat_natCast]
    exact mirL_mirL w1 hl (fun c hm => (inB_iff.1 (hc c hm)).1)
  show { r with start := mirL r.width.toNat r.height.toNat (mirL r.width.toNat r.height.toNat r.start) } = r
  rw [this]
theorem piecesGo_all {ps : List PieceD} : ∀ (m k : Nat), piecesGo ps k m = 0 → ∀ i x, k ≤ i → i < k + m → ps[i]? = some x → pieceE x (ps.take i) ps.length = 0
  | 0, k, _, i, x, h1, h2, _ => by omega
  | m + 1, k, h, i, x, h1, h2, hx => by
    by_cases hk : k < ps.length
    · have hxk : ps[k]? = some ps[k] := List.getElem?_eq_getElem hk
      by_cases hz : pieceE ps[k] (ps.take k) ps.length = 0
      · rw [piecesGo_step hxk hz] at h
        by_cases hik : i = k
        · subst hik
          rw [hxk] at hx
          obtain rfl := Option.some.inj hx
          exact hz
        · exact piecesGo_all m (k + 1) h i x (by omega) (by omega) hx
      · rw [piecesGo_stop hxk hz] at h
        exact absurd h hz
    · have := (List.getElem?_eq_some_iff.1 hx).1; omega
theorem piece_ok {r : RulesD} (hz : rulesE r = 0) {i : Nat} {x : PieceD} (hx : r.pieces[i]? = some x) : pieceE x (r.pieces.take i) r.pieces.length = 0 := by
  obtain ⟨_, _, _, k4, _, _, _⟩ := rulesE_ok hz
  obtain ⟨h1, h2⟩ := piecesE_ok k4
  unfold piecesE at k4
  rw [if_neg (fun e => h1 (List.eq_nil_of_length_eq_zero e)), if_neg (by omega)] at k4
  exact piecesGo_all _ 0 k4 i x (Nat.zero_le _) (by have := (List.getElem?_eq_some_iff.1 hx).1; omega) hx
theorem ways_ok {x : PieceD} {es : List PieceD} {n : Nat} (h : pieceE x es n = 0) : x.ways.length ≤ 16 := by
  unfold pieceE at h
  by_cases h1 : x.ways.length ≤ 16
  · exact h1
  · exfalso
    split at h
    · cases h
    · split at h
      · cases h
      · split at h
        · cases h
        · rw [if_pos (by omega)] at h; cases h
theorem fits_ok {r : RulesD} (hz : rulesE r = 0) : Fits r := by
  obtain ⟨_, _, _, k4, _, k6, _⟩ := rulesE_ok hz
  obtain ⟨h1, h2⟩ := piecesE_ok k4
  obtain ⟨W, H, _, _, w1, w2, e1, e2, hl, _⟩ := ok_nats hz
  have hwh : W * H ≤ 8 * 8 := Nat.mul_le_mul w2 e2
  have hwp : 0 < W * H := Nat.mul_pos (by omega) (by omega)
  refine ⟨⟨List.length_pos_iff.2 h1, by omega⟩, ⟨by omega, by omega⟩, ?_, fun x hx => ?_⟩
  · unfold endsE at k6
    split at k6
    · cases k6
    · omega
  · obtain ⟨i, hi⟩ := List.getElem?_of_mem hx
    have := ways_ok (piece_ok hz hi)
    omega
end Go.Proofs.YtdhhdkbnlddnbaaGreatDoor

