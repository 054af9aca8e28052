/- The rules of a game as data, what is wrong with them, and how they lie in memory. -/
import Derived.Test.YthbilpgecombiaaBase
namespace Go.Proofs.Ythbilpgecombiaa
open Go.RowKit

structure WayD where
  dx : Int
  dy : Int
  most : Int
  take : Int
structure PieceD where
  letter : Int
  hand : Int
  promote : Int
  ways : List WayD
structure EndD where
  kind : Int
  piece : Int
  count : Int
  loses : Bool
structure RulesD where
  name : ByteArray
  width : Int
  height : Int
  pieces : List PieceD
  start : List Int
  falls : Bool
  keeps : Bool
  ends : List EndD
  blocked : Int
  quiet : Int
  rep : Int

/-! ### In memory -/
/-- A slice value that leads to elements of k cells each. -/
def IsSl {α : Type} (q : World → Nat → Nat → α → Prop) (k : Nat) (W : World) (v : Value) (xs : List α) : Prop :=
  (xs = [] ∧ ∃ a cap, v = .slice a 0 cap) ∨
  ∃ g off cap, v = .slice (some ⟨g, off, none⟩) xs.length cap ∧ xs ≠ [] ∧ xs.length ≤ cap ∧ cap ≤ maxLen ∧ ∀ i x, xs[i]? = some x → q W g (off + i * k) x
def IntAt (W : World) (g o : Nat) (x : Int) : Prop := W.cell? ⟨g, o, none⟩ = some (.int .i64 x)
def WayAt (W : World) (g o : Nat) (x : WayD) : Prop :=
  W.cell? ⟨g, o, none⟩ = some (.int .i64 x.dx) ∧ W.cell? ⟨g, o + 1, none⟩ = some (.int .i64 x.dy) ∧ W.cell? ⟨g, o + 2, none⟩ = some (.int .i64 x.most) ∧ W.cell? ⟨g, o + 3, none⟩ = some (.int .i64 x.take)
def EndAt (W : World) (g o : Nat) (x : EndD) : Prop :=
  W.cell? ⟨g, o, none⟩ = some (.int .i64 x.kind) ∧ W.cell? ⟨g, o + 1, none⟩ = some (.int .i64 x.piece) ∧ W.cell? ⟨g, o + 2, none⟩ = some (.int .i64 x.count) ∧ W.cell? ⟨g, o + 3, none⟩ = some (.bool x.loses)
def PieceAt (W : World) (g o : Nat) (x : PieceD) : Prop :=
  ∃ v, W.cell? ⟨g, o, none⟩ = some (.int .u8 x.letter) ∧ W.cell? ⟨g, o + 1, none⟩ = some (.int .i64 x.hand) ∧ W.cell? ⟨g, o + 2, none⟩ = some (.int .i64 x.promote) ∧ W.cell? ⟨g, o + 3, none⟩ = some v ∧ IsSl WayAt 4 W v x.ways
/-- What a slice of structs keeps where nothing below a block's number has turned. -/
def Keeps {α : Type} (q : World → Nat → Nat → α → Prop) : Prop := ∀ W W' n g o x, Below n W W' → W.heap.size ≤ n → q W g o x → q W' g o x
theorem cell_keeps {W W' : World} {n : Nat} {a : Addr} {v : Value} (hb : Below n W W') (hn : W.heap.size ≤ n) (h : W.cell? a = some v) : W'.cell? a = some v := by
  have h2 := World.block_lt_of_cell? _ _ h
  exact (hb.cell (p := a) (by omega)).trans h
theorem IsSl.below {α : Type} {q : World → Nat → Nat → α → Prop} (hq : Keeps q) {k : Nat} {W W' : World} {v : Value} {xs : List α} (h : IsSl q k W v xs) {n : Nat} (hb : Below n W W') (hn : W.heap.size ≤ n) : IsSl q k W' v xs := by
  rcases h with h | ⟨g, off, cap, e1, e2, e3, e4, hc⟩
  · exact .inl h
  · exact .inr ⟨g, off, cap, e1, e2, e3, e4, fun i x hx => hq _ _ _ _ _ _ hb hn (hc i x hx)⟩
theorem int_keeps : Keeps IntAt := fun _ _ _ _ _ _ hb hn h => cell_keeps hb hn h
theorem way_keeps : Keeps WayAt := fun _ _ _ _ _ _ hb hn h => ⟨cell_keeps hb hn h.1, cell_keeps hb hn h.2.1, cell_keeps hb hn h.2.2.1, cell_keeps hb hn h.2.2.2⟩
theorem end_keeps : Keeps EndAt := fun _ _ _ _ _ _ hb hn h => ⟨cell_keeps hb hn h.1, cell_keeps hb hn h.2.1, cell_keeps hb hn h.2.2.1, cell_keeps hb hn h.2.2.2⟩
theorem piece_keeps : Keeps PieceAt := fun _ _ _ _ _ _ hb hn ⟨v, h0, h1, h2, h3, h4⟩ => ⟨v, cell_keeps hb hn h0, cell_keeps hb hn h1, cell_keeps hb hn h2, cell_keeps hb hn h3, h4.below way_keeps hb hn⟩
theorem IsSl.shape {α : Type} {q : World → Nat → Nat → α → Prop} {k : Nat} {W : World} {v : Value} {xs : List α} (h : IsSl q k W v xs) {n : Nat} (hn : n = xs.length) : ∃ a cap, v = .slice a n cap ∧ n ≤ cap ∧ ∀ j, j < n → ∃ g off x, a = some ⟨g, off, none⟩ ∧ xs[j]? = some x ∧ q W g (off + j * k) x := by
  subst hn
  rcases h with ⟨rfl, a, cap, rfl⟩ | ⟨g, off, cap, rfl, _, h3, _, hc⟩
  · exact ⟨a, cap, rfl, Nat.zero_le _, fun j hj => by simp at hj⟩
  · refine ⟨_, cap, rfl, h3, fun j hj => ⟨g, off, xs[j], rfl, by simp [hj], hc j _ (by simp [hj])⟩⟩
/-- The value of rules: what a struct's fields hold. -/
def RulesV (r : RulesD) (vp vs ve : Value) : Value :=
  .agg #[.string r.name, .int .i64 r.width, .int .i64 r.height, vp, vs, .bool r.falls, .bool r.keeps, ve, .int .i64 r.blocked, .int .i64 r.quiet, .int .i64 r.rep]
def IsRules (W : World) (r : RulesD) (vp vs ve : Value) : Prop := IsSl PieceAt 4 W vp r.pieces ∧ IsSl IntAt 1 W vs r.start ∧ IsSl EndAt 4 W ve r.ends
theorem IsRules.below {W W' : World} {r : RulesD} {vp vs ve : Value} (h : IsRules W r vp vs ve) {n : Nat} (hb : Below n W W') (hn : W.heap.size ≤ n) : IsRules W' r vp vs ve :=
  ⟨h.1.below piece_keeps hb hn, h.2.1.below int_keeps hb hn, h.2.2.below end_keeps hb hn⟩

/-! ### What is wrong with them -/
def capB (c : Int) : Bool := inB c 65 90
def digB (c : Int) : Bool := inB c 48 57
/-- A name: a capital letter, then capital letters and digits, 8 at most. -/
def nb (l : List UInt8) (k : Nat) : Int := ((l[k]?.getD 0).toNat : Int)
def nameB (l : List UInt8) : Bool := inB l.length 1 8 && (capB (nb l 0) && (List.range l.length).all fun k => capB (nb l k) || digB (nb l k))
theorem nameB_size {l : List UInt8} (h : inB l.length 1 8 = false) : nameB l = false := by simp [nameB, h]
theorem nameB_first {l : List UInt8} (h : capB (nb l 0) = false) : nameB l = false := by simp [nameB, h]
theorem nameB_bad {l : List UInt8} {k : Nat} (hk : k < l.length) (h : capB (nb l k) = false) (h2 : digB (nb l k) = false) : nameB l = false := by
  have : ((List.range l.length).all fun k => capB (nb l k) || digB (nb l k)) = false := by
    rw [Bool.eq_false_iff]; intro h3
    rw [List.all_eq_true] at h3
    have := h3 k (by simpa using hk)
    simp [h, h2] at this
  simp [nameB, this]
theorem nameB_good {l : List UInt8} (h : inB l.length 1 8 = true) (h0 : capB (nb l 0) = true) (h1 : ∀ k, k < l.length → (capB (nb l k) || digB (nb l k)) = true) : nameB l = true := by
  have : ((List.range l.length).all fun k => capB (nb l k) || digB (nb l k)) = true := by
    rw [List.all_eq_true]; intro k hk; exact h1 k (by simpa using hk)
  simp only [nameB, h, h0, this, Bool.and_self]
def wayB (x : WayD) : Bool := inB x.dx (-7) 7 && (inB x.dy (-7) 7 && (!(decide (x.dx = 0) && decide (x.dy = 0)) && (inB x.most 1 7 && inB x.take 0 2)))
/-- The error of a type, of the letters of the earlier ones, among n types. -/
def pieceE (x : PieceD) (earlier : List PieceD) (n : Nat) : Int :=
  if capB x.letter = false then 6 else if earlier.any (fun y => decide (y.letter = x.letter)) then 7 else if (inB x.hand 0 64 && inB x.promote 0 n) = false then 4 else if 16 < x.ways.length then 2 else if x.ways.all wayB = false then 4 else 0
/-- The first error of the types from the k-th on. -/
def piecesGo (ps : List PieceD) (k : Nat) : Nat → Int
  | 0 => 0
  | m + 1 => match ps[k]? with
    | none => 0
    | some x => if pieceE x (ps.take k) ps.length = 0 then piecesGo ps (k + 1) m else pieceE x (ps.take k) ps.length
def piecesE (ps : List PieceD) : Int := if ps.length = 0 then 8 else if 6 < ps.length then 2 else piecesGo ps 0 ps.length
def startE (r : RulesD) : Int := if (r.start.length : Int) ≠ r.width * r.height then 3 else if r.start.all (fun c => inB c 0 (2 * r.pieces.length)) then 0 else 4
def endE (x : EndD) (n : Nat) : Int :=
  if inB x.kind 0 2 = false then 1 else
  if ((if x.kind = 1 then decide (x.count = 0) else inB x.count 1 64) && (if x.kind = 0 then decide (x.piece = 0) else inB x.piece 0 ((n : Int) - 1))) then 0 else 4
def endsGo (es : List EndD) (n : Nat) : Int :=
  match es with
  | [] => 0
  | x :: l => if endE x n = 0 then endsGo l n else endE x n
def endsE (r : RulesD) : Int := if 6 < r.ends.length then 2 else endsGo r.ends r.pieces.length
def otherE (r : RulesD) : Int := if inB r.blocked 0 2 && (inB r.quiet 0 200 && (decide (r.rep = 0) || inB r.rep 2 5)) then 0 else 4
def rulesE (r : RulesD) : Int :=
  if nameB r.name.data.toList = false then 6 else if (inB r.width 1 8 && inB r.height 1 8) = false then 4 else
  if piecesE r.pieces ≠ 0 then piecesE r.pieces else if startE r ≠ 0 then startE r else if endsE r ≠ 0 then endsE r else otherE r
/-- The letters of the types are bytes. -/
def LettersFit (ps : List PieceD) : Prop := ∀ x ∈ ps, 0 ≤ x.letter ∧ x.letter ≤ 255
end Go.Proofs.Ythbilpgecombiaa
