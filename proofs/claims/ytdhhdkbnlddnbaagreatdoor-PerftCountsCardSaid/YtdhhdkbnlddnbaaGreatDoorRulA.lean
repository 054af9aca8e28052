/- Merged by merge.py of the texts Base Rules SmallR Way Idx PieceR PiecesR StartR EndsR Name CheckR OkR. -/
import Derived.Test.YtdhhdkbnlddnbaaGreatDoorRows
import Derived.WalkKit
import Derived.ProofKit
import Derived.Lib.Hide
import Derived.Deep.QuietTactic
import Derived.BigQuiet
import Derived.WalkSmall
import Derived.StillTailTactics
import Derived.IntWalk
namespace Go.Proofs.YtdhhdkbnlddnbaaGreatDoor
open Go.ChangeShapes Go.WideShapes Go.ChangeAt Go.RowKit

theorem ret_i64 {a b : Int} (h : a = b) : Ending.returned (.int .i64 a) = .returned (.int .i64 b) := by rw [h]
theorem ret_bool {a b : Bool} (h : a = b) : Ending.returned (.bool a) = .returned (.bool b) := by rw [h]
/-- The same contract, with the world's equation turned: so the caller's name for the world stays. -/
theorem turned {P : Program} {f : FuncId} {args : Array Value} {w : World} {v : Ending} (h : Calls P f args w fun e w' => e = v ∧ w' = w) : Calls P f args w fun e w' => e = v ∧ w = w' :=
  h.mono fun _ _ h => ⟨h.1, h.2.symm⟩
theorem below_of_drew {w w2 : World} {q : Nat} (e2 : w2 = w.drewN q) : Below w.heap.size w w2 := by subst e2; exact below_drewN (Below.refl _ _) _
/-- Is a number from a to b? -/
def inB (x a b : Int) : Bool := decide (a ≤ x) && decide (x ≤ b)
theorem inB_iff {x a b : Int} : inB x a b = true ↔ a ≤ x ∧ x ≤ b := by simp [inB]
theorem inB_no {x a b : Int} : inB x a b = false ↔ x < a ∨ b < x := by
  cases h : inB x a b
  · simp [inB] at h; simp; omega
  · rw [inB_iff] at h; simp; omega
end Go.Proofs.YtdhhdkbnlddnbaaGreatDoor

namespace Go.Proofs.YtdhhdkbnlddnbaaGreatDoor
open Go.RowKit

structure WayD where
  dx : Int
  dy : Int
  most : Int
  take : Int
structure PieceD where
  letter : Int
  hand : Int
  promote : Int
  ways : List WayD
structure EndD where
  kind : Int
  piece : Int
  count : Int
  loses : Bool
structure RulesD where
  name : ByteArray
  width : Int
  height : Int
  pieces : List PieceD
  start : List Int
  falls : Bool
  keeps : Bool
  ends : List EndD
  blocked : Int
  quiet : Int
  rep : Int

/-! ### In memory -/
/-- A slice value that leads to elements of k cells each. -/
def IsSl {α : Type} (q : World → Nat → Nat → α → Prop) (k : Nat) (W : World) (v : Value) (xs : List α) : Prop :=
  (xs = [] ∧ ∃ a cap, v = .slice a 0 cap) ∨
  ∃ g off cap, v = .slice (some ⟨g, off, none⟩) xs.length cap ∧ xs ≠ [] ∧ xs.length ≤ cap ∧ cap ≤ maxLen ∧ ∀ i x, xs[i]? = some x → q W g (off + i * k) x
def IntAt (W : World) (g o : Nat) (x : Int) : Prop := W.cell? ⟨g, o, none⟩ = some (.int .i64 x)
def WayAt (W : World) (g o : Nat) (x : WayD) : Prop :=
  W.cell? ⟨g, o, none⟩ = some (.int .i64 x.dx) ∧ W.cell? ⟨g, o + 1, none⟩ = some (.int .i64 x.dy) ∧ W.cell? ⟨g, o + 2, none⟩ = some (.int .i64 x.most) ∧ W.cell? ⟨g, o + 3, none⟩ = some (.int .i64 x.take)
def EndAt (W : World) (g o : Nat) (x : EndD) : Prop :=
  W.cell? ⟨g, o, none⟩ = some (.int .i64 x.kind) ∧ W.cell? ⟨g, o + 1, none⟩ = some (.int .i64 x.piece) ∧ W.cell? ⟨g, o + 2, none⟩ = some (.int .i64 x.count) ∧ W.cell? ⟨g, o + 3, none⟩ = some (.bool x.loses)
def PieceAt (W : World) (g o : Nat) (x : PieceD) : Prop :=
  ∃ v, W.cell? ⟨g, o, none⟩ = some (.int .u8 x.letter) ∧ W.cell? ⟨g, o + 1, none⟩ = some (.int .i64 x.hand) ∧ W.cell? ⟨g, o + 2, none⟩ = some (.int .i64 x.promote) ∧ W.cell? ⟨g, o + 3, none⟩ = some v ∧ IsSl WayAt 4 W v x.ways
/-- What a slice of structs keeps where nothing below a block's number has turned. -/
def Keeps {α : Type} (q : World → Nat → Nat → α → Prop) : Prop := ∀ W W' n g o x, Below n W W' → W.heap.size ≤ n → q W g o x → q W' g o x
theorem cell_keeps {W W' : World} {n : Nat} {a : Addr} {v : Value} (hb : Below n W W') (hn : W.heap.size ≤ n) (h : W.cell? a = some v) : W'.cell? a = some v := by
  have h2 := World.block_lt_of_cell? _ _ h
  exact (hb.cell (p := a) (by omega)).trans h
theorem IsSl.below {α : Type} {q : World → Nat → Nat → α → Prop} (hq : Keeps q) {k : Nat} {W W' : World} {v : Value} {xs : List α} (h : IsSl q k W v xs) {n : Nat} (hb : Below n W W') (hn : W.heap.size ≤ n) : IsSl q k W' v xs := by
  rcases h with h | ⟨g, off, cap, e1, e2, e3, e4, hc⟩
  · exact .inl h
  · exact .inr ⟨g, off, cap, e1, e2, e3, e4, fun i x hx => hq _ _ _ _ _ _ hb hn (hc i x hx)⟩
theorem int_keeps : Keeps IntAt := fun _ _ _ _ _ _ hb hn h => cell_keeps hb hn h
theorem way_keeps : Keeps WayAt := fun _ _ _ _ _ _ hb hn h => ⟨cell_keeps hb hn h.1, cell_keeps hb hn h.2.1, cell_keeps hb hn h.2.2.1, cell_keeps hb hn h.2.2.2⟩
theorem end_keeps : Keeps EndAt := fun _ _ _ _ _ _ hb hn h => ⟨cell_keeps hb hn h.1, cell_keeps hb hn h.2.1, cell_keeps hb hn h.2.2.1, cell_keeps hb hn h.2.2.2⟩
theorem piece_keeps : Keeps PieceAt := fun _ _ _ _ _ _ hb hn ⟨v, h0, h1, h2, h3, h4⟩ => ⟨v, cell_keeps hb hn h0, cell_keeps hb hn h1, cell_keeps hb hn h2, cell_keeps hb hn h3, h4.below way_keeps hb hn⟩
theorem IsSl.shape {α : Type} {q : World → Nat → Nat → α → Prop} {k : Nat} {W : World} {v : Value} {xs : List α} (h : IsSl q k W v xs) {n : Nat} (hn : n = xs.length) : ∃ a cap, v = .slice a n cap ∧ n ≤ cap ∧ ∀ j, j < n → ∃ g off x, a = some ⟨g, off, none⟩ ∧ xs[j]? = some x ∧ q W g (off + j * k) x := by
  subst hn
  rcases h with ⟨rfl, a, cap, rfl⟩ | ⟨g, off, cap, rfl, _, h3, _, hc⟩
  · exact ⟨a, cap, rfl, Nat.zero_le _, fun j hj => by simp at hj⟩
  · refine ⟨_, cap, rfl, h3, fun j hj => ⟨g, off, xs[j], rfl, by simp [hj], hc j _ (by simp [hj])⟩⟩
/-- The value of rules: what a struct's fields hold. -/
def RulesV (r : RulesD) (vp vs ve : Value) : Value :=
  .agg #[.string r.name, .int .i64 r.width, .int .i64 r.height, vp, vs, .bool r.falls, .bool r.keeps, ve, .int .i64 r.blocked, .int .i64 r.quiet, .int .i64 r.rep]
def IsRules (W : World) (r : RulesD) (vp vs ve : Value) : Prop := IsSl PieceAt 4 W vp r.pieces ∧ IsSl IntAt 1 W vs r.start ∧ IsSl EndAt 4 W ve r.ends
theorem IsRules.below {W W' : World} {r : RulesD} {vp vs ve : Value} (h : IsRules W r vp vs ve) {n : Nat} (hb : Below n W W') (hn : W.heap.size ≤ n) : IsRules W' r vp vs ve :=
  ⟨h.1.below piece_keeps hb hn, h.2.1.below int_keeps hb hn, h.2.2.below end_keeps hb hn⟩

/-! ### What is wrong with them -/
def capB (c : Int) : Bool := inB c 65 90
def digB (c : Int) : Bool := inB c 48 57
/-- A name: a capital letter, then capital letters and digits, 8 at most. -/
def nb (l : List UInt8) (k : Nat) : Int := ((l[k]?.getD 0).toNat : Int)
def nameB (l : List UInt8) : Bool := inB l.length 1 8 && (capB (nb l 0) && (List.range l.length).all fun k => capB (nb l k) || digB (nb l k))
theorem nameB_size {l : List UInt8} (h : inB l.length 1 8 = false) : nameB l = false := by simp [nameB, h]
theorem nameB_first {l : List UInt8} (h : capB (nb l 0) = false) : nameB l = false := by simp [nameB, h]
theorem nameB_bad {l : List UInt8} {k : Nat} (hk : k < l.length) (h : capB (nb l k) = false) (h2 : digB (nb l k) = false) : nameB l = false := by
  have : ((List.range l.length).all fun k => capB (nb l k) || digB (nb l k)) = false := by
    rw [Bool.eq_false_iff]; intro h3
    rw [List.all_eq_true] at h3
    have := h3 k (by simpa using hk)
    simp [h, h2] at this
  simp [nameB, this]
theorem nameB_good {l : List UInt8} (h : inB l.length 1 8 = true) (h0 : capB (nb l 0) = true) (h1 : ∀ k, k < l.length → (capB (nb l k) || digB (nb l k)) = true) : nameB l = true := by
  have : ((List.range l.length).all fun k => capB (nb l k) || digB (nb l k)) = true := by
    rw [List.all_eq_true]; intro k hk; exact h1 k (by simpa using hk)
  simp only [nameB, h, h0, this, Bool.and_self]
def wayB (x : WayD) : Bool := inB x.dx (-7) 7 && (inB x.dy (-7) 7 && (!(decide (x.dx = 0) && decide (x.dy = 0)) && (inB x.most 1 7 && inB x.take 0 2)))
/-- The error of a type, of the letters of the earlier ones, among n types. -/
def pieceE (x : PieceD) (earlier : List PieceD) (n : Nat) : Int :=
  if capB x.letter = false then 6 else if earlier.any (fun y => decide (y.letter = x.letter)) then 7 else if (inB x.hand 0 64 && inB x.promote 0 n) = false then 4 else if 16 < x.ways.length then 2 else if x.ways.all wayB = false then 4 else 0
/-- The first error of the types from the k-th on. -/
def piecesGo (ps : List PieceD) (k : Nat) : Nat → Int
  | 0 => 0
  | m + 1 => match ps[k]? with
    | none => 0
    | some x => if pieceE x (ps.take k) ps.length = 0 then piecesGo ps (k + 1) m else pieceE x (ps.take k) ps.length
def piecesE (ps : List PieceD) : Int := if ps.length = 0 then 8 else if 6 < ps.length then 2 else piecesGo ps 0 ps.length
def startE (r : RulesD) : Int := if (r.start.length : Int) ≠ r.width * r.height then 3 else if r.start.all (fun c => inB c 0 (2 * r.pieces.length)) then 0 else 4
def endE (x : EndD) (n : Nat) : Int :=
  if inB x.kind 0 2 = false then 1 else
  if ((if x.kind = 1 then decide (x.count = 0) else inB x.count 1 64) && (if x.kind = 0 then decide (x.piece = 0) else inB x.piece 0 ((n : Int) - 1))) then 0 else 4
def endsGo (es : List EndD) (n : Nat) : Int :=
  match es with
  | [] => 0
  | x :: l => if endE x n = 0 then endsGo l n else endE x n
def endsE (r : RulesD) : Int := if 6 < r.ends.length then 2 else endsGo r.ends r.pieces.length
def otherE (r : RulesD) : Int := if inB r.blocked 0 2 && (inB r.quiet 0 200 && (decide (r.rep = 0) || inB r.rep 2 5)) then 0 else 4
def rulesE (r : RulesD) : Int :=
  if nameB r.name.data.toList = false then 6 else if (inB r.width 1 8 && inB r.height 1 8) = false then 4 else
  if piecesE r.pieces ≠ 0 then piecesE r.pieces else if startE r ≠ 0 then startE r else if endsE r ≠ 0 then endsE r else otherE r
/-- The letters of the types are bytes. -/
def LettersFit (ps : List PieceD) : Prop := ∀ x ∈ ps, 0 ≤ x.letter ∧ x.letter ≤ 255
end Go.Proofs.YtdhhdkbnlddnbaaGreatDoor

namespace Go.Proofs.YtdhhdkbnlddnbaaGreatDoor
open Go.ChangeShapes Go.WideShapes Go.ChangeAt Go.RowKit

theorem isWithin_any (x a b : Int) (w : World) :
    Calls Tryz.prog 67 #[.int .i64 x, .int .i64 a, .int .i64 b] w fun e w' => e = .returned (.bool (inB x a b)) ∧ w' = w := by
  unfold inB
  go_enter Tryz.func67, Tryz.ntmps67
  go_wp2
  all_goals
    go_ret
    refine ⟨ret_bool ?_, rfl⟩
    first | (simp_all; done) | (simp_all; omega)
theorem in_any (x a b : Int) (w : World) :
    Calls Tryz.prog 40 #[.int .i64 x, .int .i64 a, .int .i64 b] w fun e w' => e = .returned (.bool (inB x a b)) ∧ w' = w := by
  unfold inB
  go_enter Tryz.func40, Tryz.ntmps40
  go_wp2
  all_goals
    go_ret
    refine ⟨ret_bool ?_, rfl⟩
    first | (simp_all; done) | (simp_all; omega)
theorem isCapital_any (x : Int) (w : World) :
    Calls Tryz.prog 89 #[.int .u8 x] w fun e w' => e = .returned (.bool (capB x)) ∧ w' = w := by
  unfold capB inB
  go_enter Tryz.func89, Tryz.ntmps89
  go_wp2
  all_goals
    go_ret
    refine ⟨ret_bool ?_, rfl⟩
    first | (simp_all; done) | (simp_all; omega)
theorem isDigit_any (x : Int) (w : World) :
    Calls Tryz.prog 90 #[.int .u8 x] w fun e w' => e = .returned (.bool (digB x)) ∧ w' = w := by
  unfold digB inB
  go_enter Tryz.func90, Tryz.ntmps90
  go_wp2
  all_goals
    go_ret
    refine ⟨ret_bool ?_, rfl⟩
    first | (simp_all; done) | (simp_all; omega)
end Go.Proofs.YtdhhdkbnlddnbaaGreatDoor

namespace Go.Proofs.YtdhhdkbnlddnbaaGreatDoor
open Go.ChangeShapes Go.WideShapes Go.ChangeAt Go.RowKit

set_option maxHeartbeats 1000000 in
theorem isWay_any (x : WayD) (w : World) :
    Calls Tryz.prog 110 #[.agg #[.int .i64 x.dx, .int .i64 x.dy, .int .i64 x.most, .int .i64 x.take]] w fun e w' => e = .returned (.bool (wayB x)) ∧ Below w.heap.size w w' := by
  obtain ⟨dx, dy, most, take⟩ := x
  have K : Hid (wayB ⟨dx, dy, most, take⟩ = (inB dx (-7) 7 && (inB dy (-7) 7 && (!(decide (dx = 0) && decide (dy = 0)) && (inB most 1 7 && inB take 0 2))))) := Lib.hid rfl
  go_enter Tryz.func110, Tryz.ntmps110
  go_wp2_with (go_at_call 67; refine (turned (isWithin_any _ _ _ _)).mono ?_; rintro e w' ⟨rfl, rfl⟩)
  all_goals
    go_ret
    refine ⟨ret_bool (Eq.trans ?_ K.out.symm), (Below.refl _ _).alloc (Nat.le_refl _) _⟩
    simp_all
end Go.Proofs.YtdhhdkbnlddnbaaGreatDoor

namespace Go.Proofs.YtdhhdkbnlddnbaaGreatDoor
open Go.ChangeShapes Go.WideShapes Go.ChangeAt Go.RowKit

def wayV (x : WayD) : Value := .agg #[.int .i64 x.dx, .int .i64 x.dy, .int .i64 x.most, .int .i64 x.take]
def intV (x : Int) : Value := .int .i64 x
def BelPost (v : Value) (w : World) (e : Ending) (w' : World) : Prop := e = .returned v ∧ Below w.heap.size w w'
/-- The first place where p says yes; below 0: there is none. -/
def IdxPost (b : Bool) (w : World) (e : Ending) (w' : World) : Prop := ∃ r : Int, e = .returned (.int .i64 r) ∧ decide (0 ≤ r) = b ∧ Below w.heap.size w w'
theorem any_step {α : Type} {p : α → Bool} {xs : List α} {k : Nat} {x : α} (hx : xs[k]? = some x) (h : (xs.take k).any p = false) (h2 : p x = false) : (xs.take (k + 1)).any p = false := by
  rw [List.take_add_one, List.any_append, h, hx]; simp [h2]
theorem any_yes {α : Type} {p : α → Bool} {xs : List α} {k : Nat} {x : α} (hx : xs[k]? = some x) (h2 : p x = true) : xs.any p = true :=
  List.any_eq_true.2 ⟨x, List.mem_of_getElem? hx, h2⟩

set_option maxHeartbeats 1000000 in
theorem indexWays (xs : List WayD) (p : WayD → Bool) (v : Value) (b : Addr) (w : World) (hv : IsSl WayAt 4 w v xs) (hl : xs.length ≤ 100)
    (hp : ∀ x W', x ∈ xs → Below w.heap.size w W' → Calls Tryz.prog 128 #[.agg #[.int .i64 x.dx, .int .i64 x.dy, .int .i64 x.most, .int .i64 x.take], .pointer (some b)] W' (BelPost (.bool (p x)) W')) :
    Calls Tryz.prog 142 #[v, .func (.func 128) #[] #[.pointer (some b)]] w (IdxPost (xs.any p) w) := by
  obtain ⟨n, hn⟩ : ∃ n : Nat, n = xs.length := ⟨_, rfl⟩
  obtain ⟨a, cp, rfl, _, hcell⟩ := hv.shape hn
  have HN : Hid _ := Lib.hid hn
  have HC : Hid _ := Lib.hid hcell
  have HP : Hid _ := Lib.hid hp
  rw [← hn] at hl
  clear hcell hn hv hp
  go_enter Tryz.func142, Tryz.ntmps142
  go_wp2
  go_loopw [8] (fun i wr => ∃ k : Nat, k ≤ n ∧ i = .int .i64 (k : Int) ∧ Hid ((xs.take k).any p = false) ∧ Hid (Below w.heap.size w wr)) (fun i _ => n - (intOf i).toNat)
  case atStart => exact ⟨0, by omega, rfl, Lib.hid rfl, Lib.hid (Below.refl _ _)⟩
  case round =>
    obtain ⟨k, hk, rfl, hall, hbel⟩ := hrel
    by_cases hlt : k < n
    · obtain ⟨g, off, x, rfl, hx, hq⟩ := HC.out k hlt
      obtain ⟨c0, c1, c2, c3⟩ := way_keeps _ _ _ _ _ _ hbel.out (Nat.le_refl _) hq
      have HX : Hid _ := Lib.hid hx
      have HQ : Hid _ := Lib.hid (HP.out x wr (List.mem_of_getElem? hx) hbel.out)
      clear hq hx HC HP
      cases hpx : p x
      · rw [hpx] at HQ
        have KP : Hid _ := Lib.hid hpx
        clear hpx
        go_wp2_with fail
        go_at_call 128; refine HQ.out.mono ?_; rintro e w2 ⟨rfl, hb2⟩
        have HB : Hid (Below w.heap.size w w2) := Lib.hid (hbel.out.trans (hb2.mono hbel.out.size))
        clear hb2
        go_wp2_with fail
        go_roundw
        case rel => exact ⟨k + 1, by omega, by go_num, Lib.hid (any_step HX.out hall.out KP.out), HB⟩
        case measure => simp [intOf]; omega
      · rw [hpx] at HQ
        have KP : Hid (decide ((0 : Int) ≤ (k : Int)) = xs.any p) := Lib.hid (by rw [any_yes HX.out hpx]; simp)
        clear hpx
        go_wp2_with fail
        go_at_call 128; refine HQ.out.mono ?_; rintro e w2 ⟨rfl, hb2⟩
        have HB : Hid (Below w.heap.size w w2) := Lib.hid (hbel.out.trans (hb2.mono hbel.out.size))
        clear hb2
        go_wp2_with fail
        go_ret
        exact ⟨_, rfl, KP.out, HB.out⟩
    · have KP : Hid (decide ((0 : Int) ≤ -1) = xs.any p) := Lib.hid (by
        have h := hall.out
        rw [List.take_of_length_le (by have := HN.out; omega)] at h
        rw [h]; decide)
      go_wp2_with fail
      go_ret
      exact ⟨_, rfl, KP.out, hbel.out⟩
theorem containsWays (xs : List WayD) (p : WayD → Bool) (v : Value) (b : Addr) (w : World) (hv : IsSl WayAt 4 w v xs) (hl : xs.length ≤ 100)
    (hp : ∀ x W', x ∈ xs → Below w.heap.size w W' → Calls Tryz.prog 128 #[.agg #[.int .i64 x.dx, .int .i64 x.dy, .int .i64 x.most, .int .i64 x.take], .pointer (some b)] W' (BelPost (.bool (p x)) W')) :
    Calls Tryz.prog 127 #[v, .func (.func 128) #[] #[.pointer (some b)]] w (BelPost (.bool (xs.any p)) w) := by
  have HI : Hid _ := Lib.hid (indexWays xs p v b w hv hl hp)
  clear hv hp
  go_enter Tryz.func127, Tryz.ntmps127
  go_wp2_with fail
  go_at_call 142; refine HI.out.mono ?_; rintro e w' ⟨r, rfl, hr, hb⟩
  have KR : Hid _ := Lib.hid hr
  have HB : Hid _ := Lib.hid hb
  clear hr hb
  go_wp2_with fail
  go_ret
  exact ⟨ret_bool KR.out, HB.out⟩

set_option maxHeartbeats 1000000 in
theorem indexInts (xs : List Int) (p : Int → Bool) (v : Value) (b : Addr) (w : World) (hv : IsSl IntAt 1 w v xs) (hl : xs.length ≤ 100)
    (hp : ∀ x W', x ∈ xs → Below w.heap.size w W' → Calls Tryz.prog 111 #[.int .i64 x, .pointer (some b)] W' (BelPost (.bool (p x)) W')) :
    Calls Tryz.prog 122 #[v, .func (.func 111) #[] #[.pointer (some b)]] w (IdxPost (xs.any p) w) := by
  obtain ⟨n, hn⟩ : ∃ n : Nat, n = xs.length := ⟨_, rfl⟩
  obtain ⟨a, cp, rfl, _, hcell⟩ := hv.shape hn
  have HN : Hid _ := Lib.hid hn
  have HC : Hid _ := Lib.hid hcell
  have HP : Hid _ := Lib.hid hp
  rw [← hn] at hl
  clear hcell hn hv hp
  go_enter Tryz.func122, Tryz.ntmps122
  go_wp2
  go_loopw [8] (fun i wr => ∃ k : Nat, k ≤ n ∧ i = .int .i64 (k : Int) ∧ Hid ((xs.take k).any p = false) ∧ Hid (Below w.heap.size w wr)) (fun i _ => n - (intOf i).toNat)
  case atStart => exact ⟨0, by omega, rfl, Lib.hid rfl, Lib.hid (Below.refl _ _)⟩
  case round =>
    obtain ⟨k, hk, rfl, hall, hbel⟩ := hrel
    by_cases hlt : k < n
    · obtain ⟨g, off, x, rfl, hx, hq⟩ := HC.out k hlt
      have c0 : wr.cell? ⟨g, off + k, none⟩ = some (.int .i64 x) := by
        have h := int_keeps _ _ _ _ _ _ hbel.out (Nat.le_refl _) hq
        rw [Nat.mul_one] at h; exact h
      have HX : Hid _ := Lib.hid hx
      have HQ : Hid _ := Lib.hid (HP.out x wr (List.mem_of_getElem? hx) hbel.out)
      clear hq hx HC HP
      cases hpx : p x
      · rw [hpx] at HQ
        have KP : Hid _ := Lib.hid hpx
        clear hpx
        go_wp2_with fail
        go_at_call 111; refine HQ.out.mono ?_; rintro e w2 ⟨rfl, hb2⟩
        have HB : Hid (Below w.heap.size w w2) := Lib.hid (hbel.out.trans (hb2.mono hbel.out.size))
        clear hb2
        go_wp2_with fail
        go_roundw
        case rel => exact ⟨k + 1, by omega, by go_num, Lib.hid (any_step HX.out hall.out KP.out), HB⟩
        case measure => simp [intOf]; omega
      · rw [hpx] at HQ
        have KP : Hid (decide ((0 : Int) ≤ (k : Int)) = xs.any p) := Lib.hid (by rw [any_yes HX.out hpx]; simp)
        clear hpx
        go_wp2_with fail
        go_at_call 111; refine HQ.out.mono ?_; rintro e w2 ⟨rfl, hb2⟩
        have HB : Hid (Below w.heap.size w w2) := Lib.hid (hbel.out.trans (hb2.mono hbel.out.size))
        clear hb2
        go_wp2_with fail
        go_ret
        exact ⟨_, rfl, KP.out, HB.out⟩
    · have KP : Hid (decide ((0 : Int) ≤ -1) = xs.any p) := Lib.hid (by
        have h := hall.out
        rw [List.take_of_length_le (by have := HN.out; omega)] at h
        rw [h]; decide)
      go_wp2_with fail
      go_ret
      exact ⟨_, rfl, KP.out, hbel.out⟩
theorem containsInts (xs : List Int) (p : Int → Bool) (v : Value) (b : Addr) (w : World) (hv : IsSl IntAt 1 w v xs) (hl : xs.length ≤ 100)
    (hp : ∀ x W', x ∈ xs → Below w.heap.size w W' → Calls Tryz.prog 111 #[.int .i64 x, .pointer (some b)] W' (BelPost (.bool (p x)) W')) :
    Calls Tryz.prog 100 #[v, .func (.func 111) #[] #[.pointer (some b)]] w (BelPost (.bool (xs.any p)) w) := by
  have HI : Hid _ := Lib.hid (indexInts xs p v b w hv hl hp)
  clear hv hp
  go_enter Tryz.func100, Tryz.ntmps100
  go_wp2_with fail
  go_at_call 122; refine HI.out.mono ?_; rintro e w' ⟨r, rfl, hr, hb⟩
  have KR : Hid _ := Lib.hid hr
  have HB : Hid _ := Lib.hid hb
  clear hr hb
  go_wp2_with fail
  go_ret
  exact ⟨ret_bool KR.out, HB.out⟩

/-! ### Types of pieces: the letter alone is looked at -/

set_option maxHeartbeats 1000000 in
theorem indexPieces (xs : List PieceD) (p : PieceD → Bool) (v : Value) (b : Addr) (w : World) (hv : IsSl PieceAt 4 w v xs) (hl : xs.length ≤ 100)
    (hp : ∀ x u W', x ∈ xs → Below w.heap.size w W' → Calls Tryz.prog 108 #[.agg #[.int .u8 x.letter, .int .i64 x.hand, .int .i64 x.promote, u], .pointer (some b)] W' (BelPost (.bool (p x)) W')) :
    Calls Tryz.prog 126 #[v, .func (.func 108) #[] #[.pointer (some b)]] w (IdxPost (xs.any p) w) := by
  obtain ⟨n, hn⟩ : ∃ n : Nat, n = xs.length := ⟨_, rfl⟩
  obtain ⟨a, cp, rfl, _, hcell⟩ := hv.shape hn
  have HN : Hid _ := Lib.hid hn
  have HC : Hid _ := Lib.hid hcell
  have HP : Hid _ := Lib.hid hp
  rw [← hn] at hl
  clear hcell hn hv hp
  go_enter Tryz.func126, Tryz.ntmps126
  go_wp2
  go_loopw [8] (fun i wr => ∃ k : Nat, k ≤ n ∧ i = .int .i64 (k : Int) ∧ Hid ((xs.take k).any p = false) ∧ Hid (Below w.heap.size w wr)) (fun i _ => n - (intOf i).toNat)
  case atStart => exact ⟨0, by omega, rfl, Lib.hid rfl, Lib.hid (Below.refl _ _)⟩
  case round =>
    obtain ⟨k, hk, rfl, hall, hbel⟩ := hrel
    by_cases hlt : k < n
    · obtain ⟨g, off, x, rfl, hx, hq⟩ := HC.out k hlt
      obtain ⟨u, c0, c1, c2, c3, _⟩ := piece_keeps _ _ _ _ _ _ hbel.out (Nat.le_refl _) hq
      have HX : Hid _ := Lib.hid hx
      have HQ : Hid _ := Lib.hid (HP.out x u wr (List.mem_of_getElem? hx) hbel.out)
      clear hq hx HC HP
      cases hpx : p x
      · rw [hpx] at HQ
        have KP : Hid _ := Lib.hid hpx
        clear hpx
        go_wp2_with fail
        go_at_call 108; refine HQ.out.mono ?_; rintro e w2 ⟨rfl, hb2⟩
        have HB : Hid (Below w.heap.size w w2) := Lib.hid (hbel.out.trans (hb2.mono hbel.out.size))
        clear hb2
        go_wp2_with fail
        go_roundw
        case rel => exact ⟨k + 1, by omega, by go_num, Lib.hid (any_step HX.out hall.out KP.out), HB⟩
        case measure => simp [intOf]; omega
      · rw [hpx] at HQ
        have KP : Hid (decide ((0 : Int) ≤ (k : Int)) = xs.any p) := Lib.hid (by rw [any_yes HX.out hpx]; simp)
        clear hpx
        go_wp2_with fail
        go_at_call 108; refine HQ.out.mono ?_; rintro e w2 ⟨rfl, hb2⟩
        have HB : Hid (Below w.heap.size w w2) := Lib.hid (hbel.out.trans (hb2.mono hbel.out.size))
        clear hb2
        go_wp2_with fail
        go_ret
        exact ⟨_, rfl, KP.out, HB.out⟩
    · have KP : Hid (decide ((0 : Int) ≤ -1) = xs.any p) := Lib.hid (by
        have h := hall.out
        rw [List.take_of_length_le (by have := HN.out; omega)] at h
        rw [h]; decide)
      go_wp2_with fail
      go_ret
      exact ⟨_, rfl, KP.out, hbel.out⟩
theorem containsPieces (xs : List PieceD) (p : PieceD → Bool) (v : Value) (b : Addr) (w : World) (hv : IsSl PieceAt 4 w v xs) (hl : xs.length ≤ 100)
    (hp : ∀ x u W', x ∈ xs → Below w.heap.size w W' → Calls Tryz.prog 108 #[.agg #[.int .u8 x.letter, .int .i64 x.hand, .int .i64 x.promote, u], .pointer (some b)] W' (BelPost (.bool (p x)) W')) :
    Calls Tryz.prog 107 #[v, .func (.func 108) #[] #[.pointer (some b)]] w (BelPost (.bool (xs.any p)) w) := by
  have HI : Hid _ := Lib.hid (indexPieces xs p v b w hv hl hp)
  clear hv hp
  go_enter Tryz.func107, Tryz.ntmps107
  go_wp2_with fail
  go_at_call 126; refine HI.out.mono ?_; rintro e w' ⟨r, rfl, hr, hb⟩
  have KR : Hid _ := Lib.hid hr
  have HB : Hid _ := Lib.hid hb
  clear hr hb
  go_wp2_with fail
  go_ret
  exact ⟨ret_bool KR.out, HB.out⟩
end Go.Proofs.YtdhhdkbnlddnbaaGreatDoor

namespace Go.Proofs.YtdhhdkbnlddnbaaGreatDoor
open Go.ChangeShapes Go.WideShapes Go.ChangeAt Go.RowKit

theorem all1Way_any (x : WayD) (b : Addr) (w : World) (hb : w.cell? b = some (.func (.func 110) #[] #[])) :
    Calls Tryz.prog 128 #[.agg #[.int .i64 x.dx, .int .i64 x.dy, .int .i64 x.most, .int .i64 x.take], .pointer (some b)] w (BelPost (.bool (!wayB x)) w) := by
  have hb2 : ∀ o, (w.alloc o).cell? b = some (.func (.func 110) #[] #[]) := fun o => cell_keeps ((Below.refl w.heap.size w).alloc (Nat.le_refl _) o) (Nat.le_refl _) hb
  clear hb
  go_enter Tryz.func128, Tryz.ntmps128
  go_wp2_with fail
  go_at_call 110; refine (isWay_any x _).mono ?_; rintro e w2 ⟨rfl, hb2⟩
  have HB : Hid (Below w.heap.size w w2) := Lib.hid (((Below.refl _ _).alloc (Nat.le_refl _) _).trans (hb2.mono (by simp)))
  clear hb2
  go_wp2_with fail
  go_ret
  exact ⟨rfl, HB.out⟩
theorem allWays_any (xs : List WayD) (v : Value) (w : World) (hv : IsSl WayAt 4 w v xs) (hl : xs.length ≤ 100) :
    Calls Tryz.prog 109 #[v, .func (.func 110) #[] #[]] w (BelPost (.bool (xs.all wayB)) w) := by
  have K : Hid ((!xs.any fun x => !wayB x) = xs.all wayB) := Lib.hid (by rw [List.all_eq_not_any_not])
  have HA : Hid (∀ W1, Below w.heap.size w W1 → IsSl WayAt 4 W1 v xs) := Lib.hid (fun W1 h => hv.below way_keeps h (Nat.le_refl _))
  clear hv
  go_enter Tryz.func109, Tryz.ntmps109
  go_wp2_with fail
  go_at_call 127
  refine (containsWays xs (fun x => !wayB x) v _ _ (HA.out _ ((Below.refl w.heap.size w).alloc (Nat.le_refl _) _)) hl (fun x W' _ hb => all1Way_any x _ W' (cell_keeps hb (Nat.le_refl _) (by simp)))).mono ?_
  rintro e w2 ⟨rfl, hb2⟩
  have HB : Hid (Below w.heap.size w w2) := Lib.hid (((Below.refl _ _).alloc (Nat.le_refl _) _).trans (hb2.mono (by simp)))
  clear hb2
  go_wp2_with fail
  go_ret
  exact ⟨ret_bool K.out, HB.out⟩
theorem letter_any (x : PieceD) (u : Value) (b : Addr) (l : Int) (w : World) (hb : w.cell? b = some (.int .u8 l)) :
    Calls Tryz.prog 108 #[.agg #[.int .u8 x.letter, .int .i64 x.hand, .int .i64 x.promote, u], .pointer (some b)] w (BelPost (.bool (decide (x.letter = l))) w) := by
  have hb2 : ∀ o, (w.alloc o).cell? b = some (.int .u8 l) := fun o => cell_keeps ((Below.refl w.heap.size w).alloc (Nat.le_refl _) o) (Nat.le_refl _) hb
  clear hb
  go_enter Tryz.func108, Tryz.ntmps108
  go_wp2_with fail
  go_ret
  exact ⟨rfl, (Below.refl _ _).alloc (Nat.le_refl _) _⟩

theorem bcell {W w1 : World} (hb : Below W.heap.size W w1) : (∀ b o, b < W.heap.size → w1.cell? ⟨b, o, none⟩ = W.cell? ⟨b, o, none⟩) ∧ (∀ b o, b < W.heap.size → w1.frozen? ⟨b, o, none⟩ = W.frozen? ⟨b, o, none⟩) :=
  ⟨fun b o h => hb.cell (p := ⟨b, o, none⟩) h, fun b o h => hb.frozen (p := ⟨b, o, none⟩) h⟩
/-- The cells of a new block, and what keeps them. -/
theorem cells4_new (w : World) (a b c d : Value) (t : TypeId) : ∀ W, Below (w.heap.size + 1) (w.alloc (.cells #[a, b, c, d] t)) W → W.cell? ⟨w.heap.size, 0, none⟩ = some a ∧ W.cell? ⟨w.heap.size, 1, none⟩ = some b ∧ W.cell? ⟨w.heap.size, 2, none⟩ = some c ∧ W.cell? ⟨w.heap.size, 3, none⟩ = some d := by
  intro W hb
  have h : ∀ o v, (w.alloc (.cells #[a, b, c, d] t)).cell? ⟨w.heap.size, o, none⟩ = some v → W.cell? ⟨w.heap.size, o, none⟩ = some v := fun o v h => cell_keeps hb (by simp) h
  refine ⟨h _ _ ?_, h _ _ ?_, h _ _ ?_, h _ _ ?_⟩ <;> (rw [World.cell?_alloc_at (hn := rfl)]; rfl)
set_option maxHeartbeats 2000000 in
theorem checkPiece_any (x : PieceD) (u ve : Value) (es : List PieceD) (n : Nat) (w : World) (hu : IsSl WayAt 4 w u x.ways) (he : IsSl PieceAt 4 w ve es) (hl : es.length ≤ 100) (hw : x.ways.length ≤ 9223372036854775807) :
    Calls Tryz.prog 91 #[.agg #[.int .u8 x.letter, .int .i64 x.hand, .int .i64 x.promote, u], ve, .int .i64 (n : Int)] w (BelPost (.int .i64 (pieceE x es n)) w) := by
  obtain ⟨m, hm⟩ : ∃ m : Nat, m = x.ways.length := ⟨_, rfl⟩
  obtain ⟨a, cp, rfl, _, _⟩ := hu.shape hm
  have HM : Hid _ := Lib.hid hm
  have HU : Hid (∀ W, Below w.heap.size w W → IsSl WayAt 4 W (.slice a m cp) x.ways) := Lib.hid (fun W h => hu.below way_keeps h (Nat.le_refl _))
  have HE : Hid (∀ W, Below w.heap.size w W → IsSl PieceAt 4 W ve es) := Lib.hid (fun W h => he.below piece_keeps h (Nat.le_refl _))
  rw [← hm] at hw
  clear hm hu he
  go_enter Tryz.func91, Tryz.ntmps91
  go_wp2_with fail
  go_at_call 89; refine (turned (isCapital_any _ _)).mono ?_; rintro e w' ⟨rfl, rfl⟩
  cases h1 : capB x.letter
  · have K : Hid ((6 : Int) = pieceE x es n) := Lib.hid (by simp [pieceE, h1])
    clear h1
    go_wp2_with fail
    go_ret
    exact ⟨ret_i64 K.out, (Below.refl _ _).alloc (Nat.le_refl _) _⟩
  · have K1 : Hid _ := Lib.hid h1
    clear h1
    go_wp2_with fail
    go_at_call 107
    refine (containsPieces es (fun y => decide (y.letter = x.letter)) ve _ _ (HE.out _ ((Below.refl w.heap.size w).alloc (Nat.le_refl _) _)) hl (fun y u W' _ hb => letter_any y u _ x.letter W' (cell_keeps hb (Nat.le_refl _) (by simp)))).mono ?_
    rintro e w2 ⟨rfl, hb2⟩
    simp only [World.size_alloc] at hb2
    have HC : Hid _ := Lib.hid (cells4_new w (.int .u8 x.letter) (.int .i64 x.hand) (.int .i64 x.promote) (.slice a m cp) 60 w2 hb2)
    have HB : Hid (Below w.heap.size w w2) := Lib.hid (((Below.refl _ _).alloc (Nat.le_refl _) _).trans (hb2.mono (by simp)))
    clear hb2
    cases h2 : es.any (fun y => decide (y.letter = x.letter))
    · have K2 : Hid _ := Lib.hid h2
      clear h2
      obtain ⟨c0, c1, c2, c3⟩ := HC.out
      cases h3 : (inB x.hand 0 64 && inB x.promote 0 n)
      · have K : Hid ((4 : Int) = pieceE x es n) := Lib.hid (by simp only [pieceE, K1.out, K2.out, h3]; rfl)
        have K3 : Hid _ := Lib.hid h3
        cases h4 : inB x.hand 0 64
        · have K4 : Hid _ := Lib.hid h4
          clear h3 h4
          go_wp2_with fail
          go_at_call 67; refine (turned (isWithin_any _ _ _ _)).mono ?_; rintro e w' ⟨rfl, rfl⟩
          rw [K4.out]
          go_wp2_with fail
          go_ret
          exact ⟨ret_i64 K.out, HB.out⟩
        · have K4 : Hid _ := Lib.hid h4
          have K5 : Hid (inB x.promote 0 n = false) := Lib.hid (by rw [h4] at h3; simpa using h3)
          clear h3 h4
          go_wp2_with fail
          go_at_call 67; refine (turned (isWithin_any _ _ _ _)).mono ?_; rintro e w' ⟨rfl, rfl⟩
          rw [K4.out]
          go_wp2_with fail
          go_at_call 67; refine (turned (isWithin_any _ _ _ _)).mono ?_; rintro e w' ⟨rfl, rfl⟩
          rw [K5.out]
          go_wp2_with fail
          go_ret
          exact ⟨ret_i64 K.out, HB.out⟩
      · have K3 : Hid _ := Lib.hid h3
        rw [Bool.and_eq_true] at h3
        have K4 : Hid _ := Lib.hid h3
        clear h3
        go_wp2_with fail
        go_at_call 67; refine (turned (isWithin_any _ _ _ _)).mono ?_; rintro e w' ⟨rfl, rfl⟩
        rw [K4.out.1]
        go_wp2_with fail
        go_at_call 67; refine (turned (isWithin_any _ _ _ _)).mono ?_; rintro e w' ⟨rfl, rfl⟩
        rw [K4.out.2]
        by_cases h5 : 16 < m
        · have K : Hid ((2 : Int) = pieceE x es n) := Lib.hid (by simp [pieceE, K1.out, K2.out, K3.out, ← HM.out, h5])
          go_wp2_with fail
          go_ret
          exact ⟨ret_i64 K.out, HB.out⟩
        · have K5 : Hid (¬ 16 < x.ways.length) := Lib.hid (by rw [← HM.out]; exact h5)
          go_wp2_with fail
          go_at_call 109
          refine (allWays_any x.ways _ _ (HU.out _ HB.out) (by have := K5.out; omega)).mono ?_
          rintro e w3 ⟨rfl, hb3⟩
          have HB3 : Hid (Below w.heap.size w w3) := Lib.hid (HB.out.trans (hb3.mono HB.out.size))
          clear hb3
          cases h6 : x.ways.all wayB
          · have K : Hid ((4 : Int) = pieceE x es n) := Lib.hid (by simp [pieceE, K1.out, K2.out, K3.out, K5.out, h6])
            clear h6
            go_wp2_with fail
            go_ret
            exact ⟨ret_i64 K.out, HB3.out⟩
          · have K : Hid ((0 : Int) = pieceE x es n) := Lib.hid (by simp [pieceE, K1.out, K2.out, K3.out, K5.out, h6])
            clear h6
            go_wp2_with fail
            go_ret
            exact ⟨ret_i64 K.out, HB3.out⟩
    · have K : Hid ((7 : Int) = pieceE x es n) := Lib.hid (by simp [pieceE, K1.out, h2])
      clear h2
      go_wp2_with fail
      go_ret
      exact ⟨ret_i64 K.out, HB.out⟩
end Go.Proofs.YtdhhdkbnlddnbaaGreatDoor

set_option maxRecDepth 100000
namespace Go.Proofs.YtdhhdkbnlddnbaaGreatDoor
open Go.ChangeShapes Go.WideShapes Go.ChangeAt Go.RowKit

theorem IsSl.part {α : Type} {q : World → Nat → Nat → α → Prop} {k : Nat} {W : World} {a : Option Addr} {n cap : Nat} {xs : List α} (h : IsSl q k W (.slice a n cap) xs) (m : Nat) (hm : m ≤ n) : IsSl q k W (.slice a m cap) (xs.take m) := by
  rcases h with ⟨rfl, a', cap', e⟩ | ⟨g, off, cap', e, h2, h3, h4, hc⟩
  · simp only [Value.slice.injEq] at e
    obtain ⟨_, e, _⟩ := e
    refine .inl ⟨by simp, a, cap, ?_⟩
    have : m = 0 := by omega
    rw [this]
  · simp only [Value.slice.injEq] at e
    obtain ⟨rfl, rfl, rfl⟩ := e
    by_cases h0 : m = 0
    · subst h0; exact .inl ⟨by simp, _, _, rfl⟩
    · refine .inr ⟨g, off, cap, by rw [List.length_take, Nat.min_eq_left hm], ?_, by rw [List.length_take]; omega, h4, fun i x hx => hc i x ?_⟩
      · intro e
        have : (xs.take m).length = 0 := by rw [e]; rfl
        rw [List.length_take] at this; omega
      · rw [List.getElem?_take] at hx
        split at hx
        · exact hx
        · cases hx
/-- Each list of ways has a length that an int can hold. -/
def WaysFit (ps : List PieceD) : Prop := ∀ x ∈ ps, x.ways.length ≤ 9223372036854775807
theorem piecesGo_step {ps : List PieceD} {k m : Nat} {x : PieceD} (hx : ps[k]? = some x) (h : pieceE x (ps.take k) ps.length = 0) : piecesGo ps k (m + 1) = piecesGo ps (k + 1) m := by
  rw [piecesGo, hx]; simp [h]
theorem piecesGo_stop {ps : List PieceD} {k m : Nat} {x : PieceD} (hx : ps[k]? = some x) (h : pieceE x (ps.take k) ps.length ≠ 0) : piecesGo ps k (m + 1) = pieceE x (ps.take k) ps.length := by
  rw [piecesGo, hx]; simp [h]
set_option maxHeartbeats 2000000 in
theorem checkPieces_any (ps : List PieceD) (v : Value) (w : World) (hv : IsSl PieceAt 4 w v ps) (hw : WaysFit ps) (hl : ps.length ≤ 9223372036854775807) :
    Calls Tryz.prog 68 #[v] w (BelPost (.int .i64 (piecesE ps)) w) := by
  obtain ⟨n, hn⟩ : ∃ n : Nat, n = ps.length := ⟨_, rfl⟩
  obtain ⟨a, cp, rfl, hcp, hcell⟩ := hv.shape hn
  by_cases h0 : n = 0
  · have K : Hid ((8 : Int) = piecesE ps) := Lib.hid (by simp [piecesE, ← hn, h0])
    subst h0
    clear hn hv hcell
    go_enter Tryz.func68, Tryz.ntmps68
    go_wp2_with fail
    go_ret
    exact ⟨ret_i64 K.out, Below.refl _ _⟩
  · have hne : ((n : Int) == 0) = false := by simp; omega
    by_cases h6 : 6 < n
    · have K : Hid ((2 : Int) = piecesE ps) := Lib.hid (by simp [piecesE, ← hn, h0, h6])
      rw [← hn] at hl
      clear hn hv hcell h0
      go_enter Tryz.func68, Tryz.ntmps68
      go_wp2_with fail
      go_ret
      exact ⟨ret_i64 K.out, Below.refl _ _⟩
    · have KP : Hid (piecesE ps = piecesGo ps 0 n) := Lib.hid (by simp [piecesE, ← hn, h0, h6])
      have HN : Hid _ := Lib.hid hn
      have HV : Hid _ := Lib.hid hv
      have HC : Hid _ := Lib.hid hcell
      have HW : Hid _ := Lib.hid hw
      clear hn hv hcell h0 hl hw
      go_enter Tryz.func68, Tryz.ntmps68
      go_wp2_with fail
      go_loopw [3, 4, 5, 14] (fun _ _ _ i wr => ∃ k : Nat, k ≤ n ∧ i = .int .i64 (k : Int) ∧ Hid (piecesE ps = piecesGo ps k (n - k)) ∧ Hid (Below w.heap.size w wr)) (fun _ _ _ i _ => n - (intOf i).toNat)
      case atStart => exact ⟨0, by omega, rfl, KP, Lib.hid (Below.refl _ _)⟩
      case round =>
        clear KP
        obtain ⟨k, hk, rfl, hgo, hbel⟩ := hrel
        by_cases hlt : k < n
        · obtain ⟨g, off, x, rfl, hx, hq⟩ := HC.out k hlt
          obtain ⟨u, c0, c1, c2, c3, hu⟩ := piece_keeps _ _ _ _ _ _ hbel.out (Nat.le_refl _) hq
          have HX : Hid _ := Lib.hid hx
          obtain ⟨m, hm⟩ : ∃ m : Nat, m = x.ways.length := ⟨_, rfl⟩
          obtain ⟨au, cu, rfl, _, _⟩ := hu.shape hm
          have HU : Hid _ := Lib.hid hu
          clear hq hx hu HC hm
          go_wp2_with fail
          have HCN := cells4_new wr (.int .u8 x.letter) (.int .i64 x.hand) (.int .i64 x.promote) (.slice au m cu) 60 _ (Below.refl _ _)
          have HBW : Hid (Below wr.heap.size wr (wr.alloc (.cells #[.int .u8 x.letter, .int .i64 x.hand, .int .i64 x.promote, .slice au m cu] 60))) := Lib.hid ((Below.refl _ _).alloc (Nat.le_refl _) _)
          generalize wr.alloc (.cells #[.int .u8 x.letter, .int .i64 x.hand, .int .i64 x.promote, .slice au m cu] 60) = W at HCN HBW ⊢
          obtain ⟨d0, d1, d2, d3⟩ := HCN
          have hkc : k ≤ cp := by omega
          go_still_tail 6, (by kernel_rfl)
          change wpList _ _ _ _ _ W.drew
          have HBD : Hid (Below w.heap.size w W.drew) := Lib.hid ((hbel.out.trans (HBW.out.mono hbel.out.size)).drew)
          have KE : Hid _ := Lib.hid (checkPiece_any x (.slice au m cu) (.slice (some ⟨g, off, none⟩) k cp) (ps.take k) n W.drew (HU.out.below way_keeps HBW.out.drew (Nat.le_refl _)) ((HV.out.below piece_keeps HBD.out (Nat.le_refl _)).part k (by omega)) (by rw [List.length_take]; omega) (HW.out x (List.mem_of_getElem? HX.out)))
          clear hkc
          go_wp2_with fail
          go_at_call 91; refine KE.out.mono ?_; rintro e w2 ⟨rfl, hb2⟩
          have HB : Hid (Below w.heap.size w w2) := Lib.hid (HBD.out.trans (hb2.mono HBD.out.size))
          clear hb2 KE
          by_cases hz : pieceE x (ps.take k) n = 0
          · have KG : Hid (piecesE ps = piecesGo ps (k + 1) (n - (k + 1))) := Lib.hid (by
              rw [hgo.out, show n - k = (n - (k + 1)) + 1 by omega, piecesGo_step HX.out (by rw [← HN.out]; exact hz)])
            rw [hz]
            clear hz
            go_wp2_with fail
            go_roundw
            case rel => exact ⟨k + 1, by omega, by go_num, KG, HB⟩
            case measure => simp [intOf]; omega
          · have KG : Hid (pieceE x (ps.take k) n = piecesE ps) := Lib.hid (by
              rw [hgo.out, show n - k = (n - (k + 1)) + 1 by omega, piecesGo_stop HX.out (by rw [← HN.out]; exact hz), ← HN.out])
            obtain ⟨c, hc⟩ : ∃ c : Int, c = pieceE x (ps.take k) n := ⟨_, rfl⟩
            rw [← hc] at hz KG ⊢
            have hne2 : (c != 0) = true := by simpa using hz
            clear hz hc
            go_wp2_with fail
            go_ret
            exact ⟨ret_i64 KG.out, HB.out⟩
        · have KG : Hid ((0 : Int) = piecesE ps) := Lib.hid (by rw [hgo.out, show n - k = 0 by omega]; rfl)
          go_wp2_with fail
          go_ret
          exact ⟨ret_i64 KG.out, hbel.out⟩
end Go.Proofs.YtdhhdkbnlddnbaaGreatDoor

set_option maxRecDepth 100000
namespace Go.Proofs.YtdhhdkbnlddnbaaGreatDoor
open Go.ChangeShapes Go.WideShapes Go.ChangeAt Go.RowKit

/-- The cells of a variable that holds rules. -/
def BoxR (W : World) (b : Nat) (r : RulesD) (vp vs ve : Value) : Prop :=
  W.cell? ⟨b, 0, none⟩ = some (.string r.name) ∧ W.cell? ⟨b, 1, none⟩ = some (.int .i64 r.width) ∧ W.cell? ⟨b, 2, none⟩ = some (.int .i64 r.height) ∧ W.cell? ⟨b, 3, none⟩ = some vp ∧ W.cell? ⟨b, 4, none⟩ = some vs ∧
  W.cell? ⟨b, 5, none⟩ = some (.bool r.falls) ∧ W.cell? ⟨b, 6, none⟩ = some (.bool r.keeps) ∧ W.cell? ⟨b, 7, none⟩ = some ve ∧ W.cell? ⟨b, 8, none⟩ = some (.int .i64 r.blocked) ∧ W.cell? ⟨b, 9, none⟩ = some (.int .i64 r.quiet) ∧ W.cell? ⟨b, 10, none⟩ = some (.int .i64 r.rep)
theorem BoxR.below {W W' : World} {b : Nat} {r : RulesD} {vp vs ve : Value} (h : BoxR W b r vp vs ve) {n : Nat} (hb : Below n W W') (hn : W.heap.size ≤ n) : BoxR W' b r vp vs ve := by
  obtain ⟨h0, h1, h2, h3, h4, h5, h6, h7, h8, h9, h10⟩ := h
  exact ⟨cell_keeps hb hn h0, cell_keeps hb hn h1, cell_keeps hb hn h2, cell_keeps hb hn h3, cell_keeps hb hn h4, cell_keeps hb hn h5, cell_keeps hb hn h6, cell_keeps hb hn h7, cell_keeps hb hn h8, cell_keeps hb hn h9, cell_keeps hb hn h10⟩
def RulesCells (r : RulesD) (vp vs ve : Value) : Array Value :=
  #[.string r.name, .int .i64 r.width, .int .i64 r.height, vp, vs, .bool r.falls, .bool r.keeps, ve, .int .i64 r.blocked, .int .i64 r.quiet, .int .i64 r.rep]
theorem boxR_new (w : World) (r : RulesD) (vp vs ve : Value) (t : TypeId) : BoxR (w.alloc (.cells (RulesCells r vp vs ve) t)) w.heap.size r vp vs ve := by
  unfold BoxR
  refine ⟨?_, ?_, ?_, ?_, ?_, ?_, ?_, ?_, ?_, ?_, ?_⟩ <;> (rw [World.cell?_alloc_at (hn := rfl)]; rfl)

/-! ### The cells at first -/
theorem all1Int_any (x : Int) (b rb : Addr) (p : Bool) (w : World) (hb : w.cell? b = some (.func (.func 93) #[] #[.pointer (some rb)]))
    (hp : Calls Tryz.prog 93 #[.int .i64 x, .pointer (some rb)] w (BelPost (.bool p) w)) :
    Calls Tryz.prog 111 #[.int .i64 x, .pointer (some b)] w (BelPost (.bool (!p)) w) := by
  have HP : Hid _ := Lib.hid hp
  clear hp
  go_enter Tryz.func111, Tryz.ntmps111
  go_wp2_with fail
  go_at_call 93; refine HP.out.mono ?_; rintro e w2 ⟨rfl, hb2⟩
  have HB : Hid _ := Lib.hid hb2
  clear hb2
  go_wp2_with fail
  go_ret
  exact ⟨rfl, HB.out⟩
theorem allInts_any (xs : List Int) (p : Int → Bool) (v : Value) (rb : Addr) (w : World) (hv : IsSl IntAt 1 w v xs) (hl : xs.length ≤ 100)
    (hp : ∀ x W', Below w.heap.size w W' → Calls Tryz.prog 93 #[.int .i64 x, .pointer (some rb)] W' (BelPost (.bool (p x)) W')) :
    Calls Tryz.prog 92 #[v, .func (.func 93) #[] #[.pointer (some rb)]] w (BelPost (.bool (xs.all p)) w) := by
  have K : Hid ((!xs.any fun x => !p x) = xs.all p) := Lib.hid (by rw [List.all_eq_not_any_not])
  have HA : Hid (∀ W1, Below w.heap.size w W1 → IsSl IntAt 1 W1 v xs) := Lib.hid (fun W1 h => hv.below int_keeps h (Nat.le_refl _))
  have HP : Hid _ := Lib.hid hp
  clear hv hp
  go_enter Tryz.func92, Tryz.ntmps92
  go_wp2_with fail
  go_at_call 100
  refine (containsInts xs (fun x => !p x) v _ _ (HA.out _ ((Below.refl w.heap.size w).alloc (Nat.le_refl _) _)) hl (fun x W' _ hb => all1Int_any x _ rb (p x) W' (cell_keeps hb (Nat.le_refl _) (by simp)) (HP.out x W' (((Below.refl w.heap.size w).alloc (Nat.le_refl _) _).trans (hb.mono (by simp)))))).mono ?_
  rintro e w2 ⟨rfl, hb2⟩
  have HB : Hid (Below w.heap.size w w2) := Lib.hid (((Below.refl _ _).alloc (Nat.le_refl _) _).trans (hb2.mono (by simp)))
  clear hb2
  go_wp2_with fail
  go_ret
  exact ⟨ret_bool K.out, HB.out⟩
theorem cellOk_any (x : Int) (b : Nat) (a : Option Addr) (n cap : Nat) (w : World) (hb : w.cell? ⟨b, 3, none⟩ = some (.slice a n cap)) (hn : n ≤ 6) :
    Calls Tryz.prog 93 #[.int .i64 x, .pointer (some ⟨b, 0, none⟩)] w (BelPost (.bool (inB x 0 (2 * (n : Int)))) w) := by
  go_enter Tryz.func93, Tryz.ntmps93
  go_wp2_with fail
  go_at_call 67; refine (turned (isWithin_any _ _ _ _)).mono ?_; rintro e w' ⟨rfl, rfl⟩
  go_wp2_with fail
  go_ret
  exact ⟨rfl, Below.refl _ _⟩
set_option maxHeartbeats 1000000 in
theorem checkStart_any (r : RulesD) (vp vs ve : Value) (w : World) (hr : IsRules w r vp vs ve) (hn : r.pieces.length ≤ 6) (hw : inB r.width 1 8 = true) (hh : inB r.height 1 8 = true) :
    Calls Tryz.prog 69 #[RulesV r vp vs ve] w (BelPost (.int .i64 (startE r)) w) := by
  obtain ⟨n, hnn⟩ : ∃ n : Nat, n = r.pieces.length := ⟨_, rfl⟩
  obtain ⟨m, hm⟩ : ∃ m : Nat, m = r.start.length := ⟨_, rfl⟩
  obtain ⟨ap, cp, rfl, _, _⟩ := hr.1.shape hnn
  obtain ⟨sa, cs, rfl, _, _⟩ := hr.2.1.shape hm
  obtain ⟨A, hA⟩ : ∃ A : Int, A = r.width * r.height := ⟨_, rfl⟩
  rw [inB_iff] at hw hh
  have hA1 : 1 ≤ A := by rw [hA]; have := Int.mul_le_mul hw.1 hh.1 (by omega) (by omega); simpa using this
  have hA2 : A ≤ 64 := by rw [hA]; have := Int.mul_le_mul hw.2 hh.2 (by omega) (by omega); simpa using this
  have HS : Hid _ := Lib.hid hr.2.1
  have HE : Hid (startE r = if (m : Int) ≠ A then 3 else if r.start.all (fun c => inB c 0 (2 * (n : Int))) then 0 else 4) := Lib.hid (by rw [startE, hA, hnn, hm])
  have HM : Hid _ := Lib.hid hm
  obtain ⟨hw1, hw2⟩ := hw
  obtain ⟨hh1, hh2⟩ := hh
  have hmul : r.width * r.height = A := hA.symm
  rw [← hnn] at hn
  have HBX : Hid _ := Lib.hid (boxR_new w r (.slice ap n cp) (.slice sa m cs) ve 26)
  unfold RulesCells at HBX
  unfold RulesV
  clear hA hnn hm hr
  by_cases hma : (m : Int) = A
  · have hne : ((m : Int) != A) = false := by simpa using hma
    have hmA : m ≤ 100 := by omega
    cases hb : r.start.all (fun c => inB c 0 (2 * (n : Int)))
    · have K : Hid ((4 : Int) = startE r) := Lib.hid (by rw [HE.out, hb, if_neg (by simpa using hma)]; rfl)
      have KB : Hid _ := Lib.hid hb
      clear HE hb hma
      go_enter Tryz.func69, Tryz.ntmps69
      go_wp2_with fail
      go_at_call 92
      refine (allInts_any r.start (fun c => inB c 0 (2 * (n : Int))) (.slice sa m cs) ⟨w.heap.size, 0, none⟩ _ (HS.out.below int_keeps ((Below.refl w.heap.size w).alloc (Nat.le_refl _) _) (Nat.le_refl _)) (by rw [← HM.out]; exact hmA) (fun x W' hb => cellOk_any x _ ap n cp W' (cell_keeps hb (Nat.le_refl _) HBX.out.2.2.2.1) hn)).mono ?_
      rintro e w2 ⟨rfl, hb2⟩
      have HB : Hid (Below w.heap.size w w2) := Lib.hid (((Below.refl _ _).alloc (Nat.le_refl _) _).trans (hb2.mono (by simp)))
      clear hb2
      rw [KB.out]
      go_wp2_with fail
      go_ret
      exact ⟨ret_i64 K.out, HB.out⟩
    · have K : Hid ((0 : Int) = startE r) := Lib.hid (by rw [HE.out, hb, if_neg (by simpa using hma)]; rfl)
      have KB : Hid _ := Lib.hid hb
      clear HE hb hma
      go_enter Tryz.func69, Tryz.ntmps69
      go_wp2_with fail
      go_at_call 92
      refine (allInts_any r.start (fun c => inB c 0 (2 * (n : Int))) (.slice sa m cs) ⟨w.heap.size, 0, none⟩ _ (HS.out.below int_keeps ((Below.refl w.heap.size w).alloc (Nat.le_refl _) _) (Nat.le_refl _)) (by rw [← HM.out]; exact hmA) (fun x W' hb => cellOk_any x _ ap n cp W' (cell_keeps hb (Nat.le_refl _) HBX.out.2.2.2.1) hn)).mono ?_
      rintro e w2 ⟨rfl, hb2⟩
      have HB : Hid (Below w.heap.size w w2) := Lib.hid (((Below.refl _ _).alloc (Nat.le_refl _) _).trans (hb2.mono (by simp)))
      clear hb2
      rw [KB.out]
      go_wp2_with fail
      go_ret
      exact ⟨ret_i64 K.out, HB.out⟩
  · have hne : ((m : Int) != A) = true := by simpa using hma
    have K : Hid ((3 : Int) = startE r) := Lib.hid (by rw [HE.out, if_pos hma])
    clear HE hma
    go_enter Tryz.func69, Tryz.ntmps69
    go_wp2_with fail
    go_ret
    exact ⟨ret_i64 K.out, (Below.refl _ _).alloc (Nat.le_refl _) _⟩
end Go.Proofs.YtdhhdkbnlddnbaaGreatDoor

set_option maxRecDepth 100000
namespace Go.Proofs.YtdhhdkbnlddnbaaGreatDoor
open Go.ChangeShapes Go.WideShapes Go.ChangeAt Go.RowKit

theorem endE_line (pc ct : Int) (ls : Bool) (n : Nat) : endE ⟨0, pc, ct, ls⟩ n = if inB ct 1 64 && decide (pc = 0) then 0 else 4 := by simp [endE, inB]
theorem endE_reach (pc ct : Int) (ls : Bool) (n : Nat) : endE ⟨1, pc, ct, ls⟩ n = if decide (ct = 0) && inB pc 0 ((n : Int) - 1) then 0 else 4 := by simp [endE, inB]
theorem endE_take (pc ct : Int) (ls : Bool) (n : Nat) : endE ⟨2, pc, ct, ls⟩ n = if inB ct 1 64 && inB pc 0 ((n : Int) - 1) then 0 else 4 := by simp [endE, inB]
theorem endE_none (kd pc ct : Int) (ls : Bool) (n : Nat) (h : inB kd 0 2 = false) : endE ⟨kd, pc, ct, ls⟩ n = 1 := by simp [endE, h]
set_option maxHeartbeats 2000000 in
theorem checkEnd_any (x : EndD) (n : Nat) (w : World) (hn : n ≤ 6) :
    Calls Tryz.prog 94 #[.agg #[.int .i64 x.kind, .int .i64 x.piece, .int .i64 x.count, .bool x.loses], .int .i64 (n : Int)] w (BelPost (.int .i64 (endE x n)) w) := by
  obtain ⟨kd, pc, ct, ls⟩ := x
  have hs1 : IntKind.i64.wrap ((n : Int) - 1) = (n : Int) - 1 := IntWalk.i64_in _ (by omega)
  by_cases k0 : kd = 0
  · subst k0
    have K : Hid _ := Lib.hid (endE_line pc ct ls n)
    go_enter Tryz.func94, Tryz.ntmps94
    go_wp2
    go_quiet ((go_at_call 67; exact Calls.quiet_of_same (isWithin_any _ _ _ _)))
    clear hs1
    go_wp2
    all_goals
      go_ret
      exact ⟨ret_i64 (by rw [K.out]; simp_all), below_drewN ((Below.refl _ _).alloc (Nat.le_refl _) _) _⟩
  · by_cases k1 : kd = 1
    · subst k1
      have K : Hid _ := Lib.hid (endE_reach pc ct ls n)
      clear k0
      go_enter Tryz.func94, Tryz.ntmps94
      go_wp2
      go_quiet ((go_at_call 67; exact Calls.quiet_of_same (isWithin_any _ _ _ _)))
      clear hs1
      go_wp2
      all_goals
        go_ret
        exact ⟨ret_i64 (by rw [K.out]; simp_all), below_drewN ((Below.refl _ _).alloc (Nat.le_refl _) _) _⟩
    · by_cases k2 : kd = 2
      · subst k2
        have K : Hid _ := Lib.hid (endE_take pc ct ls n)
        clear k0 k1
        go_enter Tryz.func94, Tryz.ntmps94
        go_wp2
        go_quiet ((go_at_call 67; exact Calls.quiet_of_same (isWithin_any _ _ _ _)))
        clear hs1
        go_wp2
        all_goals
          go_ret
          exact ⟨ret_i64 (by rw [K.out]; simp_all), below_drewN ((Below.refl _ _).alloc (Nat.le_refl _) _) _⟩
      · have K : Hid _ := Lib.hid (endE_none kd pc ct ls n (by rw [inB_no]; omega))
        have n0 : (kd == 0) = false := by simpa using k0
        have n1 : (kd == 1) = false := by simpa using k1
        have n2 : (kd == 2) = false := by simpa using k2
        clear k0 k1 k2
        go_enter Tryz.func94, Tryz.ntmps94
        go_wp2
        go_quiet ((go_at_call 67; exact Calls.quiet_of_same (isWithin_any _ _ _ _)))
        clear hs1
        go_wp2
        all_goals
          go_ret
          exact ⟨ret_i64 (by rw [K.out]), below_drewN ((Below.refl _ _).alloc (Nat.le_refl _) _) _⟩

theorem endsGo_step {es : List EndD} {k n : Nat} {x : EndD} (hx : es[k]? = some x) : endsGo (es.drop k) n = if endE x n = 0 then endsGo (es.drop (k + 1)) n else endE x n := by
  obtain ⟨h1, h2⟩ := List.getElem?_eq_some_iff.1 hx
  rw [List.drop_eq_getElem_cons h1, h2, endsGo]
set_option maxHeartbeats 2000000 in
theorem checkEnds_any (r : RulesD) (vp vs ve : Value) (w : World) (hr : IsRules w r vp vs ve) (hn : r.pieces.length ≤ 6) (hl : r.ends.length ≤ 9223372036854775807) :
    Calls Tryz.prog 70 #[RulesV r vp vs ve] w (BelPost (.int .i64 (endsE r)) w) := by
  obtain ⟨n, hnn⟩ : ∃ n : Nat, n = r.pieces.length := ⟨_, rfl⟩
  obtain ⟨l, hll⟩ : ∃ l : Nat, l = r.start.length := ⟨_, rfl⟩
  obtain ⟨m, hm⟩ : ∃ m : Nat, m = r.ends.length := ⟨_, rfl⟩
  obtain ⟨ap, cp, rfl, _, _⟩ := hr.1.shape hnn
  obtain ⟨sa, cs, rfl, _, _⟩ := hr.2.1.shape hll
  obtain ⟨ea, ce, rfl, _, hcell⟩ := hr.2.2.shape hm
  have HBX : Hid _ := Lib.hid (boxR_new w r (.slice ap n cp) (.slice sa l cs) (.slice ea m ce) 26)
  unfold RulesCells at HBX
  unfold RulesV
  rw [← hnn] at hn
  rw [← hm] at hl
  by_cases h6 : 6 < m
  · have K : Hid ((2 : Int) = endsE r) := Lib.hid (by rw [endsE, ← hm, if_pos h6])
    clear hr hnn hm hcell hll
    go_enter Tryz.func70, Tryz.ntmps70
    go_wp2_with fail
    go_ret
    exact ⟨ret_i64 K.out, (Below.refl _ _).alloc (Nat.le_refl _) _⟩
  · have KE : Hid (endsE r = endsGo (r.ends.drop 0) n) := Lib.hid (by rw [endsE, ← hm, if_neg h6, ← hnn]; rfl)
    have HC : Hid _ := Lib.hid hcell
    have HM : Hid _ := Lib.hid hm
    have HB0 : Hid (Below w.heap.size w (w.alloc (.cells #[.string r.name, .int .i64 r.width, .int .i64 r.height, .slice ap n cp, .slice sa l cs, .bool r.falls, .bool r.keeps, .slice ea m ce, .int .i64 r.blocked, .int .i64 r.quiet, .int .i64 r.rep] 26))) := Lib.hid ((Below.refl _ _).alloc (Nat.le_refl _) _)
    clear hr hnn hm hcell hl hll
    go_enter Tryz.func70, Tryz.ntmps70
    go_wp2_with fail
    go_loopw [4, 5, 13] (fun _ _ i wr => ∃ k : Nat, k ≤ m ∧ i = .int .i64 (k : Int) ∧ Hid (endsE r = endsGo (r.ends.drop k) n) ∧ Hid (BoxR wr w.heap.size r (.slice ap n cp) (.slice sa l cs) (.slice ea m ce)) ∧ Hid (Below w.heap.size w wr)) (fun _ _ i _ => m - (intOf i).toNat)
    case atStart => exact ⟨0, by omega, rfl, KE, HBX, HB0⟩
    case round =>
      clear KE HBX HB0
      obtain ⟨k, hk, rfl, hgo, hbx, hbel⟩ := hrel
      by_cases hlt : k < m
      · obtain ⟨g, off, x, rfl, hx, hq⟩ := HC.out k hlt
        obtain ⟨c0, c1, c2, c3⟩ := end_keeps _ _ _ _ _ _ hbel.out (Nat.le_refl _) hq
        have HX : Hid _ := Lib.hid hx
        have hbx2 := BoxR.below hbx.out ((Below.refl wr.heap.size wr).alloc (Nat.le_refl _) (.cells #[.int .i64 x.kind, .int .i64 x.piece, .int .i64 x.count, .bool x.loses] 62)) (Nat.le_refl _)
        have b3 := hbx2.2.2.2.1
        clear hq hx HC hbx2
        go_wp2_with fail
        go_at_call 94; refine (checkEnd_any x n _ hn).mono ?_; rintro e w2 ⟨rfl, hb2⟩
        simp only [World.size_alloc] at hb2
        have hb3 : Below wr.heap.size wr w2 := ((Below.refl wr.heap.size wr).alloc (Nat.le_refl _) _).trans (hb2.mono (by omega))
        have HBX : Hid (BoxR w2 w.heap.size r (.slice ap n cp) (.slice sa l cs) (.slice (some ⟨g, off, none⟩) m ce)) := Lib.hid (BoxR.below hbx.out hb3 (Nat.le_refl _))
        have HB : Hid (Below w.heap.size w w2) := Lib.hid (hbel.out.trans (hb3.mono hbel.out.size))
        clear hb2 hb3 b3
        by_cases hz : endE x n = 0
        · have KG : Hid (endsE r = endsGo (r.ends.drop (k + 1)) n) := Lib.hid (by rw [hgo.out, endsGo_step HX.out, if_pos hz])
          rw [hz]
          clear hz
          go_wp2_with fail
          go_roundw
          case rel => exact ⟨k + 1, by omega, by go_num, KG, HBX, HB⟩
          case measure => simp [intOf]; omega
        · have KG : Hid (endE x n = endsE r) := Lib.hid (by rw [hgo.out, endsGo_step HX.out, if_neg hz])
          obtain ⟨c, hc⟩ : ∃ c : Int, c = endE x n := ⟨_, rfl⟩
          rw [← hc] at hz KG ⊢
          have hne2 : (c != 0) = true := by simpa using hz
          clear hz hc
          go_wp2_with fail
          go_ret
          exact ⟨ret_i64 KG.out, HB.out⟩
      · have KG : Hid ((0 : Int) = endsE r) := Lib.hid (by rw [hgo.out, List.drop_eq_nil_of_le (by have := HM.out; omega)]; rfl)
        go_wp2_with fail
        go_ret
        exact ⟨ret_i64 KG.out, hbel.out⟩
set_option maxHeartbeats 1000000 in
theorem checkOther_any (r : RulesD) (vp vs ve : Value) (w : World) :
    Calls Tryz.prog 71 #[RulesV r vp vs ve] w (BelPost (.int .i64 (otherE r)) w) := by
  have K : Hid (otherE r = if inB r.blocked 0 2 && (inB r.quiet 0 200 && (decide (r.rep = 0) || inB r.rep 2 5)) then 0 else 4) := Lib.hid rfl
  unfold RulesV
  by_cases h0 : r.rep = 0
  · rw [h0] at K ⊢
    clear h0
    go_enter Tryz.func71, Tryz.ntmps71
    go_wp2_with (go_at_call 67; refine (turned (isWithin_any _ _ _ _)).mono ?_; rintro e w' ⟨rfl, rfl⟩)
    all_goals
      go_ret
      exact ⟨ret_i64 (by rw [K.out]; simp_all), (Below.refl _ _).alloc (Nat.le_refl _) _⟩
  · have hne : (r.rep == 0) = false := by simpa using h0
    have HN : Hid _ := Lib.hid h0
    clear h0
    go_enter Tryz.func71, Tryz.ntmps71
    go_wp2_with (go_at_call 67; refine (turned (isWithin_any _ _ _ _)).mono ?_; rintro e w' ⟨rfl, rfl⟩)
    all_goals
      go_ret
      exact ⟨ret_i64 (by rw [K.out]; have := HN.out; simp_all), (Below.refl _ _).alloc (Nat.le_refl _) _⟩
end Go.Proofs.YtdhhdkbnlddnbaaGreatDoor

namespace Go.Proofs.YtdhhdkbnlddnbaaGreatDoor
open Go.ChangeShapes Go.WideShapes Go.ChangeAt Go.RowKit

theorem nb_at (s : ByteArray) (k : Nat) (h : k < s.size) : nb s.data.toList k = ((s[k]).toNat : Int) := by
  have h2 : k < s.data.toList.length := by simpa using h
  simp only [nb]
  rw [List.getElem?_eq_getElem h2]
  rfl
theorem size_list (s : ByteArray) : s.data.toList.length = s.size := by rw [Array.length_toList]; rfl
set_option maxHeartbeats 1000000 in
theorem name_any (s : ByteArray) (w : World) (hs : s.size ≤ maxLen) :
    Calls Tryz.prog 66 #[.string s] w fun e w' => e = .returned (.bool (nameB s.data.toList)) ∧ w = w' := by
  unfold maxLen at hs
  by_cases h0 : s.size < 1
  · have K : Hid (false = nameB s.data.toList) := Lib.hid (nameB_size (by rw [inB_no, size_list]; omega)).symm
    go_enter Tryz.func66, Tryz.ntmps66
    go_wp2
    go_ret
    exact ⟨ret_bool K.out, rfl⟩
  · by_cases h8 : 8 < s.size
    · have K : Hid (false = nameB s.data.toList) := Lib.hid (nameB_size (by rw [inB_no, size_list]; omega)).symm
      go_enter Tryz.func66, Tryz.ntmps66
      go_wp2
      go_ret
      exact ⟨ret_bool K.out, rfl⟩
    · have hp : 0 < s.size := by omega
      have hn0 := nb_at s 0 hp
      cases hc : capB (nb s.data.toList 0)
      · have K : Hid (false = nameB s.data.toList) := Lib.hid (nameB_first hc).symm
        rw [hn0] at hc
        have HC : Hid _ := Lib.hid hc
        clear hc hn0
        go_enter Tryz.func66, Tryz.ntmps66
        go_wp2_with fail
        go_at_call 89; refine (turned (isCapital_any _ _)).mono ?_; rintro e w' ⟨rfl, rfl⟩
        rw [HC.out]
        go_wp2
        go_ret
        exact ⟨ret_bool K.out, rfl⟩
      · have HN : Hid (capB (nb s.data.toList 0) = true ∧ inB s.data.toList.length 1 8 = true) := Lib.hid ⟨hc, by rw [inB_iff, size_list]; omega⟩
        rw [hn0] at hc
        have HC : Hid _ := Lib.hid hc
        clear hc hn0
        go_enter Tryz.func66, Tryz.ntmps66
        go_wp2_with fail
        go_at_call 89; refine (turned (isCapital_any _ _)).mono ?_; rintro e w' ⟨rfl, rfl⟩
        rw [HC.out]
        go_wp2_with fail
        go_loop [3] (fun i => ∃ k : Nat, 1 ≤ k ∧ k ≤ s.size ∧ i = .int .i64 (k : Int) ∧ Hid (∀ j, j < k → (capB (nb s.data.toList j) || digB (nb s.data.toList j)) = true)) (fun i => s.size - (intOf i).toNat)
        case atStart => exact ⟨1, by omega, by omega, rfl, Lib.hid (fun j hj => by
          have e : j = 0 := by omega
          rw [e, HN.out.1]; rfl)⟩
        case round =>
          obtain ⟨k, hk1, hk, rfl, hall⟩ := hrel
          by_cases hlt : k < s.size
          · have hn := nb_at s k hlt
            cases hc : capB (nb s.data.toList k)
            · cases hd : digB (nb s.data.toList k)
              · have K : Hid (false = nameB s.data.toList) := Lib.hid (nameB_bad (k := k) (by rw [size_list]; exact hlt) hc hd).symm
                rw [hn] at hc hd
                have HC : Hid _ := Lib.hid hc
                have HD : Hid _ := Lib.hid hd
                clear hc hd hn
                go_wp2_with fail
                go_at_call 89; refine (turned (isCapital_any _ _)).mono ?_; rintro e w' ⟨rfl, rfl⟩
                rw [HC.out]
                go_wp2_with fail
                go_at_call 90; refine (turned (isDigit_any _ _)).mono ?_; rintro e w' ⟨rfl, rfl⟩
                rw [HD.out]
                go_wp2_with fail
                go_ret
                exact ⟨ret_bool K.out, rfl⟩
              · have K : Hid ((capB (nb s.data.toList k) || digB (nb s.data.toList k)) = true) := Lib.hid (by rw [hd]; simp)
                rw [hn] at hc hd
                have HC : Hid _ := Lib.hid hc
                have HD : Hid _ := Lib.hid hd
                clear hc hd hn
                go_wp2_with fail
                go_at_call 89; refine (turned (isCapital_any _ _)).mono ?_; rintro e w' ⟨rfl, rfl⟩
                rw [HC.out]
                go_wp2_with fail
                go_at_call 90; refine (turned (isDigit_any _ _)).mono ?_; rintro e w' ⟨rfl, rfl⟩
                rw [HD.out]
                go_wp2_with fail
                go_round
                case rel =>
                  refine ⟨k + 1, by omega, by omega, by go_num, Lib.hid (fun j hj => ?_)⟩
                  by_cases e : j = k
                  · rw [e]; exact K.out
                  · exact hall.out j (by omega)
                case measure => simp [intOf]; omega
            · have K : Hid ((capB (nb s.data.toList k) || digB (nb s.data.toList k)) = true) := Lib.hid (by rw [hc]; simp)
              rw [hn] at hc
              have HC : Hid _ := Lib.hid hc
              clear hc hn
              go_wp2_with fail
              go_at_call 89; refine (turned (isCapital_any _ _)).mono ?_; rintro e w' ⟨rfl, rfl⟩
              rw [HC.out]
              go_wp2_with fail
              go_round
              case rel =>
                refine ⟨k + 1, by omega, by omega, by go_num, Lib.hid (fun j hj => ?_)⟩
                by_cases e : j = k
                · rw [e]; exact K.out
                · exact hall.out j (by omega)
              case measure => simp [intOf]; omega
          · have K : Hid (true = nameB s.data.toList) := Lib.hid (nameB_good HN.out.2 HN.out.1 (fun j hj => hall.out j (by rw [size_list] at hj; omega))).symm
            go_wp2
            go_ret
            exact ⟨ret_bool K.out, rfl⟩
end Go.Proofs.YtdhhdkbnlddnbaaGreatDoor

set_option maxRecDepth 100000
namespace Go.Proofs.YtdhhdkbnlddnbaaGreatDoor
open Go.ChangeShapes Go.WideShapes Go.ChangeAt Go.RowKit

theorem IsSl.fit {α : Type} {q : World → Nat → Nat → α → Prop} {k : Nat} {W : World} {v : Value} {xs : List α} (h : IsSl q k W v xs) : xs.length ≤ 9223372036854775807 := by
  rcases h with ⟨rfl, _⟩ | ⟨g, off, cap, _, _, h3, h4, _⟩
  · simp
  · unfold maxLen at h4; omega
theorem waysFit_of {W : World} {v : Value} {ps : List PieceD} (h : IsSl PieceAt 4 W v ps) : WaysFit ps := by
  intro x hx
  rcases h with ⟨rfl, _⟩ | ⟨g, off, cap, _, _, _, _, hc⟩
  · cases hx
  · obtain ⟨i, hi⟩ := List.getElem?_of_mem hx
    obtain ⟨u, _, _, _, _, hu⟩ := hc i x hi
    exact hu.fit
theorem piecesE_ok {ps : List PieceD} (h : piecesE ps = 0) : ps ≠ [] ∧ ps.length ≤ 6 := by
  unfold piecesE at h
  split at h
  · cases h
  · split at h
    · cases h
    · rename_i h1 h2
      exact ⟨fun e => h1 (by rw [e]; rfl), by omega⟩
/-- What Check reads, and the room of a name. -/
def RulesIn (W : World) (r : RulesD) (vp vs ve : Value) : Prop := IsRules W r vp vs ve ∧ r.name.size ≤ maxLen
theorem RulesIn.below {W W' : World} {r : RulesD} {vp vs ve : Value} (h : RulesIn W r vp vs ve) {n : Nat} (hb : Below n W W') (hn : W.heap.size ≤ n) : RulesIn W' r vp vs ve := ⟨h.1.below hb hn, h.2⟩
set_option maxHeartbeats 4000000 in
theorem check_any (r : RulesD) (vp vs ve : Value) (w : World) (hr : RulesIn w r vp vs ve) :
    Calls Tryz.prog 48 #[RulesV r vp vs ve] w (BelPost (.int .i64 (rulesE r)) w) := by
  obtain ⟨n, hnn⟩ : ∃ n : Nat, n = r.pieces.length := ⟨_, rfl⟩
  obtain ⟨l, hll⟩ : ∃ l : Nat, l = r.start.length := ⟨_, rfl⟩
  obtain ⟨m, hm⟩ : ∃ m : Nat, m = r.ends.length := ⟨_, rfl⟩
  have HF : Hid _ := Lib.hid (waysFit_of hr.1.1)
  have HFP : Hid _ := Lib.hid hr.1.1.fit
  have HFE : Hid _ := Lib.hid hr.1.2.2.fit
  obtain ⟨ap, cp, rfl, _, _⟩ := hr.1.1.shape hnn
  obtain ⟨sa, cs, rfl, _, _⟩ := hr.1.2.1.shape hll
  obtain ⟨ea, ce, rfl, _, _⟩ := hr.1.2.2.shape hm
  have HR : Hid _ := Lib.hid hr.1
  have HNM : Hid _ := Lib.hid hr.2
  have HBX : Hid _ := Lib.hid (boxR_new w r (.slice ap n cp) (.slice sa l cs) (.slice ea m ce) 26)
  have HB0 : Hid (Below w.heap.size w (w.alloc (.cells #[.string r.name, .int .i64 r.width, .int .i64 r.height, .slice ap n cp, .slice sa l cs, .bool r.falls, .bool r.keeps, .slice ea m ce, .int .i64 r.blocked, .int .i64 r.quiet, .int .i64 r.rep] 26))) := Lib.hid ((Below.refl _ _).alloc (Nat.le_refl _) _)
  unfold RulesCells at HBX
  unfold RulesV
  clear hr hnn hll hm
  go_enter Tryz.func48, Tryz.ntmps48
  go_wp2_with fail
  go_at_call 66; refine (name_any r.name _ HNM.out).mono ?_; rintro e w' ⟨rfl, rfl⟩
  cases h1 : nameB r.name.data.toList
  · have K : Hid ((6 : Int) = rulesE r) := Lib.hid (by simp [rulesE, h1])
    clear h1
    go_wp2_with fail
    go_ret
    exact ⟨ret_i64 K.out, HB0.out⟩
  · have K1 : Hid _ := Lib.hid h1
    clear h1
    go_wp2_with fail
    go_at_call 67; refine (turned (isWithin_any _ _ _ _)).mono ?_; rintro e w' ⟨rfl, rfl⟩
    cases h2 : inB r.width 1 8
    · have K : Hid ((4 : Int) = rulesE r) := Lib.hid (by simp [rulesE, K1.out, h2])
      clear h2
      go_wp2_with fail
      go_ret
      exact ⟨ret_i64 K.out, HB0.out⟩
    · have K2 : Hid _ := Lib.hid h2
      clear h2
      go_wp2_with fail
      go_at_call 67; refine (turned (isWithin_any _ _ _ _)).mono ?_; rintro e w' ⟨rfl, rfl⟩
      cases h3 : inB r.height 1 8
      · have K : Hid ((4 : Int) = rulesE r) := Lib.hid (by simp [rulesE, K1.out, h3])
        clear h3
        go_wp2_with fail
        go_ret
        exact ⟨ret_i64 K.out, HB0.out⟩
      · have K3 : Hid _ := Lib.hid h3
        clear h3
        have K4 : Hid (rulesE r = if piecesE r.pieces ≠ 0 then piecesE r.pieces else if startE r ≠ 0 then startE r else if endsE r ≠ 0 then endsE r else otherE r) := Lib.hid (by rw [rulesE, K1.out, K2.out, K3.out]; rfl)
        clear K1
        go_wp2_with fail
        go_at_call 68; refine (checkPieces_any r.pieces _ _ (HR.out.below HB0.out (Nat.le_refl _)).1 HF.out HFP.out).mono ?_; rintro e w1 ⟨rfl, hb⟩
        have HB1 : Hid (Below w.heap.size w w1) := Lib.hid (HB0.out.trans (hb.mono HB0.out.size))
        have HX1 : Hid _ := Lib.hid (BoxR.below HBX.out hb (Nat.le_refl _))
        clear hb HBX
        by_cases hz : piecesE r.pieces = 0
        · have K5 : Hid (rulesE r = if startE r ≠ 0 then startE r else if endsE r ≠ 0 then endsE r else otherE r) := Lib.hid (by rw [K4.out, if_neg (by simpa using hz)])
          have KP : Hid _ := Lib.hid hz
          rw [hz]
          clear hz K4
          obtain ⟨b0, b1, b2, b3, b4, b5, b6, b7, b8, b9, b10⟩ := HX1.out
          go_wp2_with fail
          go_at_call 69; refine (checkStart_any r _ _ _ _ (HR.out.below HB1.out (Nat.le_refl _)) (piecesE_ok KP.out).2 K2.out K3.out).mono ?_; rintro e w2 ⟨rfl, hb⟩
          have HB2 : Hid (Below w.heap.size w w2) := Lib.hid (HB1.out.trans (hb.mono HB1.out.size))
          have HX2 : Hid _ := Lib.hid (BoxR.below HX1.out hb (Nat.le_refl _))
          clear hb HX1 b0 b1 b2 b3 b4 b5 b6 b7 b8 b9 b10
          by_cases hz : startE r = 0
          · have K6 : Hid (rulesE r = if endsE r ≠ 0 then endsE r else otherE r) := Lib.hid (by rw [K5.out, if_neg (by simpa using hz)])
            rw [hz]
            clear hz K5
            obtain ⟨b0, b1, b2, b3, b4, b5, b6, b7, b8, b9, b10⟩ := HX2.out
            go_wp2_with fail
            go_at_call 70; refine (checkEnds_any r _ _ _ _ (HR.out.below HB2.out (Nat.le_refl _)) (piecesE_ok KP.out).2 HFE.out).mono ?_; rintro e w3 ⟨rfl, hb⟩
            have HB3 : Hid (Below w.heap.size w w3) := Lib.hid (HB2.out.trans (hb.mono HB2.out.size))
            have HX3 : Hid _ := Lib.hid (BoxR.below HX2.out hb (Nat.le_refl _))
            clear hb HX2 b0 b1 b2 b3 b4 b5 b6 b7 b8 b9 b10
            by_cases hz : endsE r = 0
            · have K7 : Hid (otherE r = rulesE r) := Lib.hid (by rw [K6.out, if_neg (by simpa using hz)])
              rw [hz]
              clear hz K6
              obtain ⟨b0, b1, b2, b3, b4, b5, b6, b7, b8, b9, b10⟩ := HX3.out
              go_wp2_with fail
              go_at_call 71; refine (checkOther_any r _ _ _ _).mono ?_; rintro e w4 ⟨rfl, hb⟩
              have HB4 : Hid (Below w.heap.size w w4) := Lib.hid (HB3.out.trans (hb.mono HB3.out.size))
              clear hb HX3 b0 b1 b2 b3 b4 b5 b6 b7 b8 b9 b10
              go_wp2_with fail
              go_ret
              exact ⟨ret_i64 K7.out, HB4.out⟩
            · have KG : Hid (endsE r = rulesE r) := Lib.hid (by rw [K6.out, if_pos hz])
              obtain ⟨c, hc⟩ : ∃ c : Int, c = endsE r := ⟨_, rfl⟩
              rw [← hc] at hz KG ⊢
              have hne2 : (c != 0) = true := by simpa using hz
              clear hz hc
              go_wp2_with fail
              go_ret
              exact ⟨ret_i64 KG.out, HB3.out⟩
          · have KG : Hid (startE r = rulesE r) := Lib.hid (by rw [K5.out, if_pos hz])
            obtain ⟨c, hc⟩ : ∃ c : Int, c = startE r := ⟨_, rfl⟩
            rw [← hc] at hz KG ⊢
            have hne2 : (c != 0) = true := by simpa using hz
            clear hz hc
            go_wp2_with fail
            go_ret
            exact ⟨ret_i64 KG.out, HB2.out⟩
        · have KG : Hid (piecesE r.pieces = rulesE r) := Lib.hid (by rw [K4.out, if_pos hz])
          obtain ⟨c, hc⟩ : ∃ c : Int, c = piecesE r.pieces := ⟨_, rfl⟩
          rw [← hc] at hz KG ⊢
          have hne2 : (c != 0) = true := by simpa using hz
          clear hz hc
          go_wp2_with fail
          go_ret
          exact ⟨ret_i64 KG.out, HB1.out⟩
end Go.Proofs.YtdhhdkbnlddnbaaGreatDoor

namespace Go.Proofs.YtdhhdkbnlddnbaaGreatDoor
open Go.ChangeShapes Go.WideShapes Go.ChangeAt Go.RowKit

theorem rulesE_ok {r : RulesD} (h : rulesE r = 0) : nameB r.name.data.toList = true ∧ inB r.width 1 8 = true ∧ inB r.height 1 8 = true ∧ piecesE r.pieces = 0 ∧ startE r = 0 ∧ endsE r = 0 ∧ otherE r = 0 := by
  unfold rulesE at h
  cases h1 : nameB r.name.data.toList
  · rw [h1] at h; simp at h
  · rw [h1, if_neg (by simp)] at h
    cases h2 : (inB r.width 1 8 && inB r.height 1 8)
    · rw [h2] at h; simp at h
    · rw [h2, if_neg (by simp)] at h
      rw [Bool.and_eq_true] at h2
      by_cases h3 : piecesE r.pieces = 0
      · rw [if_neg (by simpa using h3)] at h
        by_cases h4 : startE r = 0
        · rw [if_neg (by simpa using h4)] at h
          by_cases h5 : endsE r = 0
          · rw [if_neg (by simpa using h5)] at h
            exact ⟨rfl, h2.1, h2.2, h3, h4, h5, h⟩
          · rw [if_pos h5] at h; exact absurd h h5
        · rw [if_pos h4] at h; exact absurd h h4
      · rw [if_pos h3] at h; exact absurd h h3
theorem startE_ok {r : RulesD} (h : startE r = 0) : (r.start.length : Int) = r.width * r.height ∧ r.start.all (fun c => inB c 0 (2 * r.pieces.length)) = true := by
  unfold startE at h
  split at h
  · cases h
  · rename_i h1
    split at h
    · rename_i h2; exact ⟨by simpa using h1, h2⟩
    · cases h
end Go.Proofs.YtdhhdkbnlddnbaaGreatDoor
