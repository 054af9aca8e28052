/- ruletext's parser: what is built beside it, in blocks of its own. -/
import Derived.Test.YtjfkecadfnepjaaGreatDoorParD
import Derived.Deep.AppendLies
import Derived.Deep.DrawnRows
import Derived.OwnWalk
set_option maxRecDepth 100000
namespace Go.Proofs.YtjfkecadfnepjaaGreatDoor
open Go.ChangeShapes Go.WideShapes Go.ChangeAt Go.RowKit

/-- Blocks of a type are as they were. -/
def KT (t : TypeId) (W W' : World) : Prop := ∀ (k : Nat) cs fr, W.heap[k]? = some (.cells cs t fr) → W'.heap[k]? = some (.cells cs t fr)
theorem KT.refl (t : TypeId) (W : World) : KT t W W := fun _ _ _ h => h
theorem KT.trans {t : TypeId} {W W1 W2 : World} (h : KT t W W1) (k : KT t W1 W2) : KT t W W2 := fun i cs fr hc => k i cs fr (h i cs fr hc)
theorem KT.of {t : TypeId} {W W' : World} (h : Below W.heap.size W W') : KT t W W' := fun k _ _ hc => (h.block k (Array.getElem?_eq_some_iff.1 hc).1).trans hc
theorem Fr.kt {B b : Nat} {W W' : World} (h : Fr B b W W') {v : Value} {bad : Bool} (hb : ParBox W b v bad) {t : TypeId} (ht : t ≠ 64) : KT t W W' := by
  intro k cs fr hc
  refine h.heap (fun e => ht ?_) hc
  subst e
  unfold ParBox at hb
  rw [hb] at hc
  simp only [Option.some.injEq, Obj.cells.injEq] at hc
  exact hc.2.1.symm
theorem PAt.kt {B b : Nat} {W W' : World} {s : PS} (hp : PAt W b s) (h : Fr B b W W') {t : TypeId} (ht : t ≠ 64) : KT t W W' := by
  obtain ⟨a, c, h1, _⟩ := hp
  exact h.kt h1 ht
theorem own_block {W : World} {base : Nat} {e : TypeId} {size n : Nat} {v : Value} {xs : List Value} (h : W.ownsRow base e size v n xs) : ∀ k, v.ownBlock = some k → base ≤ k ∧ k < W.heap.size ∧ ∃ cs fr, W.heap[k]? = some (.cells cs e fr) := by
  intro k hk
  rcases h.2 with ⟨rfl, _⟩ | ⟨g, cap, cur, rfl, hb, hg, _⟩
  · cases hk
  · obtain rfl : g = k := by simpa [Value.ownBlock] using hk
    exact ⟨hb, (Array.getElem?_eq_some_iff.1 hg).1, _, _, hg⟩
theorem KT.grown {t e : TypeId} {base size n : Nat} {v : Value} {xs : List Value} {W W' : World} (hown : W.ownsRow base e size v n xs) (hg : W.grownBy W' v.ownBlock) (ht : t ≠ e) : KT t W W' := by
  intro k cs fr hc
  refine (hg.block k (Array.getElem?_eq_some_iff.1 hc).1 (fun h => ?_)).trans hc
  obtain ⟨_, _, cs2, fr2, h2⟩ := own_block hown k h.symm
  rw [hc] at h2
  simp only [Option.some.injEq, Obj.cells.injEq] at h2
  exact ht h2.2.1
theorem own_fr {B b : Nat} {W W' : World} {base : Nat} {e : TypeId} {size n : Nat} {v : Value} {xs : List Value} (h : W.ownsRow base e size v n xs) (hf : Fr B b W W') (hb : b < base) : W'.ownsRow base e size v n xs := by
  refine ⟨h.1, ?_⟩
  rcases h.2 with hn | ⟨g, cap, cur, rfl, h1, h2, rest⟩
  · exact .inl hn
  · exact .inr ⟨g, cap, cur, rfl, h1, hf.heap (by omega) h2, rest⟩
theorem own_kt {W W' : World} {base : Nat} {e : TypeId} {size n : Nat} {v : Value} {xs : List Value} (h : W.ownsRow base e size v n xs) (hf : KT e W W') : W'.ownsRow base e size v n xs := by
  refine ⟨h.1, ?_⟩
  rcases h.2 with hn | ⟨g, cap, cur, rfl, h1, h2, rest⟩
  · exact .inl hn
  · exact .inr ⟨g, cap, cur, rfl, h1, hf _ _ _ h2, rest⟩
theorem own_slice {W : World} {base : Nat} {e : TypeId} {size n : Nat} {v : Value} {xs : List Value} (h : W.ownsRow base e size v n xs) : ∃ a cap, v = .slice a n cap := by
  rcases h.2 with ⟨rfl, rfl⟩ | ⟨g, cap, cur, rfl, _⟩
  · exact ⟨_, _, rfl⟩
  · exact ⟨_, _, rfl⟩
theorem Fr.grown {B b : Nat} {w W W' : World} {row : Option Nat} (h : Fr B b w W) (hg : W.grownBy W' row) (hrow : ∀ k, row = some k → w.heap.size ≤ k) (hB : B ≤ w.heap.size) : Fr B b w W' := by
  have hs := h.1.size
  refine ⟨⟨hg.os.trans h.1.os, hg.tape.trans h.1.tape, hg.output.trans h.1.output, Nat.le_trans hs hg.size, fun k hk => ?_⟩, fun k hk hb => ?_⟩
  · exact (hg.block k (by omega) (fun e => by have := hrow k e.symm; omega)).trans (h.1.block k hk)
  · exact (hg.block k (by omega) (fun e => by have := hrow k e.symm; omega)).trans (h.2 k hk hb)
theorem PAt.grown {b : Nat} {W W' : World} {s : PS} {row : Option Nat} (h : PAt W b s) (hg : W.grownBy W' row) (hrow : ∀ k, row = some k → b < k) : PAt W' b s := by
  have hlt := h.lt
  obtain ⟨a, c, h1, h2, h3, h4, h5⟩ := h
  have key : ∀ k, k ≤ b → W'.heap[k]? = W.heap[k]? := fun k hk => hg.block k (by omega) (fun e => by have := hrow k e.symm; omega)
  refine ⟨a, c, (key b (Nat.le_refl _)).trans h1, h2, h3, fun hn => ?_, h5⟩
  obtain ⟨g, o, e, hgb, ⟨cs, fr, ht⟩, hc⟩ := h4 hn
  exact ⟨g, o, e, hgb, ⟨cs, fr, (key g (by omega)).trans ht⟩, fun i x hx => (World.cell?_of_block (w := W) (key g (by omega))).trans (hc i x hx)⟩
/-- The state at W, and what has turned since w. -/
def StAt (B b : Nat) (w W : World) (s : PS) : Prop := PAt W b s ∧ Fr B b w W
theorem StAt.below {B b : Nat} {w W W' : World} {s : PS} (h : StAt B b w W s) (hb : Below W.heap.size W W') (hB : B ≤ b) : StAt B b w W' s :=
  ⟨h.1.below hb, h.2.trans (h.1.keepB hB hb).2⟩
theorem StAt.drew {B b : Nat} {w W : World} {s : PS} (h : StAt B b w W s) (hB : B ≤ b) : StAt B b w W.drew s := h.below (Below.drew (Below.refl _ _)) hB
theorem StAt.grown {B b : Nat} {w W W' : World} {s : PS} {row : Option Nat} (h : StAt B b w W s) (hg : W.grownBy W' row) (hrow : ∀ k, row = some k → w.heap.size ≤ k) (hB : B ≤ w.heap.size) (hb : b < w.heap.size) : StAt B b w W' s :=
  ⟨h.1.grown hg (fun k hk => by have := hrow k hk; omega), h.2.grown hg hrow hB⟩
theorem StAt.trans {B b : Nat} {w W W' : World} {s t : PS} (h : StAt B b w W s) (k : StAt B b W W' t) : StAt B b w W' t := ⟨k.1, h.2.trans k.2⟩
theorem StAt.refl {B b : Nat} {w : World} {s : PS} (h : PAt w b s) : StAt B b w w s := ⟨h, Fr.refl _ _ _⟩
theorem StAt.env {B b : Nat} {w W : World} {s : PS} (h : StAt B b w W s) (hE : Env B w) : Env B W := hE.below h.2.1
def StP (B b : Nat) (w : World) (v : Value) (s : PS) (e : Ending) (w' : World) : Prop := e = .returned v ∧ StAt B b w w' s
theorem par_st {B b : Nat} {w W : World} {s t : PS} {v : Value} {f : FuncId} {args : Array Value} (h : StAt B b w W s) (hc : Calls Tryz.prog f args W (ParPost B b v t W)) : Calls Tryz.prog f args W (StP B b w v t) :=
  hc.mono fun _ _ ⟨h1, h2, h3⟩ => ⟨h1, h2, h.2.trans h3⟩

/-! ### Slices of structs, typed -/
def TyBlk (W : World) (g : Nat) (t : TypeId) : Prop := ∃ cs fr, W.heap[g]? = some (.cells cs t fr)
theorem TyBlk.kt {t : TypeId} {W W' : World} {g : Nat} (h : TyBlk W g t) (k : KT t W W') : TyBlk W' g t := by
  obtain ⟨cs, fr, h⟩ := h
  exact ⟨cs, fr, k _ _ _ h⟩
theorem TyBlk.cell {t : TypeId} {W W' : World} {g o : Nat} {v : Value} (h : TyBlk W g t) (k : KT t W W') (hc : W.cell? ⟨g, o, none⟩ = some v) : W'.cell? ⟨g, o, none⟩ = some v := by
  obtain ⟨cs, fr, h⟩ := h
  exact (World.cell?_of_block (w := W) ((k _ _ _ h).trans h.symm)).trans hc
def WayT (W : World) (g o : Nat) (x : WayD) : Prop := TyBlk W g 81 ∧ WayAt W g o x
def EndT (W : World) (g o : Nat) (x : EndD) : Prop := TyBlk W g 60 ∧ EndAt W g o x
def IntT (W : World) (g o : Nat) (x : Int) : Prop := TyBlk W g 3 ∧ IntAt W g o x
theorem isSl_map {α : Type} {q q' : World → Nat → Nat → α → Prop} {k : Nat} {W W' : World} {v : Value} {xs : List α} (h : IsSl q k W v xs) (hq : ∀ g o x, q W g o x → q' W' g o x) : IsSl q' k W' v xs := by
  rcases h with h | ⟨g, off, cap, e1, e2, e3, e4, hc⟩
  · exact .inl h
  · exact .inr ⟨g, off, cap, e1, e2, e3, e4, fun i x hx => hq _ _ _ (hc i x hx)⟩
theorem WayT.kt {W W' : World} {g o : Nat} {x : WayD} (h : WayT W g o x) (k : KT 81 W W') : WayT W' g o x :=
  ⟨h.1.kt k, h.1.cell k h.2.1, h.1.cell k h.2.2.1, h.1.cell k h.2.2.2.1, h.1.cell k h.2.2.2.2⟩
theorem EndT.kt {W W' : World} {g o : Nat} {x : EndD} (h : EndT W g o x) (k : KT 60 W W') : EndT W' g o x :=
  ⟨h.1.kt k, h.1.cell k h.2.1, h.1.cell k h.2.2.1, h.1.cell k h.2.2.2.1, h.1.cell k h.2.2.2.2⟩
theorem IntT.kt {W W' : World} {g o : Nat} {x : Int} (h : IntT W g o x) (k : KT 3 W W') : IntT W' g o x := ⟨h.1.kt k, h.1.cell k h.2⟩
/-- A type of pieces whose ways are typed. -/
def PieceT (W : World) (g o : Nat) (x : PieceD) : Prop :=
  TyBlk W g 58 ∧ ∃ v, W.cell? ⟨g, o, none⟩ = some (.int .u8 x.letter) ∧ W.cell? ⟨g, o + 1, none⟩ = some (.int .i64 x.hand) ∧ W.cell? ⟨g, o + 2, none⟩ = some (.int .i64 x.promote) ∧ W.cell? ⟨g, o + 3, none⟩ = some v ∧ IsSl WayT 4 W v x.ways
theorem PieceT.kt {W W' : World} {g o : Nat} {x : PieceD} (h : PieceT W g o x) (k : KT 58 W W') (k2 : KT 81 W W') : PieceT W' g o x := by
  obtain ⟨h0, v, h1, h2, h3, h4, h5⟩ := h
  exact ⟨h0.kt k, v, h0.cell k h1, h0.cell k h2, h0.cell k h3, h0.cell k h4, isSl_map h5 fun _ _ _ h => h.kt k2⟩
theorem PieceT.plain {W : World} {g o : Nat} {x : PieceD} (h : PieceT W g o x) : PieceAt W g o x := by
  obtain ⟨_, v, h1, h2, h3, h4, h5⟩ := h
  exact ⟨v, h1, h2, h3, h4, isSl_map h5 fun _ _ _ h => h.2⟩
/-- The cells of a list, one element behind the other. -/
def cellsL {α : Type} (f : α → List Value) (l : List α) : List Value := (l.map f).flatten
theorem cellsL_len {α : Type} {f : α → List Value} {k : Nat} (hf : ∀ x, (f x).length = k) : ∀ l : List α, (cellsL f l).length = l.length * k
  | [] => by simp [cellsL]
  | x :: l => by
    have := cellsL_len hf l
    simp only [cellsL, List.map_cons, List.flatten_cons, List.length_append, List.length_cons, hf, Nat.succ_mul] at this ⊢
    omega
theorem cellsL_at {α : Type} {f : α → List Value} {k : Nat} (hf : ∀ x, (f x).length = k) : ∀ (l : List α) (i : Nat) (x : α), l[i]? = some x → ∀ j, j < k → (cellsL f l)[i * k + j]? = (f x)[j]?
  | [], i, x, h, _, _ => by simp at h
  | y :: l, 0, x, h, j, hj => by
    obtain rfl := Option.some.inj h
    simp only [cellsL, List.map_cons, List.flatten_cons, Nat.zero_mul, Nat.zero_add]
    rw [List.getElem?_append_left (by rw [hf]; exact hj)]
  | y :: l, i + 1, x, h, j, hj => by
    have := cellsL_at hf l i x (by simpa using h) j hj
    simp only [cellsL, List.map_cons, List.flatten_cons] at this ⊢
    rw [List.getElem?_append_right (by rw [hf, Nat.succ_mul]; omega), hf, Nat.succ_mul, show i * k + k + j - k = i * k + j by omega]
    exact this
theorem cellsL_snoc {α : Type} (f : α → List Value) (l : List α) (x : α) : cellsL f (l ++ [x]) = cellsL f l ++ f x := by simp [cellsL]
theorem own_isSl {α : Type} {q : World → Nat → Nat → α → Prop} {f : α → List Value} {k : Nat} (hf : ∀ x, (f x).length = k) {W : World} {base : Nat} {e : TypeId} {v : Value} {l : List α} (h : W.ownsRow base e k v l.length (cellsL f l))
    (hq : ∀ g o x, x ∈ l → TyBlk W g e → (∀ j u, (f x)[j]? = some u → W.cell? ⟨g, o + j, none⟩ = some u) → q W g o x) : IsSl q k W v l := by
  rcases h.2 with ⟨rfl, h0⟩ | ⟨g, cap, cur, rfl, hb, hg, hnc, hcm, hcs, htk⟩
  · exact .inl ⟨List.length_eq_zero_iff.1 h0, _, _, rfl⟩
  · by_cases hl : l = []
    · subst hl; exact .inl ⟨rfl, _, _, rfl⟩
    · refine .inr ⟨g, 0, cap, rfl, hl, hnc, hcm, fun i x hx => hq _ _ _ (List.mem_of_getElem? hx) ⟨_, _, hg⟩ fun j u hu => ?_⟩
      have hj : j < k := by have := (List.getElem?_eq_some_iff.1 hu).1; rw [hf] at this; exact this
      have hi : i < l.length := (List.getElem?_eq_some_iff.1 hx).1
      have h2 := cellsL_at hf l i x hx j hj
      have hlt : i * k + j < l.length * k := by
        have : (i + 1) * k ≤ l.length * k := Nat.mul_le_mul_right k hi
        rw [Nat.succ_mul] at this; omega
      rw [Nat.zero_add, h.cellAt (i * k + j) hlt, h2, hu]
def wayCells (x : WayD) : List Value := [.int .i64 x.dx, .int .i64 x.dy, .int .i64 x.most, .int .i64 x.take]
theorem own_ways {W : World} {base : Nat} {v : Value} {l : List WayD} (h : W.ownsRow base 81 4 v l.length (cellsL wayCells l)) : IsSl WayT 4 W v l :=
  own_isSl (k := 4) (fun _ => rfl) h fun _ _ _ _ ht hc => ⟨ht, hc 0 _ rfl, hc 1 _ rfl, hc 2 _ rfl, hc 3 _ rfl⟩
def endCells (x : EndD) : List Value := [.int .i64 x.kind, .int .i64 x.piece, .int .i64 x.count, .bool x.loses]
theorem own_ends {W : World} {base : Nat} {v : Value} {l : List EndD} (h : W.ownsRow base 60 4 v l.length (cellsL endCells l)) : IsSl EndT 4 W v l :=
  own_isSl (k := 4) (fun _ => rfl) h fun _ _ _ _ ht hc => ⟨ht, hc 0 _ rfl, hc 1 _ rfl, hc 2 _ rfl, hc 3 _ rfl⟩
def lenOf (v : Value) : Nat := match v with
  | .slice _ n _ => n
  | _ => 0
end Go.Proofs.YtjfkecadfnepjaaGreatDoor
