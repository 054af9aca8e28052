/- slices.Compact at moves, of a slice of the call's own. -/
import Derived.Test.YthbilpgecombiaaMvM
import Derived.Lib.SliceRun
import Derived.Deep.LoopGhost
import Derived.Deep.Draws
set_option maxRecDepth 100000
namespace Go.Proofs.Ythbilpgecombiaa
open Go.ChangeShapes Go.WideShapes Go.ChangeAt Go.RowKit

/-- Are two moves the same? -/
def sameM (x y : MoveD) : Bool := decide (x = y)
theorem sameM_eq {x y : MoveD} (h : x = y) : sameM x y = true := decide_eq_true h
theorem sameM_ne {x y : MoveD} (h : x ≠ y) : sameM x y = false := decide_eq_false h
theorem eqMove : ∀ (a b c a' b' c' : Int) (w : World), Sem.run Try.prog (binOp .eql 31 (.agg #[.int .i64 a, .int .i64 b, .int .i64 c]) (.agg #[.int .i64 a', .int .i64 b', .int .i64 c'])) w = .ok (.bool (sameM (a, b, c) (a', b', c'))) w := by
  intro a b c a' b' c' w
  have u3 := Try.underlying3
  have a3 := Try.isAgg3
  have z3 := Try.sizeOf3
  have hS : Try.prog.underlying 31 = some (.struct (Try.prog.fieldsOf 31)) := by kernel_rfl
  have hp : Try.prog.stoodInHeld 31 = false := by kernel_rfl
  rw [run_eql_struct, show (10000 : Nat) = 9999 + 1 from rfl, run_equalIn_agg w 9999 31 _ _ hS hp]
  simp only [Program.fieldsOf, Try.underlying31]
  go_simp
  unfold sameM
  by_cases h1 : a = a' <;> by_cases h2 : b = b' <;> by_cases h3 : c = c' <;> simp [h1, h2, h3]
theorem neqMove : ∀ (a b c a' b' c' : Int) (w : World), Sem.run Try.prog (binOp .neq 31 (.agg #[.int .i64 a, .int .i64 b, .int .i64 c]) (.agg #[.int .i64 a', .int .i64 b', .int .i64 c'])) w = .ok (.bool (!sameM (a, b, c) (a', b', c'))) w := by
  intro a b c a' b' c' w
  have u3 := Try.underlying3
  have a3 := Try.isAgg3
  have z3 := Try.sizeOf3
  have hS : Try.prog.underlying 31 = some (.struct (Try.prog.fieldsOf 31)) := by kernel_rfl
  have hp : Try.prog.stoodInHeld 31 = false := by kernel_rfl
  rw [run_neq_struct, show (10000 : Nat) = 9999 + 1 from rfl, run_equalIn_agg w 9999 31 _ _ hS hp]
  simp only [Program.fieldsOf, Try.underlying31]
  go_simp
  unfold sameM
  by_cases h1 : a = a' <;> by_cases h2 : b = b' <;> by_cases h3 : c = c' <;> simp [h1, h2, h3]
theorem guardMove : ∀ (op : BinOp) (x y : Operand) (a b c a' b' c' : Int) (w : World), Sem.run Try.prog (eqGuard op 31 x y (.agg #[.int .i64 a, .int .i64 b, .int .i64 c]) (.agg #[.int .i64 a', .int .i64 b', .int .i64 c'])) w = .ok () w :=
  fun op x y a b c a' b' c' w => run_eqGuard_agg w op 31 x y #[.int .i64 a, .int .i64 b, .int .i64 c] #[.int .i64 a', .int .i64 b', .int .i64 c'] (by kernel_rfl)

/-! ### A row of moves, written element by element -/
theorem flatK_set (d : Array MoveD) (i : Nat) (x : MoveD) (hi : i < d.size) : Go.Sort.setMany (Go.Sort.flatK mc 3 d) (i * 3) (mc x) = Go.Sort.flatK mc 3 (d.setIfInBounds i x) := by
  refine Go.Sort.ext_get! (by simp) fun t ht => ?_
  have ht' : t < d.size * 3 := by simpa using ht
  rw [Go.Sort.get_setMany _ _ _ t (by simpa using ht'), Go.Sort.get_flatK _ _ _ t ht', Go.Sort.get_flatK _ _ _ t (by simpa using ht'), mc_length]
  by_cases a : t / 3 = i
  · rw [if_pos (by omega), show t - i * 3 = t % 3 by omega, a]
    congr 1
    rw [Go.Sort.getElem!_set_same d i x hi]
  · rw [if_neg (by omega)]
    congr 1
    rw [Go.Sort.getElem!_set_other d i _ x a]
theorem put_move {w : World} {n blk off : Nat} {d : Array MoveD} {i : Nat} (hi : i < d.size) (x : MoveD) :
    ((((Go.Sort.putRowK mc 3 (Go.Sort.ahead w n) blk off d).setCell ⟨blk, off + i * 3, none⟩ (.int .i64 x.1)).setCell ⟨blk, off + i * 3 + 1, none⟩ (.int .i64 x.2.1)).setCell ⟨blk, off + i * 3 + 2, none⟩ (.int .i64 x.2.2)) = Go.Sort.putRowK mc 3 (Go.Sort.ahead w n) blk off (d.setIfInBounds i x) := by
  have h := Go.Sort.setCells_putRow (Go.Sort.ahead w n) blk off (mc x) (i * 3) (Go.Sort.flatK mc 3 d) (by rw [mc_length, Go.Sort.size_flatK]; omega)
  rw [flatK_set d i x hi] at h
  unfold Go.Sort.putRowK
  rw [← h]
  rfl
theorem setCells_app (b : Nat) : ∀ (xs ys : List Value) (o : Nat) (w : World), w.setCells b o (xs ++ ys) = (w.setCells b o xs).setCells b (o + xs.length) ys
  | [], ys, o, w => rfl
  | x :: xs, ys, o, w => by
    rw [List.cons_append, World.setCells, setCells_app b xs ys (o + 1), World.setCells, List.length_cons, show o + 1 + xs.length = o + (xs.length + 1) by omega]
theorem put_moves (w : World) (blk off : Nat) : ∀ (xs : List MoveD) (d : Array MoveD) (k : Nat), k + xs.length ≤ d.size → (Go.Sort.putRowK mc 3 w blk off d).setCells blk (off + k * 3) (mcs xs) = Go.Sort.putRowK mc 3 w blk off (Go.Lib.lay d k xs)
  | [], _, _, _ => rfl
  | x :: r, d, k, h => by
    have hl : k + (r.length + 1) ≤ d.size := by simpa using h
    rw [mcs_cons, setCells_app, mc_length]
    have h1 := Go.Sort.setCells_putRow w blk off (mc x) (k * 3) (Go.Sort.flatK mc 3 d) (by rw [mc_length, Go.Sort.size_flatK]; omega)
    rw [flatK_set d k x (by omega)] at h1
    have h2 := put_moves w blk off r (d.setIfInBounds k x) (k + 1) (by simp; omega)
    rw [Go.Lib.lay, ← h2, show off + k * 3 + 3 = off + (k + 1) * 3 by omega]
    exact congrArg (fun W : World => W.setCells blk (off + (k + 1) * 3) (mcs r)) h1
def zm : MoveD := (0, 0, 0)
theorem zero_moves : ∀ n, (Builtin.zeroCells #[.int .i64 0, .int .i64 0, .int .i64 0] n).toList = mcs (List.replicate n zm) := by
  intro n
  apply List.ext_getElem?
  intro t
  by_cases ht : t < n * 3
  · have hi : t / 3 < n := (Nat.div_lt_iff_lt_mul (by decide)).2 ht
    have h2 := mcs_at (List.replicate n zm) (t / 3) zm (t % 3) (by simp [hi]) (Nat.mod_lt _ (by decide))
    rw [show t / 3 * 3 + t % 3 = t by omega] at h2
    rw [h2]
    have h3 : t % 3 = 0 ∨ t % 3 = 1 ∨ t % 3 = 2 := by omega
    simp only [Builtin.zeroCells]
    rcases h3 with h3 | h3 | h3 <;> simp [ht, h3, mc, zm]
  · rw [List.getElem?_eq_none (by simp [Builtin.zeroCells]; omega), List.getElem?_eq_none (by rw [mcs_length]; simp; omega)]
theorem run_clear_moves (w : World) (ty : TypeId) (b o n c : Nat) (hn : 0 < n) (hc : ∀ j, j < n * 3 → (w.cell? ⟨b, o + j, none⟩).isSome = true) (hf : ∀ j, j < n * 3 → w.frozen? ⟨b, o + j, none⟩ = false) :
    (Builtin.clear_ #[37] ty #[.slice (some ⟨b, o, none⟩) n c]).run Try.prog w = .ok (.tuple #[]) (w.setCells b o (mcs (List.replicate n zm))) := by
  have hv : ∀ w, (zeroValue 31).run Try.prog w = .ok (.agg #[.int .i64 0, .int .i64 0, .int .i64 0]) w := Try.zeroValue31
  have hst := run_storeCells_cells (P := Try.prog) b o (mcs (List.replicate n zm)) 0 w (by rw [mcs_length]; simpa using hc) (by rw [mcs_length]; simpa using hf) (mcs_one_cell _)
  simp only [Nat.add_zero] at hst
  obtain ⟨m, rfl⟩ : ∃ m, n = m + 1 := ⟨n - 1, by omega⟩
  have hz := zero_moves (m + 1)
  simp [Builtin.clear_, run_underlying Try.underlying37, hv, Value.cells, hz, hst]
end Go.Proofs.Ythbilpgecombiaa
