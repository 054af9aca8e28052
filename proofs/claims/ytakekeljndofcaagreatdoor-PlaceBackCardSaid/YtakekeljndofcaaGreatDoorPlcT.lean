/- The text of a position, as data. -/
import Derived.Test.YtakekeljndofcaaGreatDoorPlc
import Derived.Test.YtakekeljndofcaaGreatDoorGood
set_option maxRecDepth 100000
namespace Go.Proofs.YtakekeljndofcaaGreatDoor
open Go Go.RowKit

/-! ### A row: letters, and the lengths of gaps -/
def dig (g : Nat) : List UInt8 := if g = 0 then [] else [UInt8.ofNat (48 + g)]
/-- What was written ahead of a gap, and how long the gap is. -/
def gapStep (ps : List PieceD) (s : List UInt8 × Nat) (c : Int) : List UInt8 × Nat := if c = 0 then (s.1, s.2 + 1) else (s.1 ++ dig s.2 ++ [cellB ps c], 0)
def gapGo (ps : List PieceD) (l : List Int) : List UInt8 × Nat := l.foldl (gapStep ps) ([], 0)
def rowG (ps : List PieceD) (l : List Int) : List UInt8 := (gapGo ps l).1 ++ dig (gapGo ps l).2
theorem gapGo_succ {ps : List PieceD} {l : List Int} {k : Nat} {c : Int} (h : l[k]? = some c) : gapGo ps (l.take (k + 1)) = gapStep ps (gapGo ps (l.take k)) c := by
  rw [gapGo, List.take_add_one, h]
  simp [gapGo, List.foldl_append]
theorem gapGo_len (ps : List PieceD) (l : List Int) : ∀ s : List UInt8 × Nat, ((l.foldl (gapStep ps) s).1).length + (l.foldl (gapStep ps) s).2 ≤ s.1.length + s.2 + l.length ∧ (l.foldl (gapStep ps) s).2 ≤ s.2 + l.length := by
  induction l with
  | nil => intro s; simp
  | cons c l ih =>
    intro s
    rw [List.foldl_cons]
    have := ih (gapStep ps s c)
    rw [List.length_cons]
    have h2 : (gapStep ps s c).1.length + (gapStep ps s c).2 ≤ s.1.length + s.2 + 1 ∧ (gapStep ps s c).2 ≤ s.2 + 1 := by
      unfold gapStep dig
      split
      · simp; omega
      · split <;> simp <;> omega
    omega
theorem rowG_len (ps : List PieceD) (l : List Int) : (rowG ps l).length ≤ l.length := by
  have := (gapGo_len ps l ([], 0)).1
  have h2 : (dig (gapGo ps l).2).length ≤ (gapGo ps l).2 := by unfold dig; split <;> simp <;> omega
  rw [rowG, List.length_append]
  simp only [List.length_nil] at this
  have e : l.foldl (gapStep ps) ([], 0) = gapGo ps l := rfl
  rw [e] at this
  omega
/-- Whether the row ends with an empty square. -/
theorem gap_pos {ps : List PieceD} {l : List Int} {k : Nat} {c : Int} (h : l[k]? = some c) : (gapGo ps (l.take (k + 1))).2 = 0 ↔ c ≠ 0 := by
  rw [gapGo_succ h, gapStep]
  split
  · rename_i h0; simp [h0]
  · rename_i h0; simp [h0]
theorem row_letter {ps : List PieceD} {l : List Int} {k : Nat} {c : Int} (h : l[k]? = some c) (hc : c ≠ 0) : rowG ps (l.take (k + 1)) = rowG ps (l.take k) ++ [cellB ps c] := by
  rw [rowG, gapGo_succ h, gapStep, if_neg hc, rowG]
  simp [dig]
theorem row_first {ps : List PieceD} {l : List Int} {k : Nat} (h : l[k]? = some 0) (hg : (gapGo ps (l.take k)).2 = 0) : rowG ps (l.take (k + 1)) = rowG ps (l.take k) ++ [49] := by
  rw [rowG, gapGo_succ h, gapStep, if_pos rfl, rowG, hg]
  simp [dig]
theorem row_more {ps : List PieceD} {l : List Int} {k : Nat} (h : l[k]? = some 0) (hg : (gapGo ps (l.take k)).2 ≠ 0) :
    ∃ t d, rowG ps (l.take k) = t ++ [d] ∧ rowG ps (l.take (k + 1)) = t ++ [d + 1] := by
  refine ⟨(gapGo ps (l.take k)).1, UInt8.ofNat (48 + (gapGo ps (l.take k)).2), ?_, ?_⟩
  · rw [rowG, dig, if_neg hg]
  · rw [rowG, gapGo_succ h, gapStep, if_pos rfl]
    show _ ++ dig ((gapGo ps (l.take k)).2 + 1) = _
    rw [dig, if_neg (by omega), ← Nat.add_assoc, UInt8.ofNat_add]; rfl
/-- The k-th row of a board. -/
def rowOf (W : Nat) (cs : List Int) (y : Nat) : List Int := (cs.drop (y * W)).take W
def rowT (ps : List PieceD) (W : Nat) (cs : List Int) (y : Nat) : List UInt8 := rowG ps (rowOf W cs y)
/-- The rows from the k-th one down. -/
def rowsT (ps : List PieceD) (W : Nat) (cs : List Int) : Nat → List (List UInt8)
  | 0 => []
  | k + 1 => rowT ps W cs k :: rowsT ps W cs k
def cellsT (ps : List PieceD) (W H : Nat) (cs : List Int) : List UInt8 := Lib.join (rowsT ps W cs H) [47]

/-! ### Hands -/
def handB (x : PieceD) (n : Int) : List UInt8 := if 0 < n then lettB x ++ num n else []
def handsB (ps : List PieceD) (h : List Int) : List (List UInt8) := List.zipWith handB ps h
def handL (ps : List PieceD) (h : List Int) : List UInt8 := (handsB ps h).flatten
def handT (ps : List PieceD) (h : List Int) : List UInt8 := if handL ps h = [] then [45] else handL ps h
def partsT (r : RulesD) (p : PlaceD) : List (List UInt8) := [cellsT r.pieces r.width.toNat r.height.toNat p.cells, handT r.pieces p.h0, handT r.pieces p.h1, num (p.turn + 1), num p.quiet]
/-- The text of a position. -/
def placeT (r : RulesD) (p : PlaceD) : List UInt8 := Lib.join (partsT r p) [32]

/-! ### How long -/
theorem num_len4 {n : Int} (h : 0 ≤ n) (h2 : n ≤ 1000) : (num n).length ≤ 4 := by
  by_cases a : n ≤ 9
  · rw [num_digit h a]; simp
  · rw [num_big (by omega), num_digit (n := n % 10) (by omega) (by omega), List.length_append]
    have := num_len (n := n / 10) (by omega) (by omega)
    simp; omega
theorem handB_len {x : PieceD} {n : Int} (h : 0 ≤ n) (h2 : n ≤ 1000) : (handB x n).length ≤ 5 := by
  unfold handB; split
  · have := num_len4 h h2
    rw [List.length_append, lettB_le]; omega
  · simp
theorem handL_len : ∀ {ps : List PieceD} {h : List Int}, (∀ n ∈ h, 0 ≤ n ∧ n ≤ 1000) → (handL ps h).length ≤ ps.length * 5
  | [], h, _ => by simp [handL, handsB]
  | x :: ps, [], _ => by simp [handL, handsB]
  | x :: ps, n :: h, hb => by
    have h1 := handL_len (ps := ps) (h := h) (fun m hm => hb m (List.mem_cons_of_mem _ hm))
    have h2 := handB_len (x := x) (hb n (List.mem_cons_self ..)).1 (hb n (List.mem_cons_self ..)).2
    have e : handL (x :: ps) (n :: h) = handB x n ++ handL ps h := by simp [handL, handsB]
    rw [e, List.length_append, List.length_cons, Nat.succ_mul]; omega
theorem handT_len {ps : List PieceD} {h : List Int} (hn : ps.length ≤ 6) (hb : ∀ n ∈ h, 0 ≤ n ∧ n ≤ 1000) : (handT ps h).length ≤ 30 := by
  have := handL_len (ps := ps) hb
  have := Nat.mul_le_mul_right 5 hn
  unfold handT; split
  · simp
  · omega
theorem rowT_len (ps : List PieceD) (W : Nat) (cs : List Int) (y : Nat) : (rowT ps W cs y).length ≤ W := by
  have := rowG_len ps (rowOf W cs y)
  have h2 : (rowOf W cs y).length ≤ W := by rw [rowOf, List.length_take]; omega
  rw [rowT]; omega
theorem rowsT_length (ps : List PieceD) (W : Nat) (cs : List Int) : ∀ k, (rowsT ps W cs k).length = k
  | 0 => rfl
  | k + 1 => by rw [rowsT, List.length_cons, rowsT_length ps W cs k]
theorem join_len (s : List UInt8) (C : Nat) : ∀ {ws : List (List UInt8)}, (∀ x ∈ ws, x.length ≤ C) → (Lib.join ws s).length ≤ ws.length * (C + s.length)
  | [], _ => by simp [Lib.join]
  | x :: ws, h => by
    have ht : ∀ {ws : List (List UInt8)}, (∀ x ∈ ws, x.length ≤ C) → (Lib.joinTail s ws).length ≤ ws.length * (C + s.length) := by
      intro ws
      induction ws with
      | nil => intro _; simp [Lib.joinTail]
      | cons y r ih =>
        intro h
        have h1 := ih (fun z hz => h z (List.mem_cons_of_mem _ hz))
        have h2 := h y (List.mem_cons_self ..)
        have e : Lib.joinTail s (y :: r) = s ++ y ++ Lib.joinTail s r := by simp [Lib.joinTail]
        rw [e, List.length_append, List.length_append, List.length_cons, Nat.succ_mul]; omega
    have h1 := ht (fun z hz => h z (List.mem_cons_of_mem _ hz))
    have h2 := h x (List.mem_cons_self ..)
    rw [Lib.join_cons, List.length_append, List.length_cons, Nat.succ_mul]; omega
theorem rowsT_mem {ps : List PieceD} {W : Nat} {cs : List Int} {x : List UInt8} : ∀ {k : Nat}, x ∈ rowsT ps W cs k → ∃ y, y < k ∧ x = rowT ps W cs y
  | 0, h => by cases h
  | k + 1, h => by
    rcases List.mem_cons.1 h with rfl | h
    · exact ⟨k, by omega, rfl⟩
    · obtain ⟨y, hy, e⟩ := rowsT_mem h
      exact ⟨y, by omega, e⟩
theorem cellsT_len {ps : List PieceD} {W H : Nat} {cs : List Int} (hW : W ≤ 8) (hH : H ≤ 8) : (cellsT ps W H cs).length ≤ 72 := by
  have h1 := join_len [47] 8 (ws := rowsT ps W cs H) (fun x hx => by
    obtain ⟨y, _, rfl⟩ := rowsT_mem hx
    have := rowT_len ps W cs y; omega)
  rw [rowsT_length] at h1
  have h2 : H * (8 + ([47] : List UInt8).length) ≤ 8 * 9 := Nat.mul_le_mul_right 9 hH
  rw [cellsT]; omega
theorem partsT_len {r : RulesD} {p : PlaceD} (h : POkay r p) : ∀ x ∈ partsT r p, x.length ≤ 72 := by
  have hr := rOk h.e
  intro x hx
  simp only [partsT, List.mem_cons, List.not_mem_nil, or_false] at hx
  rcases hx with rfl | rfl | rfl | rfl | rfl
  · exact cellsT_len (by have := hr.w2; omega) (by have := hr.h2; omega)
  · have := handT_len hr.p6 h.n0; omega
  · have := handT_len hr.p6 h.n1; omega
  · have := num_len4 (n := p.turn + 1) (by have := h.t0; omega) (by have := h.t1; omega); omega
  · have := num_len4 (n := p.quiet) h.q0 (by have := h.q1; omega); omega
theorem placeT_len {r : RulesD} {p : PlaceD} (h : POkay r p) : (placeT r p).length ≤ 365 := by
  have := join_len [32] 72 (ws := partsT r p) (partsT_len h)
  rw [placeT]; simpa [partsT] using this
end Go.Proofs.YtakekeljndofcaaGreatDoor
