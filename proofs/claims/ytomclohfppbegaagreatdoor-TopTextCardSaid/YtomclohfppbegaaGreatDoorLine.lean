/- ruletext's line: words with blanks between them, and a line's end, written to a printer. strconv.Itoa, with the library's table of powers kept below a block. -/
import Derived.Test.YtomclohfppbegaaGreatDoorBldS
import Derived.Test.YtomclohfppbegaaGreatDoorTxtA
import Derived.Test.YtomclohfppbegaaGreatDoorShelR
import Derived.Test.YtomclohfppbegaaGreatDoorPow
import Derived.Lib.AppendIntMem
import Derived.Deep.RegionHeld3
set_option maxRecDepth 100000
namespace Go.Proofs.YtomclohfppbegaaGreatDoor
open Go.ChangeShapes Go.WideShapes Go.ChangeAt Go.RowKit

/-- The library's table of powers of ten, in every world that has kept what lies below block B. -/
def Tb (B : Nat) (w : World) : Prop := Lib.TabBelow Tryz.prog B w powName .u64 Lib.pow10Tab
theorem Tb.below {B : Nat} {w w' : World} (h : Tb B w) (hb : Below B w w') : Tb B w' := fun w2 h2 => h w2 (hb.trans h2)
theorem itoa_any {B : Nat} (n : Int) (h0 : -7 ≤ n) (h1 : n ≤ 200) (w : World) (hT : Tb B w) :
    Calls Tryz.prog 18 #[.int .i64 n] w fun e w' => e = .returned (.string (numS n)) ∧ Below w.heap.size w w' := by
  refine (Tryz.strconv_Itoa n (by omega) (by omega) w hT.here).mono ?_
  rintro e w' ⟨rfl, k, os, rfl⟩
  exact ⟨rfl, Lib.below_grow _ _ (Nat.le_refl _) k os⟩
theorem itoa_small (n : Nat) (h1 : n < 100) (w : World) :
    Calls Tryz.prog 18 #[.int .i64 n] w fun e w' => e = .returned (.string (numS n)) ∧ w' = w := by
  refine (Tryz.strconv_Itoa_small n h1 w).mono ?_
  rintro e w' ⟨rfl, rfl⟩
  refine ⟨?_, rfl⟩
  have e1 : Lib.decDigits n = num (n : Int) := by rw [num, Lib.itoa, if_neg (by omega), Int.toNat_natCast]
  rw [e1]; rfl
theorem itoa_quiet (n : Int) (h0 : 0 ≤ n) (h1 : n < 100) (w : World) :
    Calls Tryz.prog 18 #[.int .i64 n] w fun e w' => e = .returned (.string (numS n)) ∧ w' = w := by
  obtain ⟨k, rfl⟩ := Int.eq_ofNat_of_zero_le h0
  exact itoa_small k (by omega) w

/-! ### What a printer keeps -/
theorem own_keep_below {W W' : World} {B : Nat} {e : TypeId} {size n : Nat} {v : Value} {xs : List Value} (h : W.ownsRow B e size v n xs) (hb : Below W.heap.size W W') : W'.ownsRow B e size v n xs := by
  refine ⟨h.1, ?_⟩
  rcases h.2 with hn | ⟨g, cap, cur, rfl, h1, h2, rest⟩
  · exact .inl hn
  · exact .inr ⟨g, cap, cur, rfl, h1, (hb.block g (Array.getElem?_eq_some_iff.1 h2).1).trans h2, rest⟩
theorem bldAt_below {B b : Nat} {p : Value} {cs : List Value} {W W' : World} (h : Lib.BuilderAt 58 5 B b p cs W) (hb : Below W.heap.size W W') : Lib.BuilderAt 58 5 B b p cs W' := by
  have hlt := h.lt
  obtain ⟨h1, v, h2, h3, h4⟩ := h
  exact ⟨h1, v, (hb.block b hlt).trans h2, own_keep_below h3 hb, h4⟩
theorem Bld.below {B b : Nat} {l : List UInt8} {W W' : World} (h : Bld B b l W) (hb : Below W.heap.size W W') : Bld B b l W' := by
  rcases h with h | h
  · exact .inl (bldAt_below h hb)
  · exact .inr (bldAt_below h hb)
theorem Bld.lt {B b : Nat} {l : List UInt8} {W : World} (h : Bld B b l W) : B ≤ b ∧ b < W.heap.size := by
  rcases h with h | h
  · exact ⟨h.1, h.lt⟩
  · exact ⟨h.1, h.lt⟩
theorem strCells_str (l : List UInt8) : Lib.strCells (str l) = Lib.byteCells l := by
  simp [Lib.strCells, Lib.byteCells, str]

/-- The words of a line, in a slice's cells. -/
def Words (W : World) (bk : Nat) (ws : List (List UInt8)) : Prop := ∀ (j : Nat) x, ws[j]? = some x → W.cell? ⟨bk, j, none⟩ = some (.string (str x))
set_option maxHeartbeats 2000000 in
theorem lineT_any (B b : Nat) (l : List UInt8) (ws : List (List UInt8)) (bk c : Nat) (w : World) (h : Bld B b l w) (hBw : B ≤ w.heap.size) (hw : Words w bk ws) (hbk : bk < w.heap.size) (hc : ws.length ≤ c) (hn : ws.length ≤ 5) (hl : l.length + (lineB ws).length ≤ 100000) :
    Calls Tryz.prog 17 #[.pointer (some ⟨b, 0, none⟩), .slice (some ⟨bk, 0, none⟩) ws.length c] w fun e w' => e = .returned (.tuple #[]) ∧ Bld B b (l ++ lineB ws) w' ∧ Below B w w' ∧ Boxes b w w' := by
  have hjl : (lineB ws).length = (Lib.join ws [32]).length + 1 := by simp [lineB]
  have HJ : Hid (∀ W, Below w.heap.size w W → Calls Tryz.prog 48 #[.slice (some ⟨bk, 0, none⟩) ws.length c, .string ⟨#[32]⟩] W fun e w' => e = .returned (.string (str (Lib.join ws [32]))) ∧ Below W.heap.size W w') := Lib.hid (by
    intro W hb
    have e1 : (ws.map str).map (·.data.toList) = ws := by
      rw [List.map_map]
      have : ((fun x : ByteArray => x.data.toList) ∘ str) = id := by funext x; simp [str]
      rw [this, List.map_id]
    have h2 := Tryz.strings_Join bk 0 c (ws.map str) ⟨#[32]⟩ W (by
      intro j x hx
      rw [List.getElem?_map, Option.map_eq_some_iff] at hx
      obtain ⟨y, hy, rfl⟩ := hx
      rw [Nat.zero_add]
      have h3 := hw j y hy
      exact (hb.cell (p := ⟨bk, j, none⟩) hbk).trans h3) (by have := hb.size; omega) (by simp; omega) (by simp; omega) (by
      rw [e1]
      have : (⟨#[32]⟩ : ByteArray).data.toList = [32] := rfl
      rw [this]; omega)
    rw [e1, List.length_map] at h2
    exact h2)
  have HB : Hid _ := Lib.hid h
  obtain ⟨hBb, hbw⟩ := h.lt
  have hj1 : l.length + (str (Lib.join ws [32])).size ≤ 99999 := by rw [str_size]; omega
  obtain ⟨n, hnn⟩ : ∃ n, n = ws.length := ⟨_, rfl⟩
  have HN : Hid _ := Lib.hid hnn
  clear h hw hjl hl hn
  rw [← hnn] at hc HJ ⊢
  clear hnn
  go_enter Tryz.func17, Tryz.ntmps17
  go_wp2_with fail
  go_region_held3 (fun _ => True) (exact trivial) (first
    | (go_at_call 48; refine (HJ.out _ (Below.drew (Below.refl _ _))).mono ?_; rintro e w1 ⟨rfl, hb1⟩; have hb1 := (Below.drew (Below.refl w.heap.size w)).trans hb1)
    | (go_at_call 47; refine (writeString_p B b (Lib.byteCells l) _ _ (HB.out.below hb1) (by rw [Lib.byteCells_length]; omega) (by have := hb1.size; omega)).mono ?_; rintro e w2 ⟨rfl, hB2, hb2, hx2⟩))
  go_wp2_with fail
  go_at_call 49
  rw [strCells_str] at hB2
  refine (writeByte_p B b (Lib.byteCells l ++ Lib.byteCells (Lib.join ws [32])) 10 _ (.inr hB2) (by rw [List.length_append, Lib.byteCells_length, Lib.byteCells_length]; rw [str_size] at hj1; omega) (by have := hb1.size; have := hb2.size; omega)).mono ?_
  rintro e w3 ⟨rfl, hB3, hb3, hx3⟩
  go_wp2_with fail
  go_end0
  refine ⟨rfl, ?_, ?_, ((Boxes.of hb1).trans hx2).trans hx3⟩
  · have e1 : Lib.byteCells (l ++ lineB ws) = Lib.byteCells l ++ Lib.byteCells (Lib.join ws [32]) ++ [.int .u8 10] := by simp [Lib.byteCells, lineB]
    unfold Bld
    rw [e1]
    exact .inr hB3
  · exact ((hb1.mono hBw).trans hb2).trans hb3
end Go.Proofs.YtomclohfppbegaaGreatDoor
