/- slices.IndexFunc and ContainsFunc at ways, numbers and types of pieces: whether the function says yes to one. -/
import Derived.Test.YthbilpgecombiaaWay
namespace Go.Proofs.Ythbilpgecombiaa
open Go.ChangeShapes Go.WideShapes Go.ChangeAt Go.RowKit

def wayV (x : WayD) : Value := .agg #[.int .i64 x.dx, .int .i64 x.dy, .int .i64 x.most, .int .i64 x.take]
def intV (x : Int) : Value := .int .i64 x
def BelPost (v : Value) (w : World) (e : Ending) (w' : World) : Prop := e = .returned v ∧ Below w.heap.size w w'
/-- The first place where p says yes; below 0: there is none. -/
def IdxPost (b : Bool) (w : World) (e : Ending) (w' : World) : Prop := ∃ r : Int, e = .returned (.int .i64 r) ∧ decide (0 ≤ r) = b ∧ Below w.heap.size w w'
theorem any_step {α : Type} {p : α → Bool} {xs : List α} {k : Nat} {x : α} (hx : xs[k]? = some x) (h : (xs.take k).any p = false) (h2 : p x = false) : (xs.take (k + 1)).any p = false := by
  rw [List.take_add_one, List.any_append, h, hx]; simp [h2]
theorem any_yes {α : Type} {p : α → Bool} {xs : List α} {k : Nat} {x : α} (hx : xs[k]? = some x) (h2 : p x = true) : xs.any p = true :=
  List.any_eq_true.2 ⟨x, List.mem_of_getElem? hx, h2⟩

set_option maxHeartbeats 1000000 in
theorem indexWays (xs : List WayD) (p : WayD → Bool) (v : Value) (b : Addr) (w : World) (hv : IsSl WayAt 4 w v xs) (hl : xs.length ≤ 100)
    (hp : ∀ x W', x ∈ xs → Below w.heap.size w W' → Calls Try.prog 108 #[.agg #[.int .i64 x.dx, .int .i64 x.dy, .int .i64 x.most, .int .i64 x.take], .pointer (some b)] W' (BelPost (.bool (p x)) W')) :
    Calls Try.prog 114 #[v, .func (.func 108) #[] #[.pointer (some b)]] w (IdxPost (xs.any p) w) := by
  obtain ⟨n, hn⟩ : ∃ n : Nat, n = xs.length := ⟨_, rfl⟩
  obtain ⟨a, cp, rfl, _, hcell⟩ := hv.shape hn
  have HN : Hid _ := Lib.hid hn
  have HC : Hid _ := Lib.hid hcell
  have HP : Hid _ := Lib.hid hp
  rw [← hn] at hl
  clear hcell hn hv hp
  go_enter Try.func114, Try.ntmps114
  go_wp2
  go_loopw [8] (fun i wr => ∃ k : Nat, k ≤ n ∧ i = .int .i64 (k : Int) ∧ Hid ((xs.take k).any p = false) ∧ Hid (Below w.heap.size w wr)) (fun i _ => n - (intOf i).toNat)
  case atStart => exact ⟨0, by omega, rfl, Lib.hid rfl, Lib.hid (Below.refl _ _)⟩
  case round =>
    obtain ⟨k, hk, rfl, hall, hbel⟩ := hrel
    by_cases hlt : k < n
    · obtain ⟨g, off, x, rfl, hx, hq⟩ := HC.out k hlt
      obtain ⟨c0, c1, c2, c3⟩ := way_keeps _ _ _ _ _ _ hbel.out (Nat.le_refl _) hq
      have HX : Hid _ := Lib.hid hx
      have HQ : Hid _ := Lib.hid (HP.out x wr (List.mem_of_getElem? hx) hbel.out)
      clear hq hx HC HP
      cases hpx : p x
      · rw [hpx] at HQ
        have KP : Hid _ := Lib.hid hpx
        clear hpx
        go_wp2_with fail
        go_at_call 108; refine HQ.out.mono ?_; rintro e w2 ⟨rfl, hb2⟩
        have HB : Hid (Below w.heap.size w w2) := Lib.hid (hbel.out.trans (hb2.mono hbel.out.size))
        clear hb2
        go_wp2_with fail
        go_roundw
        case rel => exact ⟨k + 1, by omega, by go_num, Lib.hid (any_step HX.out hall.out KP.out), HB⟩
        case measure => simp [intOf]; omega
      · rw [hpx] at HQ
        have KP : Hid (decide ((0 : Int) ≤ (k : Int)) = xs.any p) := Lib.hid (by rw [any_yes HX.out hpx]; simp)
        clear hpx
        go_wp2_with fail
        go_at_call 108; refine HQ.out.mono ?_; rintro e w2 ⟨rfl, hb2⟩
        have HB : Hid (Below w.heap.size w w2) := Lib.hid (hbel.out.trans (hb2.mono hbel.out.size))
        clear hb2
        go_wp2_with fail
        go_ret
        exact ⟨_, rfl, KP.out, HB.out⟩
    · have KP : Hid (decide ((0 : Int) ≤ -1) = xs.any p) := Lib.hid (by
        have h := hall.out
        rw [List.take_of_length_le (by have := HN.out; omega)] at h
        rw [h]; decide)
      go_wp2_with fail
      go_ret
      exact ⟨_, rfl, KP.out, hbel.out⟩
theorem containsWays (xs : List WayD) (p : WayD → Bool) (v : Value) (b : Addr) (w : World) (hv : IsSl WayAt 4 w v xs) (hl : xs.length ≤ 100)
    (hp : ∀ x W', x ∈ xs → Below w.heap.size w W' → Calls Try.prog 108 #[.agg #[.int .i64 x.dx, .int .i64 x.dy, .int .i64 x.most, .int .i64 x.take], .pointer (some b)] W' (BelPost (.bool (p x)) W')) :
    Calls Try.prog 107 #[v, .func (.func 108) #[] #[.pointer (some b)]] w (BelPost (.bool (xs.any p)) w) := by
  have HI : Hid _ := Lib.hid (indexWays xs p v b w hv hl hp)
  clear hv hp
  go_enter Try.func107, Try.ntmps107
  go_wp2_with fail
  go_at_call 114; refine HI.out.mono ?_; rintro e w' ⟨r, rfl, hr, hb⟩
  have KR : Hid _ := Lib.hid hr
  have HB : Hid _ := Lib.hid hb
  clear hr hb
  go_wp2_with fail
  go_ret
  exact ⟨ret_bool KR.out, HB.out⟩

set_option maxHeartbeats 1000000 in
theorem indexInts (xs : List Int) (p : Int → Bool) (v : Value) (b : Addr) (w : World) (hv : IsSl IntAt 1 w v xs) (hl : xs.length ≤ 100)
    (hp : ∀ x W', x ∈ xs → Below w.heap.size w W' → Calls Try.prog 94 #[.int .i64 x, .pointer (some b)] W' (BelPost (.bool (p x)) W')) :
    Calls Try.prog 95 #[v, .func (.func 94) #[] #[.pointer (some b)]] w (IdxPost (xs.any p) w) := by
  obtain ⟨n, hn⟩ : ∃ n : Nat, n = xs.length := ⟨_, rfl⟩
  obtain ⟨a, cp, rfl, _, hcell⟩ := hv.shape hn
  have HN : Hid _ := Lib.hid hn
  have HC : Hid _ := Lib.hid hcell
  have HP : Hid _ := Lib.hid hp
  rw [← hn] at hl
  clear hcell hn hv hp
  go_enter Try.func95, Try.ntmps95
  go_wp2
  go_loopw [8] (fun i wr => ∃ k : Nat, k ≤ n ∧ i = .int .i64 (k : Int) ∧ Hid ((xs.take k).any p = false) ∧ Hid (Below w.heap.size w wr)) (fun i _ => n - (intOf i).toNat)
  case atStart => exact ⟨0, by omega, rfl, Lib.hid rfl, Lib.hid (Below.refl _ _)⟩
  case round =>
    obtain ⟨k, hk, rfl, hall, hbel⟩ := hrel
    by_cases hlt : k < n
    · obtain ⟨g, off, x, rfl, hx, hq⟩ := HC.out k hlt
      have c0 : wr.cell? ⟨g, off + k, none⟩ = some (.int .i64 x) := by
        have h := int_keeps _ _ _ _ _ _ hbel.out (Nat.le_refl _) hq
        rw [Nat.mul_one] at h; exact h
      have HX : Hid _ := Lib.hid hx
      have HQ : Hid _ := Lib.hid (HP.out x wr (List.mem_of_getElem? hx) hbel.out)
      clear hq hx HC HP
      cases hpx : p x
      · rw [hpx] at HQ
        have KP : Hid _ := Lib.hid hpx
        clear hpx
        go_wp2_with fail
        go_at_call 94; refine HQ.out.mono ?_; rintro e w2 ⟨rfl, hb2⟩
        have HB : Hid (Below w.heap.size w w2) := Lib.hid (hbel.out.trans (hb2.mono hbel.out.size))
        clear hb2
        go_wp2_with fail
        go_roundw
        case rel => exact ⟨k + 1, by omega, by go_num, Lib.hid (any_step HX.out hall.out KP.out), HB⟩
        case measure => simp [intOf]; omega
      · rw [hpx] at HQ
        have KP : Hid (decide ((0 : Int) ≤ (k : Int)) = xs.any p) := Lib.hid (by rw [any_yes HX.out hpx]; simp)
        clear hpx
        go_wp2_with fail
        go_at_call 94; refine HQ.out.mono ?_; rintro e w2 ⟨rfl, hb2⟩
        have HB : Hid (Below w.heap.size w w2) := Lib.hid (hbel.out.trans (hb2.mono hbel.out.size))
        clear hb2
        go_wp2_with fail
        go_ret
        exact ⟨_, rfl, KP.out, HB.out⟩
    · have KP : Hid (decide ((0 : Int) ≤ -1) = xs.any p) := Lib.hid (by
        have h := hall.out
        rw [List.take_of_length_le (by have := HN.out; omega)] at h
        rw [h]; decide)
      go_wp2_with fail
      go_ret
      exact ⟨_, rfl, KP.out, hbel.out⟩
theorem containsInts (xs : List Int) (p : Int → Bool) (v : Value) (b : Addr) (w : World) (hv : IsSl IntAt 1 w v xs) (hl : xs.length ≤ 100)
    (hp : ∀ x W', x ∈ xs → Below w.heap.size w W' → Calls Try.prog 94 #[.int .i64 x, .pointer (some b)] W' (BelPost (.bool (p x)) W')) :
    Calls Try.prog 80 #[v, .func (.func 94) #[] #[.pointer (some b)]] w (BelPost (.bool (xs.any p)) w) := by
  have HI : Hid _ := Lib.hid (indexInts xs p v b w hv hl hp)
  clear hv hp
  go_enter Try.func80, Try.ntmps80
  go_wp2_with fail
  go_at_call 95; refine HI.out.mono ?_; rintro e w' ⟨r, rfl, hr, hb⟩
  have KR : Hid _ := Lib.hid hr
  have HB : Hid _ := Lib.hid hb
  clear hr hb
  go_wp2_with fail
  go_ret
  exact ⟨ret_bool KR.out, HB.out⟩

/-! ### Types of pieces: the letter alone is looked at -/

set_option maxHeartbeats 1000000 in
theorem indexPieces (xs : List PieceD) (p : PieceD → Bool) (v : Value) (b : Addr) (w : World) (hv : IsSl PieceAt 4 w v xs) (hl : xs.length ≤ 100)
    (hp : ∀ x u W', x ∈ xs → Below w.heap.size w W' → Calls Try.prog 91 #[.agg #[.int .u8 x.letter, .int .i64 x.hand, .int .i64 x.promote, u], .pointer (some b)] W' (BelPost (.bool (p x)) W')) :
    Calls Try.prog 106 #[v, .func (.func 91) #[] #[.pointer (some b)]] w (IdxPost (xs.any p) w) := by
  obtain ⟨n, hn⟩ : ∃ n : Nat, n = xs.length := ⟨_, rfl⟩
  obtain ⟨a, cp, rfl, _, hcell⟩ := hv.shape hn
  have HN : Hid _ := Lib.hid hn
  have HC : Hid _ := Lib.hid hcell
  have HP : Hid _ := Lib.hid hp
  rw [← hn] at hl
  clear hcell hn hv hp
  go_enter Try.func106, Try.ntmps106
  go_wp2
  go_loopw [8] (fun i wr => ∃ k : Nat, k ≤ n ∧ i = .int .i64 (k : Int) ∧ Hid ((xs.take k).any p = false) ∧ Hid (Below w.heap.size w wr)) (fun i _ => n - (intOf i).toNat)
  case atStart => exact ⟨0, by omega, rfl, Lib.hid rfl, Lib.hid (Below.refl _ _)⟩
  case round =>
    obtain ⟨k, hk, rfl, hall, hbel⟩ := hrel
    by_cases hlt : k < n
    · obtain ⟨g, off, x, rfl, hx, hq⟩ := HC.out k hlt
      obtain ⟨u, c0, c1, c2, c3, _⟩ := piece_keeps _ _ _ _ _ _ hbel.out (Nat.le_refl _) hq
      have HX : Hid _ := Lib.hid hx
      have HQ : Hid _ := Lib.hid (HP.out x u wr (List.mem_of_getElem? hx) hbel.out)
      clear hq hx HC HP
      cases hpx : p x
      · rw [hpx] at HQ
        have KP : Hid _ := Lib.hid hpx
        clear hpx
        go_wp2_with fail
        go_at_call 91; refine HQ.out.mono ?_; rintro e w2 ⟨rfl, hb2⟩
        have HB : Hid (Below w.heap.size w w2) := Lib.hid (hbel.out.trans (hb2.mono hbel.out.size))
        clear hb2
        go_wp2_with fail
        go_roundw
        case rel => exact ⟨k + 1, by omega, by go_num, Lib.hid (any_step HX.out hall.out KP.out), HB⟩
        case measure => simp [intOf]; omega
      · rw [hpx] at HQ
        have KP : Hid (decide ((0 : Int) ≤ (k : Int)) = xs.any p) := Lib.hid (by rw [any_yes HX.out hpx]; simp)
        clear hpx
        go_wp2_with fail
        go_at_call 91; refine HQ.out.mono ?_; rintro e w2 ⟨rfl, hb2⟩
        have HB : Hid (Below w.heap.size w w2) := Lib.hid (hbel.out.trans (hb2.mono hbel.out.size))
        clear hb2
        go_wp2_with fail
        go_ret
        exact ⟨_, rfl, KP.out, HB.out⟩
    · have KP : Hid (decide ((0 : Int) ≤ -1) = xs.any p) := Lib.hid (by
        have h := hall.out
        rw [List.take_of_length_le (by have := HN.out; omega)] at h
        rw [h]; decide)
      go_wp2_with fail
      go_ret
      exact ⟨_, rfl, KP.out, hbel.out⟩
theorem containsPieces (xs : List PieceD) (p : PieceD → Bool) (v : Value) (b : Addr) (w : World) (hv : IsSl PieceAt 4 w v xs) (hl : xs.length ≤ 100)
    (hp : ∀ x u W', x ∈ xs → Below w.heap.size w W' → Calls Try.prog 91 #[.agg #[.int .u8 x.letter, .int .i64 x.hand, .int .i64 x.promote, u], .pointer (some b)] W' (BelPost (.bool (p x)) W')) :
    Calls Try.prog 90 #[v, .func (.func 91) #[] #[.pointer (some b)]] w (BelPost (.bool (xs.any p)) w) := by
  have HI : Hid _ := Lib.hid (indexPieces xs p v b w hv hl hp)
  clear hv hp
  go_enter Try.func90, Try.ntmps90
  go_wp2_with fail
  go_at_call 106; refine HI.out.mono ?_; rintro e w' ⟨r, rfl, hr, hb⟩
  have KR : Hid _ := Lib.hid hr
  have HB : Hid _ := Lib.hid hb
  clear hr hb
  go_wp2_with fail
  go_ret
  exact ⟨ret_bool KR.out, HB.out⟩
end Go.Proofs.Ythbilpgecombiaa
