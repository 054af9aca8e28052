/- Merged by merge.py of the texts OpenR OpenP. -/
import Derived.Test.YtdhhdkbnlddnbaaGreatDoorRulA
import Derived.Deep.Slices
import Derived.Deep.Fields
import Derived.ChangeSame
import Derived.OpenShut
import Derived.ShutString
import Derived.Test.YtdhhdkbnlddnbaaGreatDoorPlcA
set_option maxRecDepth 100000
namespace Go.Proofs.YtdhhdkbnlddnbaaGreatDoor
open Go.ChangeShapes Go.WideShapes Go.ChangeAt Go.RowKit Go.Deep

section
variable {H : Type} {enc : TypeId × Value → H} {P : Program} {w : World} {base : Nat} {spare : Nat → Bool} {held : Bool}
theorem addr_at (g o n : Nat) : (⟨g, o, none⟩ : Addr).add n = ⟨g, o + n, none⟩ := by cases n <;> simp [Addr.add]
/-- The fields of an element that lies in memory. -/
theorem elemFields {e : TypeId} {fs : Array Field} {n g o : Nat} {cs : List Value} {y : DataW H × List MemPlace} (he : P.underlying e = some (.struct fs)) (hone : oneCellFields P fs = true) (hC : P.cellsOf e = fs.size)
    (hc : w.cells? base ⟨g, o, none⟩ (P.cellsOf e) = some cs) (h : DataW.trod enc P w base spare held n e cs = some y) (j : Nat) (f : Field) (hj : fs[j]? = some f) :
    ∃ (v : Value) (z : DataW H × List MemPlace) (m : Nat), w.cell? ⟨g, o + j, none⟩ = some v ∧ DataW.trod enc P w base spare held m f.type [v] = some z := by
  obtain ⟨_, hcl, hat⟩ := World.cells?_some hc
  obtain ⟨ys, n', _, _, hlen, hyl, hf⟩ := DataW.trod_struct he h
  obtain ⟨ho, hk⟩ := hone_of hone j f hj
  have hjl : j < fs.size := (Array.getElem?_eq_some_iff.1 hj).1
  have hcell := hat j (by omega)
  rw [addr_at] at hcell
  have hv : cs[j]? = some (cs[j]'(by omega)) := List.getElem?_eq_getElem (by omega)
  have h1 := hf j f hj
  rw [ho, hk] at h1
  have hone' : (cs.drop j).take 1 = [cs[j]'(by omega)] := by
    rw [List.drop_eq_getElem_cons (by omega)]
    rfl
  rw [hone'] at h1
  have hys : ys[j]? = some (ys[j]'(by omega)) := List.getElem?_eq_getElem (by omega)
  exact ⟨_, _, _, by rw [hcell, hv], h1.trans hys⟩
/-- The fields of a struct that comes by value. -/
theorem aggFields {r : Reach} {b0 : Nat} {t : TypeId} {fs : Array Field} {v : Value} {d : DataW H} {p : List MemPlace} (hs : P.underlying t = some (.struct fs)) (hone : oneCellFields P fs = true) (hC : P.cellsOf t = fs.size)
    (hv : Value.okWide P w r b0 t v) (h : DataW.Trod enc P w base spare held t v d p) :
    ∃ cs : Array Value, v = .agg cs ∧ cs.size = fs.size ∧ ∀ (j : Nat) (f : Field), fs[j]? = some f → ∃ (u : Value) (z : DataW H × List MemPlace) (m : Nat), cs[j]? = some u ∧ DataW.trod enc P w base spare held m f.type [u] = some z := by
  obtain ⟨cs, rfl, hsz⟩ := okWide_struct hs hv
  refine ⟨cs, rfl, hsz.trans hC, fun j f hj => ?_⟩
  obtain ⟨fuel, hf⟩ := h
  obtain ⟨ys, n', _, _, hlen, hyl, hg⟩ := DataW.trod_struct hs hf
  obtain ⟨ho, hk⟩ := hone_of hone j f hj
  have hjl : j < fs.size := (Array.getElem?_eq_some_iff.1 hj).1
  have hjc : j < cs.toList.length := by rw [Array.length_toList]; omega
  have h1 := hg j f hj
  have hc : Value.cells (.agg cs) = cs := rfl
  rw [ho, hk, hc] at h1
  have hone' : (cs.toList.drop j).take 1 = [cs.toList[j]'hjc] := by
    rw [List.drop_eq_getElem_cons hjc]
    rfl
  rw [hone'] at h1
  have hys : ys[j]? = some (ys[j]'(by omega)) := List.getElem?_eq_getElem (by omega)
  exact ⟨_, _, _, by simp [Array.getElem?_eq_getElem (show j < cs.size by omega)], h1.trans hys⟩
/-- A slice whose elements are each read. -/
theorem openSl {α : Type} {q : World → Nat → Nat → α → Prop} {k : Nat} {t e : TypeId} (ht : P.underlying t = some (.slice e)) (hk : P.cellsOf e = k) (hk0 : 0 < k)
    (hq : ∀ (n g o : Nat) (cs : List Value) (y : DataW H × List MemPlace), w.cells? base ⟨g, o, none⟩ (P.cellsOf e) = some cs → DataW.trod enc P w base spare held n e cs = some y → ∃ x : α, q w g o x)
    {fuel : Nat} {v : Value} {x : DataW H × List MemPlace} (h : DataW.trod enc P w base spare held fuel t [v] = some x) : ∃ xs : List α, IsSl q k w v xs := by
  rcases open_slice ht h with ⟨h0, _⟩ | ⟨a, len, cap, m, n, D, Pl, hcs, _, hl, hm, hmm, _, hi⟩
  · obtain rfl : v = .slice none 0 0 := by simpa using h0
    exact ⟨[], .inl ⟨rfl, none, 0, rfl⟩⟩
  · obtain rfl : v = .slice (some a) len cap := by simpa using hcs
    have hlm : len ≤ m := by rw [hmm]; split <;> omega
    by_cases h0 : len = 0
    · subst h0; exact ⟨[], .inl ⟨rfl, some a, cap, rfl⟩⟩
    · obtain ⟨g, off, spot⟩ := a
      obtain rfl : spot = none := by
        obtain ⟨cs', hc, _⟩ := hi 0 (by omega)
        obtain ⟨_, hcl, hat⟩ := World.cells?_some hc
        have h1 := hat 0 (by omega)
        rw [List.getElem?_eq_getElem (by omega)] at h1
        have h2 := World.cell?_spot h1
        simpa [Addr.add] using h2
      have hex : ∀ i : Fin len, ∃ x : α, q w g (off + i.val * k) x := fun i => by
        obtain ⟨cs', hc, ht'⟩ := hi i.val (by omega)
        rw [addr_at] at hc
        obtain ⟨x, hx⟩ := hq n g _ cs' _ hc ht'
        exact ⟨x, by rw [← hk]; exact hx⟩
      obtain ⟨f, hf⟩ := Classical.axiomOfChoice hex
      refine ⟨List.ofFn f, .inr ⟨g, off, cap, by rw [List.length_ofFn], ?_, by rw [List.length_ofFn]; exact hl, hm, fun i x hx => ?_⟩⟩
      · intro e
        have : (List.ofFn f).length = 0 := by rw [e]; rfl
        rw [List.length_ofFn] at this; exact h0 this
      · obtain ⟨h1, h2⟩ := List.getElem?_eq_some_iff.1 hx
        rw [List.length_ofFn] at h1
        rw [List.getElem_ofFn] at h2
        rw [← h2]
        exact hf ⟨i, h1⟩
theorem open1_int {k : IntKind} {t : TypeId} {n : Nat} {v : Value} {x : DataW H × List MemPlace} (ht : P.underlying t = some (.int k)) (h : DataW.trod enc P w base spare held n t [v] = some x) : ∃ z : Int, v = .int k z ∧ (Lit.int k z).wf = true := by
  obtain ⟨z, h1, _, h2⟩ := DataW.trod_int ht h
  exact ⟨z, by simpa using h1, h2⟩
theorem open1_bool {t : TypeId} {n : Nat} {v : Value} {x : DataW H × List MemPlace} (ht : P.underlying t = some .bool) (h : DataW.trod enc P w base spare held n t [v] = some x) : ∃ z : Bool, v = .bool z := by
  obtain ⟨z, h1, _⟩ := DataW.trod_bool ht h
  exact ⟨z, by simpa using h1⟩
theorem open1_string {t : TypeId} {n : Nat} {v : Value} {x : DataW H × List MemPlace} (ht : P.underlying t = some .string) (h : DataW.trod enc P w base spare held n t [v] = some x) : ∃ s : ByteArray, v = .string s ∧ s.size ≤ maxLen := by
  obtain ⟨z, h1, _, h2⟩ := DataW.trod_string ht h
  exact ⟨z, by simpa using h1, h2⟩
end

section
variable {H : Type} {enc : TypeId × Value → H} {w : World} {base : Nat} {spare : Nat → Bool} {held : Bool}
theorem open_way (n g o : Nat) (cs : List Value) (y : DataW H × List MemPlace) (hc : w.cells? base ⟨g, o, none⟩ (Tryz.prog.cellsOf 94) = some cs) (h : DataW.trod enc Tryz.prog w base spare held n 94 cs = some y) : ∃ x : WayD, WayAt w g o x := by
  have F := elemFields Tryz.underlying94 (by kernel_rfl) (by kernel_rfl) hc h
  obtain ⟨v0, z0, m0, c0, t0⟩ := F 0 _ rfl
  obtain ⟨v1, z1, m1, c1, t1⟩ := F 1 _ rfl
  obtain ⟨v2, z2, m2, c2, t2⟩ := F 2 _ rfl
  obtain ⟨v3, z3, m3, c3, t3⟩ := F 3 _ rfl
  obtain ⟨x0, rfl, _⟩ := open1_int (k := .i64) (t := 3) Tryz.underlying3 t0
  obtain ⟨x1, rfl, _⟩ := open1_int (k := .i64) (t := 3) Tryz.underlying3 t1
  obtain ⟨x2, rfl, _⟩ := open1_int (k := .i64) (t := 3) Tryz.underlying3 t2
  obtain ⟨x3, rfl, _⟩ := open1_int (k := .i64) (t := 3) Tryz.underlying3 t3
  exact ⟨⟨x0, x1, x2, x3⟩, c0, c1, c2, c3⟩
theorem open_end (n g o : Nat) (cs : List Value) (y : DataW H × List MemPlace) (hc : w.cells? base ⟨g, o, none⟩ (Tryz.prog.cellsOf 62) = some cs) (h : DataW.trod enc Tryz.prog w base spare held n 62 cs = some y) : ∃ x : EndD, EndAt w g o x := by
  have F := elemFields Tryz.underlying62 (by kernel_rfl) (by kernel_rfl) hc h
  obtain ⟨v0, z0, m0, c0, t0⟩ := F 0 _ rfl
  obtain ⟨v1, z1, m1, c1, t1⟩ := F 1 _ rfl
  obtain ⟨v2, z2, m2, c2, t2⟩ := F 2 _ rfl
  obtain ⟨v3, z3, m3, c3, t3⟩ := F 3 _ rfl
  obtain ⟨x0, rfl, _⟩ := open1_int (k := .i64) (t := 3) Tryz.underlying3 t0
  obtain ⟨x1, rfl, _⟩ := open1_int (k := .i64) (t := 3) Tryz.underlying3 t1
  obtain ⟨x2, rfl, _⟩ := open1_int (k := .i64) (t := 3) Tryz.underlying3 t2
  obtain ⟨x3, rfl⟩ := open1_bool (t := 4) Tryz.underlying4 t3
  exact ⟨⟨x0, x1, x2, x3⟩, c0, c1, c2, c3⟩
theorem open_cell (n g o : Nat) (cs : List Value) (y : DataW H × List MemPlace) (hc : w.cells? base ⟨g, o, none⟩ (Tryz.prog.cellsOf 3) = some cs) (h : DataW.trod enc Tryz.prog w base spare held n 3 cs = some y) : ∃ x : Int, IntAt w g o x := by
  obtain ⟨z, rfl, _⟩ := DataW.trod_int Tryz.underlying3 h
  obtain ⟨_, hcl, hat⟩ := World.cells?_some hc
  have h1 := hat 0 (by simp at hcl; omega)
  rw [addr_at] at h1
  exact ⟨z, h1⟩
/-- A type of pieces, and that its letter is a byte. -/
def PieceAtW (W : World) (g o : Nat) (x : PieceD) : Prop := PieceAt W g o x ∧ 0 ≤ x.letter ∧ x.letter ≤ 255
theorem open_piece (n g o : Nat) (cs : List Value) (y : DataW H × List MemPlace) (hc : w.cells? base ⟨g, o, none⟩ (Tryz.prog.cellsOf 60) = some cs) (h : DataW.trod enc Tryz.prog w base spare held n 60 cs = some y) : ∃ x : PieceD, PieceAtW w g o x := by
  have F := elemFields Tryz.underlying60 (by kernel_rfl) (by kernel_rfl) hc h
  obtain ⟨v0, z0, m0, c0, t0⟩ := F 0 _ rfl
  obtain ⟨v1, z1, m1, c1, t1⟩ := F 1 _ rfl
  obtain ⟨v2, z2, m2, c2, t2⟩ := F 2 _ rfl
  obtain ⟨v3, z3, m3, c3, t3⟩ := F 3 _ rfl
  obtain ⟨x0, rfl, hw⟩ := open1_int (k := .u8) (t := 5) Tryz.underlying5 t0
  obtain ⟨x1, rfl, _⟩ := open1_int (k := .i64) (t := 3) Tryz.underlying3 t1
  obtain ⟨x2, rfl, _⟩ := open1_int (k := .i64) (t := 3) Tryz.underlying3 t2
  obtain ⟨ws, hws⟩ := openSl (q := WayAt) (k := 4) (t := 58) Tryz.underlying58 (by kernel_rfl) (by decide) open_way t3
  have hr : 0 ≤ x0 ∧ x0 ≤ 255 := by
    have e1 : IntKind.u8.min = 0 := by decide
    have e2 : IntKind.u8.max = 255 := by decide
    simp [Lit.wf] at hw; omega
  exact ⟨⟨x0, x1, x2, ws⟩, ⟨v3, c0, c1, c2, c3, hws⟩, hr⟩
theorem open_rules {r : Reach} {b0 : Nat} {v : Value} {d : DataW H} {p : List MemPlace} (hv : Value.okWide Tryz.prog w r b0 26 v) (h : DataW.Trod enc Tryz.prog w base spare held 26 v d p) :
    ∃ (x : RulesD) (vp vs ve : Value), v = RulesV x vp vs ve ∧ RulesIn w x vp vs ve ∧ LettersFit x.pieces := by
  obtain ⟨cs, rfl, hsz, F⟩ := aggFields Tryz.underlying26 (by kernel_rfl) (by kernel_rfl) hv h
  obtain ⟨v0, z0, m0, c0, t0⟩ := F 0 _ rfl
  obtain ⟨v1, z1, m1, c1, t1⟩ := F 1 _ rfl
  obtain ⟨v2, z2, m2, c2, t2⟩ := F 2 _ rfl
  obtain ⟨v3, z3, m3, c3, t3⟩ := F 3 _ rfl
  obtain ⟨v4, z4, m4, c4, t4⟩ := F 4 _ rfl
  obtain ⟨v5, z5, m5, c5, t5⟩ := F 5 _ rfl
  obtain ⟨v6, z6, m6, c6, t6⟩ := F 6 _ rfl
  obtain ⟨v7, z7, m7, c7, t7⟩ := F 7 _ rfl
  obtain ⟨v8, z8, m8, c8, t8⟩ := F 8 _ rfl
  obtain ⟨v9, z9, m9, c9, t9⟩ := F 9 _ rfl
  obtain ⟨v10, z10, m10, c10, t10⟩ := F 10 _ rfl
  obtain ⟨x0, rfl, hs⟩ := open1_string (t := 9) Tryz.underlying9 t0
  obtain ⟨x1, rfl, _⟩ := open1_int (k := .i64) (t := 3) Tryz.underlying3 t1
  obtain ⟨x2, rfl, _⟩ := open1_int (k := .i64) (t := 3) Tryz.underlying3 t2
  obtain ⟨ps, hps⟩ := openSl (q := PieceAtW) (k := 4) (t := 22) Tryz.underlying22 (by kernel_rfl) (by decide) open_piece t3
  obtain ⟨st, hst⟩ := openSl (q := IntAt) (k := 1) (t := 23) Tryz.underlying23 (by kernel_rfl) (by decide) open_cell t4
  obtain ⟨x5, rfl⟩ := open1_bool (t := 4) Tryz.underlying4 t5
  obtain ⟨x6, rfl⟩ := open1_bool (t := 4) Tryz.underlying4 t6
  obtain ⟨es, hes⟩ := openSl (q := EndAt) (k := 4) (t := 24) Tryz.underlying24 (by kernel_rfl) (by decide) open_end t7
  obtain ⟨x8, rfl, _⟩ := open1_int (k := .i64) (t := 3) Tryz.underlying3 t8
  obtain ⟨x9, rfl, _⟩ := open1_int (k := .i64) (t := 3) Tryz.underlying3 t9
  obtain ⟨x10, rfl, _⟩ := open1_int (k := .i64) (t := 3) Tryz.underlying3 t10
  refine ⟨⟨x0, x1, x2, ps, st, x5, x6, es, x8, x9, x10⟩, v3, v4, v7, ?_, ⟨⟨?_, hst, hes⟩, hs⟩, ?_⟩
  · unfold RulesV
    congr 1
    apply Array.ext_getElem?
    intro i
    match i with
    | 0 => exact c0
    | 1 => exact c1
    | 2 => exact c2
    | 3 => exact c3
    | 4 => exact c4
    | 5 => exact c5
    | 6 => exact c6
    | 7 => exact c7
    | 8 => exact c8
    | 9 => exact c9
    | 10 => exact c10
    | i + 11 =>
      have h11 : cs.size = 11 := hsz
      rw [Array.getElem?_eq_none (by omega), Array.getElem?_eq_none (by simp)]
  · rcases hps with h | ⟨g, off, cap, e1, e2, e3, e4, hc⟩
    · exact .inl h
    · exact .inr ⟨g, off, cap, e1, e2, e3, e4, fun i x hx => (hc i x hx).1⟩
  · intro x hx
    rcases hps with ⟨rfl, _⟩ | ⟨g, off, cap, e1, e2, e3, e4, hc⟩
    · cases hx
    · obtain ⟨i, hi⟩ := List.getElem?_of_mem hx
      exact (hc i x hi).2
end
end Go.Proofs.YtdhhdkbnlddnbaaGreatDoor

set_option maxRecDepth 100000
namespace Go.Proofs.YtdhhdkbnlddnbaaGreatDoor
open Go.ChangeShapes Go.WideShapes Go.ChangeAt Go.RowKit Go.Deep

section
variable {H : Type} {enc : TypeId × Value → H} {w : World} {base : Nat} {spare : Nat → Bool} {held : Bool}
theorem open_place {r : Reach} {b0 : Nat} {v : Value} {d : DataW H} {p : List MemPlace} (hv : Value.okWide Tryz.prog w r b0 29 v) (h : DataW.Trod enc Tryz.prog w base spare held 29 v d p) :
    ∃ (x : PlaceD) (vc v0 v1 : Value), v = PlaceV x vc v0 v1 ∧ PlaceIn w x vc v0 v1 := by
  obtain ⟨cs, rfl, hsz⟩ := okWide_struct Tryz.underlying29 hv
  have h5 : cs.size = 5 := hsz.trans (by kernel_rfl)
  obtain ⟨fuel, hf⟩ := h
  obtain ⟨ys, n', _, _, hlen, hyl, hg⟩ := DataW.trod_struct Tryz.underlying29 hf
  have hce : Value.cells (.agg cs) = cs := rfl
  rw [hce] at hg
  clear hce
  have hys : ys.length = 4 := hyl
  obtain ⟨y0, y1, y2, y3, rfl⟩ : ∃ a b c d, ys = [a, b, c, d] := by
    match ys, hys with
    | [a, b, c, d], _ => exact ⟨a, b, c, d, rfl⟩
  obtain ⟨x0, x1, x2, x3, x4, rfl⟩ : ∃ a b c d e, cs = #[a, b, c, d, e] := by
    obtain ⟨l⟩ := cs
    have hl : l.length = 5 := h5
    match l, hl with
    | [a, b, c, d, e], _ => exact ⟨a, b, c, d, e, rfl⟩
  have t0 := hg 0 _ rfl
  have t1 := hg 1 _ rfl
  have t2 := hg 2 _ rfl
  have t3 := hg 3 _ rfl
  have k2 : Tryz.prog.cellsOf 23 = 1 := by kernel_rfl
  obtain ⟨c, hc⟩ := openSl (q := IntAt) (k := 1) (t := 23) Tryz.underlying23 (by kernel_rfl) (by decide) open_cell (v := x0) (x := y0) t0
  obtain ⟨z, m, _, _, _, hz, ha⟩ := DataW.trod_array Tryz.underlying27 t1
  obtain ⟨z0, z1, rfl⟩ : ∃ a b, z = [a, b] := by
    match z, hz with
    | [a, b], _ => exact ⟨a, b, rfl⟩
  have s0 := ha 0 (by decide)
  have s1 := ha 1 (by decide)
  simp only [k2] at s0 s1
  obtain ⟨a, ha0⟩ := openSl (q := IntAt) (k := 1) (t := 23) Tryz.underlying23 (by kernel_rfl) (by decide) open_cell (v := x1) (x := z0) s0
  obtain ⟨b, hb0⟩ := openSl (q := IntAt) (k := 1) (t := 23) Tryz.underlying23 (by kernel_rfl) (by decide) open_cell (v := x2) (x := z1) s1
  obtain ⟨t, rfl, _⟩ := open1_int (k := .i64) (t := 3) (v := x3) (x := y2) Tryz.underlying3 t2
  obtain ⟨q, rfl, _⟩ := open1_int (k := .i64) (t := 3) (v := x4) (x := y3) Tryz.underlying3 t3
  exact ⟨⟨c, a, b, t, q⟩, x0, x1, x2, rfl, hc, ha0, hb0⟩
end
end Go.Proofs.YtdhhdkbnlddnbaaGreatDoor
