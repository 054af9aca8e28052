/- The counter of package perft: after and parts. -/
import Derived.Test.YtdhhdkbnlddnbaaGreatDoorPftM
set_option maxRecDepth 100000
namespace Go.Proofs.YtdhhdkbnlddnbaaGreatDoor
open Go.ChangeShapes Go.WideShapes Go.ChangeAt Go.RowKit

def PAftPost (d : Nat) (D : Nat → Prop) (W : World) (cb bb : Nat) (r : RulesD) (q : PlaceD) (es : List PlaceD) (m : MoveD) (t : Nat) (e : Ending) (w' : World) : Prop :=
  ∃ (z u : Nat) (D' : Nat → Prop), e = .returned (.int .i64 (z : Int)) ∧ Left D W w' cb bb r q es u D' ∧ Went t u (treD r d (afterD r q m)) ∧ (u ≤ 50000 → z = cntD r d (afterD r q m)) ∧ z + t ≤ u + 1
def PAftC (d : Nat) : Prop := ∀ (D : Nat → Prop) (W : World) (cb bb : Nat) (r : RulesD) (q : PlaceD) (es : List PlaceD) (m : MoveD) (t : Nat) (x : Int), x = (d : Int) → Ctr D W cb bb r q es t → m ∈ stepsD r q → es.length + d ≤ 90 → t ≤ 55000 →
  Calls Tryz.prog 65 #[.pointer (some ⟨cb, 0, none⟩), moveV m, .int .i64 x] W (PAftPost d D W cb bb r q es m t)
def PrtPost (d : Nat) (D : Nat → Prop) (W : World) (cb bb : Nat) (r : RulesD) (q : PlaceD) (es : List PlaceD) (t : Nat) (e : Ending) (w' : World) : Prop :=
  ∃ a n c xs u D', e = .returned (.slice a n c) ∧ IsSl PartAt 4 w' (.slice a n c) xs ∧ n = xs.length ∧ Left D W w' cb bb r q es u D' ∧ Went t u (treD r (d + 1) q) ∧ (u ≤ 50000 → xs = partsD r d q) ∧ xs.map (fun x => x.1) = stepsD r q ∧ sumP xs + t ≤ u
def PrtC (d : Nat) : Prop := ∀ (D : Nat → Prop) (W : World) (cb bb : Nat) (r : RulesD) (q : PlaceD) (es : List PlaceD) (t : Nat) (x : Int), x = (d : Int) + 1 → Ctr D W cb bb r q es t → es.length + d ≤ 90 → t ≤ 50000 →
  Calls Tryz.prog 46 #[.pointer (some ⟨cb, 0, none⟩), .int .i64 x] W (PrtPost d D W cb bb r q es t)

set_option maxHeartbeats 2000000 in
theorem aft_zero : PAftC 0 := by
  intro D W cb bb r q es m t x hx hC hm hle ht
  obtain rfl : x = 0 := by simpa using hx
  obtain ⟨m1, m2, m3⟩ := m
  have hb0 : Below W.heap.size W (W.alloc (.cells #[.int .i64 m1, .int .i64 m2, .int .i64 m3] 37)) := (Below.refl _ _).alloc (Nat.le_refl _) _
  have HL := Lib.hid (Left.zero hC hb0)
  have HW := Lib.hid (Went.refl t ht)
  clear hC hb0 hle ht hm hx
  unfold moveV
  dsimp only
  go_enter Tryz.func65, Tryz.ntmps65
  go_wp2_with fail
  go_ret
  exact ⟨1, t, D, rfl, HL.out, HW.out, fun _ => rfl, by omega⟩
set_option maxHeartbeats 4000000 in
theorem aft_far {d : Nat} {D : Nat → Prop} {W : World} {cb bb : Nat} {r : RulesD} {q : PlaceD} {es : List PlaceD} {m : MoveD} {t : Nat} {x : Int} (hx : 0 < x) (hC : Ctr D W cb bb r q es t) (hf : 50000 < t) (ht : t ≤ 55000) :
    Calls Tryz.prog 65 #[.pointer (some ⟨cb, 0, none⟩), moveV m, .int .i64 x] W (PAftPost d D W cb bb r q es m t) := by
  obtain ⟨m1, m2, m3⟩ := m
  have hb0 : Below W.heap.size W (W.alloc (.cells #[.int .i64 m1, .int .i64 m2, .int .i64 m3] 37)) := (Below.refl _ _).alloc (Nat.le_refl _) _
  have HL := Lib.hid (Left.zero hC hb0)
  have HW := Lib.hid (Went.far hf ht (tre_pos r d (afterD r q (m1, m2, m3))))
  obtain ⟨-, k1, -⟩ := (hC.keep hb0).cells
  have h1 : (x == 0) = false := by simp; omega
  have h2 : decide ((t : Int) > 50000) = true := by simp; omega
  have h3 : decide ((50000 : Int) < (t : Int)) = true := by simp; omega
  have hf2 : 50000 < t := hf
  clear hC hb0 ht
  unfold moveV
  dsimp only
  go_enter Tryz.func65, Tryz.ntmps65
  go_wp2_with fail
  go_ret
  exact ⟨1, t, D, rfl, HL.out, HW.out, fun _ => by omega, by omega⟩
set_option maxHeartbeats 8000000 in
theorem aft_succ (d : Nat) (hP : PrtC d) : PAftC (d + 1) := by
  intro D W cb bb r q es m t x hx hC hm hle ht
  by_cases hf : 50000 < t
  · exact aft_far (d := d + 1) (by omega) hC hf ht
  obtain ⟨m1, m2, m3⟩ := m
  obtain ⟨U, hU⟩ : ∃ U, U = W.alloc (.cells #[.int .i64 m1, .int .i64 m2, .int .i64 m3] 37) := ⟨_, rfl⟩
  have hb0 : Below W.heap.size W U := by rw [hU]; exact (Below.refl _ _).alloc (Nat.le_refl _) _
  have hmv : U.heap[W.heap.size]? = some (.cells #[.int .i64 m1, .int .i64 m2, .int .i64 m3] 37 (0, 0)) := by rw [hU]; exact heap_alloc_new W _
  have hCU := hC.keep hb0
  have HL0 := Lib.hid (Left.zero hC hb0)
  have hmd : ¬ D W.heap.size := fun g => by have := hC.brd.ok.2.2.1 _ g; omega
  have HS : Hid (∀ w' : World, Fram D U w' → w'.cell? ⟨cb, 0, none⟩ = some (.pointer (some ⟨bb, 0, none⟩)) ∧ w'.cell? ⟨W.heap.size, 0, none⟩ = some (.int .i64 m1) ∧ w'.cell? ⟨W.heap.size, 1, none⟩ = some (.int .i64 m2) ∧ w'.cell? ⟨W.heap.size, 2, none⟩ = some (.int .i64 m3)) := Lib.hid (fun w' hf => by
    have hr := (hf.block cb hCU.size hCU.nd).trans hCU.row
    have hm2 := (hf.block W.heap.size (Array.getElem?_eq_some_iff.1 hmv).1 hmd).trans hmv
    exact ⟨cell_of_row w' cb 0 _ _ (0, 0) hr, cell_of_row w' _ 0 _ _ (0, 0) hm2, cell_of_row w' _ 1 _ _ (0, 0) hm2, cell_of_row w' _ 2 _ _ (0, 0) hm2⟩)
  have HDO : Hid (∀ w', Below U.heap.size U w' → Calls Tryz.prog 87 #[.pointer (some ⟨bb, 0, none⟩), .agg #[.int .i64 m1, .int .i64 m2, .int .i64 m3]] w' fun e w'' => e = .returned (.int .i64 0) ∧ Fram D w' w'' ∧ ∃ D', Left D w' w'' cb bb r (afterD r q (m1, m2, m3)) (es ++ [q]) t D') := Lib.hid (fun w' hb => (hCU.keep hb).doOk hm (by omega))
  have hk0 := (Left.zero hC ((Below.refl W.heap.size W).alloc (Nat.le_refl _) (.cells #[.int .i64 m1, .int .i64 m2, .int .i64 m3] 37))).ctr.cells
  obtain ⟨-, k1, -⟩ := hk0
  have HC0 := Lib.hid hC
  have hle2 : es.length + d ≤ 89 := by omega
  have h1 : (x == 0) = false := by simp; omega
  have h2 : decide ((t : Int) > 50000) = false := by simp; omega
  have h3 : decide ((50000 : Int) < (t : Int)) = false := by simp; omega
  have HX := Lib.hid hx
  have HP := Lib.hid hP
  clear hC hCU hb0 hmv hmd hm hle ht hx hP
  unfold moveV
  dsimp only
  go_enter Tryz.func65, Tryz.ntmps65
  go_wp2_with fail
  rw [← hU]
  clear hU k1 h1 h2 h3
  have hBc : Fram D U U.drew := Fram.of (Below.refl _ _).drew
  obtain ⟨k0, n0, n1, n2⟩ := HS.out U (Fram.of (Below.refl _ _))
  go_region_held3 (fun w' => w'.cell? ⟨cb, 0, none⟩ = some (.pointer (some ⟨bb, 0, none⟩)) ∧ w'.cell? ⟨W.heap.size, 0, none⟩ = some (.int .i64 m1) ∧ w'.cell? ⟨W.heap.size, 1, none⟩ = some (.int .i64 m2) ∧ w'.cell? ⟨W.heap.size, 2, none⟩ = some (.int .i64 m3)) (with_reducible exact HS.out _ hBc) (first
    | (go_at_call 87; refine (HDO.out _ (Below.refl _ _).drew).mono ?_; rintro e w5 ⟨rfl, hfr, D5, hL5⟩; have hBc : Fram D U w5 := (Fram.of (Below.refl U.heap.size U).drew).trans hfr; clear hfr))
  have HL5 := Lib.hid (HL0.out.trans ((Left.zero HL0.out.ctr (Below.refl _ _).drew).trans hL5))
  have HP5 := Lib.hid (HP.out D5 w5 cb bb r (afterD r q (m1, m2, m3)) (es ++ [q]) t x (by have := HX.out; push_cast at this; omega) HL5.out.ctr (by simp; omega) (by omega))
  clear hL5 hBc k0 n0 n1 n2 HS HDO HL0
  go_wp2_with fail
  go_at_call 46; refine HP5.out.mono ?_; rintro e w6 ⟨a, n, c, xs, u, D6, rfl, hI, hn, hL6, hwent, hex, hfst, hsum⟩
  have hu := hwent.2.2.2
  have hxl : xs.length ≤ 5000 := by
    have h1 := congrArg List.length hfst
    rw [List.length_map] at h1
    rw [h1]; exact steps_length HL5.out.ctr.brd.ok.1
  have HSU := Lib.hid (sum_any xs (.slice a n c) w6 hI (by omega) (by omega))
  have HL6 := Lib.hid (HL5.out.trans hL6)
  have HZ : Hid (u ≤ 50000 → sumP xs = cntD r (d + 1) (afterD r q (m1, m2, m3))) := Lib.hid (fun h => by rw [hex h]; exact sumP_parts r d _)
  have HWT := Lib.hid hwent
  have HSM := Lib.hid hsum
  generalize sumP xs = z at HSU HZ HSM
  clear hI hn hL6 hwent hex hfst hsum hu hxl HP5
  go_wp2_with fail
  go_at_call 30; refine HSU.out.mono ?_; rintro e w7 ⟨rfl, hb⟩
  have hL7 := HL6.out.keep hb
  have HL7 := Lib.hid hL7
  obtain ⟨k0, -, -⟩ := hL7.ctr.cells
  have HUN := Lib.hid (hL7.ctr.undoOk (by omega))
  clear hb hL7 HSU HL6 HL5
  go_wp2_with fail
  go_at_call 88; refine HUN.out.mono ?_; rintro e w8 ⟨rfl, hL8⟩
  have HL8 := Lib.hid (HL7.out.trans hL8)
  clear hL8 HUN HL7 k0
  go_wp2_with fail
  go_ret
  exact ⟨z, u, D6, rfl, HL8.out, HWT.out, HZ.out, by have := HSM.out; omega⟩

/-! ### parts -/
theorem infoPart : (Tryz.prog.info? 39).map (fun i => (i.zero, i.size, i.bytes)) = some (some (.agg #[.int .i64 0, .int .i64 0, .int .i64 0, .int .i64 0]), 4, 32) := by kernel_rfl
theorem mvBlk_on {b d : Nat → Prop} {W W' : World} {v : Value} {xs : List MoveD} (h : IsSl (Blk b MoveAt) 3 W v xs) (hs : ∀ k, b k → k < W.heap.size → W'.heap[k]? = W.heap[k]? ∧ d k) : IsSl (Blk d MoveAt) 3 W' v xs :=
  h.mono fun g _ _ hx => by
    obtain ⟨e, hd⟩ := hs g hx.1 (World.block_lt_of_cell? _ _ hx.2.1)
    exact ⟨hd, (World.cell?_of_block (w := W) e).trans hx.2.1, (World.cell?_of_block (w := W) e).trans hx.2.2.1, (World.cell?_of_block (w := W) e).trans hx.2.2.2⟩
/-- What the loop keeps: the counter, the row of parts (in a block of the call's own that is none of the board's), the moves. -/
structure LoopS (D0 : Nat → Prop) (w0 W : World) (cb bb : Nat) (r : RulesD) (q : PlaceD) (es : List PlaceD) (u : Nat) (D : Nat → Prop) (pa : Option Addr) (pn pc : Nat) (xs : List (MoveD × Nat)) (la : Option Addr) (ln lc : Nat) (ms : List MoveD) : Prop where
  left : Left D0 w0 W cb bb r q es u D
  cbw : cb < w0.heap.size
  own : W.ownsRow w0.heap.size 39 4 (.slice pa pn pc) xs.length (ptcs xs)
  pnd : ∀ a, pa = some a → ¬ D a.block
  mov : IsSl (Blk (fun j => ¬ D j ∧ j ≠ cb ∧ ∀ a, pa = some a → j ≠ a.block) MoveAt) 3 W (.slice la ln lc) ms
theorem LoopS.plt {D0 : Nat → Prop} {w0 W : World} {cb bb : Nat} {r : RulesD} {q : PlaceD} {es : List PlaceD} {u : Nat} {D : Nat → Prop} {pa : Option Addr} {pn pc : Nat} {xs : List (MoveD × Nat)} {la : Option Addr} {ln lc : Nat} {ms : List MoveD} (h : LoopS D0 w0 W cb bb r q es u D pa pn pc xs la ln lc ms) : ∀ a, pa = some a → w0.heap.size ≤ a.block ∧ a.block < W.heap.size := fun a ha => by
  have h1 := h.own
  subst ha
  exact h1.lt a.block rfl
theorem LoopS.keep {D0 : Nat → Prop} {w0 W W' : World} {cb bb : Nat} {r : RulesD} {q : PlaceD} {es : List PlaceD} {u : Nat} {D : Nat → Prop} {pa : Option Addr} {pn pc : Nat} {xs : List (MoveD × Nat)} {la : Option Addr} {ln lc : Nat} {ms : List MoveD} (h : LoopS D0 w0 W cb bb r q es u D pa pn pc xs la ln lc ms) (hb : Below W.heap.size W W') : LoopS D0 w0 W' cb bb r q es u D pa pn pc xs la ln lc ms :=
  ⟨h.left.keep hb, h.cbw, own_below h.own hb, h.pnd, mvBlk_on h.mov fun k hk hl => ⟨hb.block k hl, hk⟩⟩
theorem LoopS.step {D0 : Nat → Prop} {w0 W W' : World} {cb bb : Nat} {r : RulesD} {q : PlaceD} {es : List PlaceD} {u v : Nat} {D D' : Nat → Prop} {pa : Option Addr} {pn pc : Nat} {xs : List (MoveD × Nat)} {la : Option Addr} {ln lc : Nat} {ms : List MoveD} (h : LoopS D0 w0 W cb bb r q es u D pa pn pc xs la ln lc ms) (hL : Left D W W' cb bb r q es v D') : LoopS D0 w0 W' cb bb r q es v D' pa pn pc xs la ln lc ms := by
  refine ⟨h.left.trans hL, h.cbw, own_at h.own (fun a ha => hL.fram.block a.block (h.plt a ha).2 fun g => ?_), fun a ha g => ?_, mvBlk_on h.mov fun k hk hl => ⟨hL.fram.block k hl fun g => ?_, fun g => ?_, hk.2⟩⟩
  · rcases g with g | g
    · exact h.pnd a ha g
    · have := (h.plt a ha).1; have := h.cbw; omega
  · rcases hL.new _ g with g | g
    · exact h.pnd a ha g
    · have := (h.plt a ha).2; omega
  · rcases g with g | g
    · exact hk.1 g
    · exact hk.2.1 g
  · rcases hL.new _ g with g | g
    · exact hk.1 g
    · omega
theorem LoopS.add {D0 : Nat → Prop} {w0 W X w7 : World} {cb bb gg cap N : Nat} {r : RulesD} {q : PlaceD} {es : List PlaceD} {u : Nat} {D : Nat → Prop} {pa : Option Addr} {pn pc : Nat} {xs : List (MoveD × Nat)} {la : Option Addr} {ln lc : Nat} {ms : List MoveD} (h : LoopS D0 w0 W cb bb r q es u D pa pn pc xs la ln lc ms) (hX : Below W.heap.size W X) {x : MoveD × Nat} {n : Nat} (hn : n = xs.length)
    (hown : w7.ownsRow w0.heap.size 39 4 (.slice (some ⟨gg, 0, none⟩) (n + 1) cap) (n + 1) (ptcs xs ++ ptc x)) (hgrow : X.grownBy w7 (Value.ownBlock (.slice pa pn pc))) (hat : Value.ownBlock (.slice pa pn pc) = some gg ∨ gg = N) (hN : W.heap.size ≤ N) : LoopS D0 w0 w7 cb bb r q es u D (some ⟨gg, 0, none⟩) (n + 1) cap (xs ++ [x]) la ln lc ms := by
  have hob : ∀ k, Value.ownBlock (.slice pa pn pc) = some k → ∃ a, pa = some a ∧ a.block = k := fun k hk => by
    cases pa with
    | none => simp [Value.ownBlock] at hk
    | some a => simp [Value.ownBlock] at hk; exact ⟨a, rfl, hk⟩
  have h7 : ∀ k, k < W.heap.size → (∀ a, pa = some a → k ≠ a.block) → w7.heap[k]? = W.heap[k]? := fun k hk hne => (hgrow.block k (by have := hX.size; omega) (fun e => by
    obtain ⟨a, ha, hb⟩ := hob k e.symm
    exact hne a ha hb.symm)).trans (hX.block k hk)
  have hlt : ∀ k, D k → k < W.heap.size := h.left.ctr.brd.ok.2.2.1
  have hold : ∀ k, k < w0.heap.size → w7.heap[k]? = W.heap[k]? := fun k hk => h7 k (by have := h.left.fram.size; omega) (fun a ha => by have := (h.plt a ha).1; omega)
  have hs7 : W.heap.size ≤ w7.heap.size := Nat.le_trans hX.size hgrow.size
  have hbl : Below w0.heap.size W w7 := ⟨hgrow.os.trans hX.os, hgrow.tape.trans hX.tape, hgrow.output.trans hX.output, hs7, hold⟩
  have hc := h.left.ctr
  have hL : Left D0 w0 w7 cb bb r q es u D :=
    ⟨⟨(hold cb h.cbw).trans hc.row, hc.brd.keepOn (fun k hk _ => hold k (by have := hc.lt; have := h.cbw; omega)) hs7 (fun k hk => h7 k (hlt k hk) (fun a ha e => h.pnd a ha (e ▸ hk))), hc.nd, hc.lt⟩, h.left.new, h.left.fram.thenB hbl⟩
  subst hn
  refine ⟨hL, h.cbw, by rw [ptcs_append, ptcs_one, List.length_append]; exact hown, fun a ha g => ?_, mvBlk_on h.mov fun k hk hl => ⟨h7 k hl hk.2.2, hk.1, hk.2.1, fun a ha e => ?_⟩⟩
  · cases ha
    rcases hat with g1 | g1
    · obtain ⟨a, ha, hb⟩ := hob gg g1
      exact h.pnd a ha (by rw [hb]; exact g)
    · have := hlt gg g; omega
  · cases ha
    rcases hat with g1 | g1
    · obtain ⟨a, ha, hb⟩ := hob gg g1
      exact hk.2.2 a ha (by rw [hb]; exact e)
    · have e2 : k = gg := e
      omega
theorem LoopS.move {D0 : Nat → Prop} {w0 W : World} {cb bb : Nat} {r : RulesD} {q : PlaceD} {es : List PlaceD} {u : Nat} {D : Nat → Prop} {pa : Option Addr} {pn pc : Nat} {xs : List (MoveD × Nat)} {la : Option Addr} {ln lc : Nat} {ms : List MoveD} (h : LoopS D0 w0 W cb bb r q es u D pa pn pc xs la ln lc ms) {k : Nat} (hk : k < ln) (hl : ln = ms.length) : ∃ g o m1 m2 m3, la = some ⟨g, o, none⟩ ∧ ms[k]? = some (m1, m2, m3) ∧ W.cell? ⟨g, o + k * 3, none⟩ = some (.int .i64 m1) ∧ W.cell? ⟨g, o + k * 3 + 1, none⟩ = some (.int .i64 m2) ∧ W.cell? ⟨g, o + k * 3 + 2, none⟩ = some (.int .i64 m3) := by
  obtain ⟨a, c, e, _, hj⟩ := h.mov.shape hl
  simp only [Value.slice.injEq, true_and] at e
  obtain ⟨rfl, rfl⟩ := e
  obtain ⟨g, o, ⟨m1, m2, m3⟩, i1, i2, _, c0, c1, c2⟩ := hj k hk
  exact ⟨g, o, m1, m2, m3, i1, i2, c0, c1, c2⟩
set_option maxHeartbeats 8000000 in
theorem prt_of (d : Nat) (h : PAftC d) : PrtC d := by
  intro D W cb bb r q es t x hx hC hle ht
  obtain ⟨i0, hi, hz0, hz1, hz2⟩ := info_parts infoPart
  obtain ⟨ms, hms⟩ : ∃ ms, ms = stepsD r q := ⟨_, rfl⟩
  have HMV : Hid (Calls Tryz.prog 64 #[.pointer (some ⟨bb, 0, none⟩)] W (BFresh ms W)) := Lib.hid (by rw [hms]; exact moves_steps hC.brd)
  have hok := hC.brd.ok.1
  have hl5 : ms.length ≤ 5000 := by rw [hms]; exact steps_length hok
  have HU0 : Hid (Upto r d q t 0 (t + ms.length) []) := Lib.hid (by rw [hms]; exact Upto.zero hok ht)
  obtain ⟨k0, -, -⟩ := hC.cells
  have HC := Lib.hid hC
  have HA := Lib.hid h
  have HX := Lib.hid hx
  have HMS := Lib.hid hms
  have HLE := Lib.hid hle
  have hx1 : 1 ≤ x := by omega
  have hx2 : x ≤ 100 := by omega
  clear h hC hx hms hok hle
  go_enter Tryz.func46, Tryz.ntmps46
  go_wp2_with fail
  go_at_call 64; refine HMV.out.mono ?_; rintro e w1 ⟨la, ln, lc, rfl, hI, hln, hb⟩
  have hL1 := Left.zero HC.out hb
  have HL1 := Lib.hid hL1
  obtain ⟨-, k1, f1⟩ := hL1.ctr.cells
  have HI := Lib.hid hI
  have HLN := Lib.hid hln
  have hln5 : ln ≤ 5000 := by omega
  rw [← hln] at HU0
  clear hb hI hL1 HMV k0 hl5 hln
  go_wp2_with fail
  have hS1 : LoopS D W (w1.setCell ⟨cb, 1, none⟩ (.int .i64 ((t : Int) + (ln : Int)))) cb bb r q es (t + ln) D none 0 0 [] la ln lc ms := by
    have hp := HL1.out.put (t + ln)
    have e : (((t + ln : Nat) : Int)) = (t : Int) + (ln : Int) := by push_cast; rfl
    rw [e] at hp
    refine ⟨hp, HC.out.size, World.ownsRow_nil _ _ _ _, (fun a ha => by cases ha), mvBlk_on HI.out fun k (hk : W.heap.size ≤ k) _ => ⟨heap_setCell_other _ ⟨cb, 1, none⟩ _ _ (show k ≠ cb by have := HC.out.size; omega), fun g => ?_, by have := HC.out.size; omega, (fun a ha => by cases ha)⟩⟩
    have := HC.out.brd.ok.2.2.1 k g; omega
  have HS1 := Lib.hid hS1
  clear hS1 k1 f1 HI HL1
  generalize w1.setCell ⟨cb, 1, none⟩ (.int .i64 ((t : Int) + (ln : Int))) = w2 at HS1 ⊢
  go_loopw [6, 8, 25] (fun v _ i wr => ∃ (k u : Nat) (xs : List (MoveD × Nat)) (D' : Nat → Prop) (pa : Option Addr) (pn pc : Nat), k ≤ ln ∧ v = .slice pa pn pc ∧ i = .int .i64 (k : Int) ∧ Hid (LoopS D W wr cb bb r q es u D' pa pn pc xs la ln lc ms) ∧ Hid (Upto r d q t k u xs)) (fun _ _ i _ => ln - (intOf i).toNat)
  case atStart => exact ⟨0, t + ln, [], D, none, 0, 0, by omega, rfl, rfl, HS1, HU0⟩
  case round =>
    clear HS1 HU0
    obtain ⟨k, u, xs, D', pa, pn, pc, hk, rfl, rfl, hS, hU⟩ := hrel
    by_cases hlt : k < ln
    · obtain ⟨g, o, m1, m2, m3, rfl, hm, c0, c1, c2⟩ := hS.out.move hlt HLN.out
      have hal := (Below.refl wr.heap.size wr).alloc (Nat.le_refl _) (.cells #[.int .i64 m1, .int .i64 m2, .int .i64 m3] 37)
      have HS2 := Lib.hid (hS.out.keep hal)
      have hmb := heap_alloc_new wr (.cells #[.int .i64 m1, .int .i64 m2, .int .i64 m3] 37)
      have hmd : ¬ D' wr.heap.size := fun g => by have := hS.out.left.ctr.brd.ok.2.2.1 _ g; omega
      have hmc : wr.heap.size ≠ cb := by have := hS.out.left.ctr.size; omega
      have HMW : Hid (∀ a, pa = some a → a.block < wr.heap.size) := Lib.hid (fun a ha => (hS.out.plt a ha).2)
      obtain ⟨w2', hw2⟩ : ∃ w2', w2' = wr.alloc (.cells #[.int .i64 m1, .int .i64 m2, .int .i64 m3] 37) := ⟨_, rfl⟩
      rw [← hw2] at hmb HS2
      obtain ⟨mb, hmbe⟩ : ∃ mb, mb = wr.heap.size := ⟨_, rfl⟩
      rw [← hmbe] at hmb hmd hmc
      have hmlt : mb < w2'.heap.size := (Array.getElem?_eq_some_iff.1 hmb).1
      have HSW : Hid (∀ w' : World, w'.heap[mb]? = w2'.heap[mb]? → w'.cell? ⟨mb, 0, none⟩ = some (.int .i64 m1) ∧ w'.cell? ⟨mb, 1, none⟩ = some (.int .i64 m2) ∧ w'.cell? ⟨mb, 2, none⟩ = some (.int .i64 m3)) := Lib.hid (fun w' hw => by
        have h1 := hw.trans hmb
        exact ⟨cell_of_row w' mb 0 _ _ (0, 0) h1, cell_of_row w' mb 1 _ _ (0, 0) h1, cell_of_row w' mb 2 _ _ (0, 0) h1⟩)
      have hms : m1 = m1 ∧ (m1, m2, m3) ∈ stepsD r q ∧ (stepsD r q)[k]? = some (m1, m2, m3) := ⟨rfl, by rw [← HMS.out]; exact List.mem_of_getElem? hm, by rw [← HMS.out]; exact hm⟩
      have HMK := Lib.hid hms.2.2
      have HAF : Hid (∀ (w' : World) (x' : Int), x' = (d : Int) → Below w2'.heap.size w2' w' → Calls Tryz.prog 65 #[.pointer (some ⟨cb, 0, none⟩), .agg #[.int .i64 m1, .int .i64 m2, .int .i64 m3], .int .i64 x'] w' (PAftPost d D' w' cb bb r q es (m1, m2, m3) u)) := Lib.hid (fun w' x' hx' hb => HA.out D' w' cb bb r q es (m1, m2, m3) u x' hx' (HS2.out.left.ctr.keep hb) hms.2.1 HLE.out hU.out.most)
      have hxl : xs.length = k := by
        have h1 := congrArg List.length hU.out.fst
        rw [List.length_map, List.length_take, ← HMS.out, ← HLN.out] at h1
        omega
      have HXL := Lib.hid hxl
      have HMD := Lib.hid hmd
      have HMC := Lib.hid hmc
      have HML := Lib.hid hmlt
      have HMB := Lib.hid hmbe
      have d0 : w2'.cell? ⟨mb, 0, none⟩ = some (.int .i64 m1) := (HSW.out _ rfl).1
      have d1 : w2'.cell? ⟨mb, 1, none⟩ = some (.int .i64 m2) := (HSW.out _ rfl).2.1
      have d2 : w2'.cell? ⟨mb, 2, none⟩ = some (.int .i64 m3) := (HSW.out _ rfl).2.2
      clear hal hm hS hms hmd hmc hmlt hmb hxl
      go_wp2_with fail
      rw [← hw2, ← hmbe]
      clear hw2 hmbe c0 c1 c2
      refine wp_region_held_drew (S := fun (w' : World) => w'.cell? ⟨mb, 0, none⟩ = some (.int .i64 m1) ∧ w'.cell? ⟨mb, 1, none⟩ = some (.int .i64 m2) ∧ w'.cell? ⟨mb, 2, none⟩ = some (.int .i64 m3)) (by kernel_rfl) ?_ (fun hHeld => ?_)
      · exact HSW.out _ rfl
      refine wpAnyH_take (i := 0) (v := ?_) rfl (by kernel_rfl) (by kernel_rfl) (by kernel_rfl) (fun _ _ _ h => h) (Or.inl ⟨by rfl, ?_⟩) (by assumption) ?_
      rotate_left
      · intro w hSw
        (try dsimp only at hSw)
        go_simp
        all_goals with_reducible rfl
      simp only [Act.put, List.setIfInBounds_toArray, List.set_cons_zero, List.set_cons_succ, List.getElem_toArray, List.getElem_cons_zero]
      refine wpAnyH_take (i := 1) (v := ?_) rfl (by kernel_rfl) (by kernel_rfl) (by kernel_rfl) (fun _ _ _ h => h) (Or.inl ⟨by rfl, ?_⟩) (by assumption) ?_
      rotate_left
      · intro w hSw
        (try dsimp only at hSw)
        go_simp
        all_goals with_reducible rfl
      simp only [Act.put, List.setIfInBounds_toArray, List.set_cons_zero, List.set_cons_succ, List.getElem_toArray, List.getElem_cons_zero, List.getElem_cons_succ]
      refine wpAnyH_take (i := 2) (v := ?_) rfl (by kernel_rfl) (by kernel_rfl) (by kernel_rfl) (fun _ _ _ h => h) (Or.inl ⟨by rfl, ?_⟩) (by assumption) ?_
      rotate_left
      · intro w hSw
        (try dsimp only at hSw)
        go_simp
        all_goals with_reducible rfl
      simp only [Act.put, List.setIfInBounds_toArray, List.set_cons_zero, List.set_cons_succ, List.getElem_toArray, List.getElem_cons_zero, List.getElem_cons_succ]
      refine wpAnyH_take (i := 3) (v := ?_) rfl (by kernel_rfl) (by kernel_rfl) (by kernel_rfl) (fun _ _ _ h => h) (Or.inl ⟨by rfl, ?_⟩) (by assumption) ?_
      rotate_left
      · intro w hSw
        (try dsimp only at hSw)
        go_simp
        all_goals with_reducible rfl
      simp only [Act.put, List.setIfInBounds_toArray, List.set_cons_zero, List.set_cons_succ, List.getElem_toArray, List.getElem_cons_zero, List.getElem_cons_succ]
      refine wpAnyH_take (i := 4) (v := ?_) rfl (by kernel_rfl) (by kernel_rfl) (by kernel_rfl) (fun _ _ _ h => h) (Or.inl ⟨by rfl, ?_⟩) (by assumption) ?_
      rotate_left
      · intro w hSw
        (try dsimp only at hSw)
        go_simp
        all_goals with_reducible rfl
      simp only [Act.put, List.setIfInBounds_toArray, List.set_cons_zero, List.set_cons_succ, List.getElem_toArray, List.getElem_cons_zero, List.getElem_cons_succ]
      refine wpAnyH_take (i := 5) (v := ?_) rfl (by kernel_rfl) (by kernel_rfl) (by kernel_rfl) (fun _ _ _ h => h) (Or.inl ⟨by rfl, ?_⟩) (by assumption) ?_
      rotate_left
      · intro w hSw
        (try dsimp only at hSw)
        go_simp
        all_goals with_reducible rfl
      simp only [Act.put, List.setIfInBounds_toArray, List.set_cons_zero, List.set_cons_succ, List.getElem_toArray, List.getElem_cons_zero, List.getElem_cons_succ]
      refine wpAnyH_ready (rs := [6]) (by kernel_rfl) (by simp) (AllReadyH.cons rfl (fun K hK => ?_) AllReadyH.nil)
      go_simp
      go_at_call 65; refine (HAF.out _ _ (by have h := HX.out; rw [IntKind.wrap_i64]; omega) (Below.refl _ _).drew).mono ?_; rintro e w5 ⟨z, v, D5, rfl, hL5, hwent, hex, hz⟩
      have hS5 := HS2.out.step ((Left.zero HS2.out.left.ctr (Below.refl _ _).drew).trans hL5)
      have hk5 : w5.heap[mb]? = w2'.heap[mb]? := hL5.fram.block mb HML.out (fun g => g.elim HMD.out HMC.out)
      have hsz5 : w2'.heap.size ≤ w5.heap.size := hL5.fram.size
      have hU5 := hU.out.next HMK.out hwent hex hz
      have hz60 : z ≤ 60000 := by have := hwent.2.2.2; omega
      refine hK.out _ _ ?_ (fun hHeld => ?_)
      · exact HSW.out _ hk5
      clear hK K
      try simp only [Act.put, List.setIfInBounds_toArray, List.set_cons_zero, List.set_cons_succ, List.getElem_toArray, List.getElem_cons_zero, List.getElem_cons_succ]
      refine wpAnyH_take (i := 7) (v := ?_) rfl (by kernel_rfl) (by kernel_rfl) (by kernel_rfl) (fun _ _ _ h => h) (Or.inl ⟨by rfl, ?_⟩) (by assumption) ?_
      rotate_left
      · intro w hSw
        (try dsimp only at hSw)
        go_simp
        all_goals with_reducible rfl
      simp only [Act.put, List.setIfInBounds_toArray, List.set_cons_zero, List.set_cons_succ, List.getElem_toArray, List.getElem_cons_zero, List.getElem_cons_succ]
      refine wpAnyH_ready (rs := [8]) (by kernel_rfl) (by simp) (AllReadyH.cons rfl (fun K hK => ?_) AllReadyH.nil)
      go_simp
      refine hK.out _ _ ?_ (fun hHeld => ?_)
      · exact HSW.out _ ((Below.heap_alloc w5 _ mb (Nat.lt_of_lt_of_le HML.out hsz5)).trans hk5)
      clear hK K
      try simp only [Act.put, List.setIfInBounds_toArray, List.set_cons_zero, List.set_cons_succ, List.getElem_toArray, List.getElem_cons_zero, List.getElem_cons_succ]
      refine wpAnyH_ready (rs := [9]) (by kernel_rfl) (by simp) (AllReadyH.cons rfl (fun K hK => ?_) AllReadyH.nil)
      have hbase : W.heap.size ≤ w5.heap.size := hS5.left.fram.size
      have hown5 := hS5.own
      rw [HXL.out] at hown5
      refine step_append_lies _ (by rfl) _ _ _ (by rfl) W.heap.size 39 i0 _ 4 32 Tryz.underlying30 hi hz0 hz1 hz2 rfl (by omega) (.slice pa pn pc) k (ptcs xs) (by rfl) ((own_below hown5 (Below.refl _ _)).alloc _) ⟨w5.heap.size, 0, none⟩ 1 1 [.int .i64 m1, .int .i64 m2, .int .i64 m3, .int .i64 (z : Int)] (by rfl) (by rfl) (World.news_of_block (cs := #[.int .i64 m1, .int .i64 m2, .int .i64 m3, .int .i64 (z : Int)]) (t := 39) (fr := (0, 0)) (heap_alloc_new w5 _)) (by simp [Value.oneCell']) (by omega) (by unfold maxLen; omega) (by omega) (by simp; omega) (w5.heap.size + 1) (by simp) ?_
      intro gg cap w7 hown7 hgrow7 hat7 hlt7
      have hS7 := hS5.add ((Below.refl w5.heap.size w5).alloc (Nat.le_refl _) (.cells #[.int .i64 m1, .int .i64 m2, .int .i64 m3, .int .i64 (z : Int)] 39)) (x := ((m1, m2, m3), z)) HXL.out.symm hown7 hgrow7 hat7 (Nat.le_succ _)
      have hk7 : w7.heap[mb]? = w2'.heap[mb]? := (hgrow7.block mb (by have := HML.out; simp; omega) (fun e => by
        cases pa with
        | none => simp [Value.ownBlock] at e
        | some a =>
          simp [Value.ownBlock] at e
          have h1 := (HS2.out.plt a rfl).2
          have h2 := HMB.out
          have h3 := HMW.out a rfl
          omega)).trans ((Below.heap_alloc w5 _ mb (Nat.lt_of_lt_of_le HML.out hsz5)).trans hk5)
      refine hK.out _ _ ?_ (fun hHeld => ?_)
      · exact HSW.out _ hk7
      clear hK K
      try simp only [Act.put, List.setIfInBounds_toArray, List.set_cons_zero, List.set_cons_succ, List.getElem_toArray, List.getElem_cons_zero, List.getElem_cons_succ]
      refine wpAnyH_take (i := 10) (v := ?_) rfl (by kernel_rfl) (by kernel_rfl) (by kernel_rfl) (fun _ _ _ h => h) (Or.inl ⟨by rfl, ?_⟩) (by assumption) ?_
      rotate_left
      · intro w hSw
        (try dsimp only at hSw)
        go_simp
        all_goals with_reducible rfl
      simp only [Act.put, List.setIfInBounds_toArray, List.set_cons_zero, List.set_cons_succ, List.getElem_toArray, List.getElem_cons_zero, List.getElem_cons_succ]
      refine wpAnyH_done (by kernel_rfl) ?_ _
      have HS7 := Lib.hid hS7
      have HU5 := Lib.hid hU5
      clear hS7 hk7 hown7 hgrow7 hat7 hlt7 hS5 hL5 hk5 hU5 hwent hex hown5
      go_wp2_with fail
      go_roundw
      case rel => exact ⟨k + 1, v, xs ++ [((m1, m2, m3), z)], D5, some ⟨gg, 0, none⟩, k + 1, cap, by omega, rfl, by go_num, HS7, HU5⟩
      case measure => simp [intOf]; omega
    · obtain rfl : k = ln := by omega
      have hd := hU.out
      have e : k = (stepsD r q).length := by rw [← HMS.out]; exact HLN.out
      rw [e] at hd
      have HD := Lib.hid hd.done
      clear hd e
      go_wp2_with fail
      go_ret
      exact ⟨pa, pn, pc, xs, u, D', rfl, parts_of_own hS.out.own, own_len hS.out.own, hS.out.left, HD.out.1, HD.out.2.1, HD.out.2.2.1, HD.out.2.2.2⟩
theorem prt_all : ∀ d, PrtC d
  | 0 => prt_of 0 aft_zero
  | d + 1 => prt_of (d + 1) (aft_succ d (prt_all d))
end Go.Proofs.YtdhhdkbnlddnbaaGreatDoor
