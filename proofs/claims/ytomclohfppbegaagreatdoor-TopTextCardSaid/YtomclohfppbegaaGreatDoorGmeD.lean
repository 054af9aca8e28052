/- Games: what lies in memory, and New, Moves, Count, Position, Back. (Written by gengme.py.) -/
import Derived.Test.YtomclohfppbegaaGreatDoorBrdD
import Derived.Test.YtomclohfppbegaaGreatDoorGmeP
import Derived.Deep.RegionHeld3
import Derived.Deep.AppendLies
import Derived.OwnWalk
set_option maxRecDepth 100000
namespace Go.Proofs.YtomclohfppbegaaGreatDoor
open Go.ChangeShapes Go.WideShapes Go.ChangeAt Go.RowKit

/-! ### slices.Clone at []api.Move -/
theorem infoMoveG : (Tryz.prog.info? 47).map (fun i => (i.zero, i.size, i.bytes)) = some (some (.agg #[.int .i64 0, .int .i64 0, .int .i64 0]), 3, 24) := by kernel_rfl

/-! ### rules.Clone of rules that are not right -/
def RBad (c : Int) (w : World) (e : Ending) (w' : World) : Prop := e = .returned (.tuple #[RulesV zero0 (.slice none 0 0) (.slice none 0 0) (.slice none 0 0), .int .i64 c]) ∧ Below w.heap.size w w'
set_option maxHeartbeats 4000000 in
theorem rclone_bad (r : RulesD) (vp vs ve : Value) (w : World) (hr : RulesIn w r vp vs ve) (hz : rulesE r ≠ 0) :
    Calls Tryz.prog 34 #[RulesV r vp vs ve] w (RBad (rulesE r) w) := by
  obtain ⟨c, hc⟩ : ∃ c, c = rulesE r := ⟨_, rfl⟩
  have HCK : Hid (∀ W, Below w.heap.size w W → Calls Tryz.prog 16 #[RulesV r vp vs ve] W (BelPost (.int .i64 c) W)) := Lib.hid (fun W h => by rw [hc]; exact check_any r vp vs ve W (hr.below h (Nat.le_refl _)))
  rw [← hc] at hz ⊢
  have hne : (c != 0) = true := by simpa using hz
  have HX0 := RBox.alloc (RBox.new w 26 r vp vs ve) (.cells (RulesCells zero0 (.slice none 0 0) (.slice none 0 0) (.slice none 0 0)) 26)
  have HZ0 := RBox.new (w.alloc (.cells (RulesCells r vp vs ve) 26)) 26 zero0 (.slice none 0 0) (.slice none 0 0) (.slice none 0 0)
  have HB0 := Below.alloc (Below.alloc (Below.refl w.heap.size w) (Nat.le_refl _) (.cells (RulesCells r vp vs ve) 26)) (by simp) (.cells (RulesCells zero0 (.slice none 0 0) (.slice none 0 0) (.slice none 0 0)) 26)
  have HX := Lib.hid HX0
  have HZ := Lib.hid HZ0
  have HB := Lib.hid HB0
  unfold RulesV at HCK ⊢
  clear hr HX0 HZ0 HB0 hc hz
  go_enter Tryz.func34, Tryz.ntmps34
  go_wp2_with fail
  go_at_call 16; refine (HCK.out _ HB.out).mono ?_; rintro e w1 ⟨rfl, hb⟩
  have HB1 := Lib.hid (HB.out.trans (hb.mono HB.out.size))
  have hz1 := HZ.out.below hb (by simp)
  simp only [World.size_alloc] at hz1
  have HZ1 := Lib.hid hz1
  have HZF := hz1.facts
  clear hb HB HZ HX hz1 HCK
  unfold RFacts BoxR at HZF
  obtain ⟨⟨z0, z1, z2, z3, z4, z5, z6, z7, z8, z9, z10⟩, y0, y1, y2, y3, y4, y5, y6, y7, y8, y9, y10⟩ := HZF
  go_wp2_with fail
  clear z0 z1 z2 z3 z4 z5 z6 z7 z8 z9 z10 y0 y1 y2 y3 y4 y5 y6 y7 y8 y9 y10
  have HR2 := rbox_fill (r := zero0) (vp := .slice none 0 0) (vs := .slice none 0 0) (ve := .slice none 0 0) HZ1.out
  refine bodyPost_ret (results_row_tmpP rfl _ _ (w.heap.size + 1) 26 _ (0, 0) _ rfl HR2 Tryz.underlying26 rfl (by kernel_rfl)) rfl ?_
  exact ⟨rfl, fill_below HB1.out (b := w.heap.size + 1) (by omega) zero0 (.slice none 0 0) (.slice none 0 0) (.slice none 0 0)⟩

/-! ### What lies in memory -/
/-- The cells of a game. -/
def GCells (r : RulesD) (vp vs ve : Value) (q : PlaceD) (vc v0 v1 ev mv : Value) : Array Value :=
  #[.string r.name, .int .i64 r.width, .int .i64 r.height, vp, vs, .bool r.falls, .bool r.keeps, ve, .int .i64 r.blocked, .int .i64 r.quiet, .int .i64 r.rep, vc, v0, v1, .int .i64 q.turn, .int .i64 q.quiet, ev, mv]
/-- A block of a game's own that no later move writes into. -/
def GOk (D : Nat → Prop) (bb : Nat) (ea ma : Option Addr) (k : Nat) : Prop := D k ∧ k ≠ bb ∧ (∀ a, ea = some a → k ≠ a.block) ∧ ∀ a, ma = some a → k ≠ a.block
theorem mcs_app (xs : List MoveD) (m : MoveD) : mcs (xs ++ [m]) = mcs xs ++ [.int .i64 m.1, .int .i64 m.2.1, .int .i64 m.2.2] := by simp [mcs, mc]
theorem mcs_cut (xs : List MoveD) (m : MoveD) : (mcs (xs ++ [m])).take (xs.length * 3) = mcs xs := by rw [mcs_app, List.take_append_of_le_length (by rw [mcs_length]; exact Nat.le_refl _), List.take_of_length_le (by rw [mcs_length]; exact Nat.le_refl _)]
/-- A game lies at bb: its rules (older than bb, in blocks of the kind W1 that are never written), its position, the earlier ones, and the moves. All that it writes into, and its positions, are blocks of the kind D. -/
structure GmeV (W1 : Nat → Prop) (D : Nat → Prop) (W : World) (bb : Nat) (r : RulesD) (q : PlaceD) (es : List PlaceD) (ms : List MoveD) (vp vs ve vc v0 v1 : Value) (ea : Option Addr) (en ec : Nat) (ma : Option Addr) (mn mk : Nat) (news : List Value) : Prop where
  row : W.heap[bb]? = some (.cells (GCells r vp vs ve q vc v0 v1 (.slice ea en ec) (.slice ma mn mk)) 87 (0, 0))
  rules : Fast W1 W bb fun W' => RulesIn W' r vp vs ve
  dir : Fast W1 W bb Dir
  now : PlaceF (GOk D bb ea ma) W q vc v0 v1
  own : W.ownsRow (bb + 1) 43 5 (.slice ea en ec) es.length news
  old : RowOf (GOk D bb ea ma) W es news
  mown : W.ownsRow (bb + 1) 47 3 (.slice ma mn mk) ms.length (mcs ms)
  db : D bb
  de : ∀ a, ea = some a → D a.block
  dm : ∀ a, ma = some a → D a.block
  ne : ∀ a b, ea = some a → ma = some b → a.block ≠ b.block
  lt : ∀ k, D k → k < W.heap.size
  ok : POkay r q
  oks : ∀ p ∈ es, POkay r p
def Gme (W1 : Nat → Prop) (D : Nat → Prop) (W : World) (bb : Nat) (r : RulesD) (q : PlaceD) (es : List PlaceD) (ms : List MoveD) : Prop := ∃ vp vs ve vc v0 v1 ea en ec ma mn mk news, GmeV W1 D W bb r q es ms vp vs ve vc v0 v1 ea en ec ma mn mk news
theorem GmeV.keepOn {W1 : Nat → Prop} {D : Nat → Prop} {W : World} {bb : Nat} {r : RulesD} {q : PlaceD} {es : List PlaceD} {ms : List MoveD} {W' : World} {vp vs ve vc v0 v1 : Value} {ea : Option Addr} {en ec : Nat} {ma : Option Addr} {mn mk : Nat} {news : List Value} (h : GmeV W1 D W bb r q es ms vp vs ve vc v0 v1 ea en ec ma mn mk news) (hb : ∀ k, k < bb → W1 k → W'.heap[k]? = W.heap[k]?) (hs : W.heap.size ≤ W'.heap.size) (hd : ∀ k, D k → W'.heap[k]? = W.heap[k]?) : GmeV W1 D W' bb r q es ms vp vs ve vc v0 v1 ea en ec ma mn mk news :=
  ⟨(hd bb h.db).trans h.row, h.rules.on hb hs, h.dir.on hb hs, h.now.on (fun k hk _ => hd k hk.1) (fun _ h => h), own_at h.own (fun a ha => hd _ (h.de a ha)), h.old.on (fun k hk _ => hd k hk.1) (fun _ h => h), own_at h.mown (fun a ha => hd _ (h.dm a ha)), h.db, h.de, h.dm, h.ne, fun k hk => Nat.lt_of_lt_of_le (h.lt k hk) hs, h.ok, h.oks⟩
theorem GmeV.keep {W1 : Nat → Prop} {D : Nat → Prop} {W : World} {bb : Nat} {r : RulesD} {q : PlaceD} {es : List PlaceD} {ms : List MoveD} {W' : World} {vp vs ve vc v0 v1 : Value} {ea : Option Addr} {en ec : Nat} {ma : Option Addr} {mn mk : Nat} {news : List Value} (h : GmeV W1 D W bb r q es ms vp vs ve vc v0 v1 ea en ec ma mn mk news) (hb : Below W.heap.size W W') : GmeV W1 D W' bb r q es ms vp vs ve vc v0 v1 ea en ec ma mn mk news :=
  h.keepOn (fun k hk _ => hb.block k (by have := h.lt bb h.db; omega)) hb.size (fun k hk => hb.block k (h.lt k hk))
theorem GmeV.weak {W1 : Nat → Prop} {D : Nat → Prop} {W : World} {bb : Nat} {r : RulesD} {q : PlaceD} {es : List PlaceD} {ms : List MoveD} {E : Nat → Prop} {vp vs ve vc v0 v1 : Value} {ea : Option Addr} {en ec : Nat} {ma : Option Addr} {mn mk : Nat} {news : List Value} (h : GmeV W1 D W bb r q es ms vp vs ve vc v0 v1 ea en ec ma mn mk news) (hd : ∀ k, D k → E k) (hl : ∀ k, E k → k < W.heap.size) : GmeV W1 E W bb r q es ms vp vs ve vc v0 v1 ea en ec ma mn mk news :=
  ⟨h.row, h.rules, h.dir, h.now.on (fun _ _ _ => rfl) (fun k hk => ⟨hd k hk.1, hk.2⟩), h.own, h.old.on (fun _ _ _ => rfl) (fun k hk => ⟨hd k hk.1, hk.2⟩), h.mown, hd bb h.db, fun a ha => hd _ (h.de a ha), fun a ha => hd _ (h.dm a ha), h.ne, hl, h.ok, h.oks⟩
theorem Gme.keep {W1 : Nat → Prop} {D : Nat → Prop} {W : World} {bb : Nat} {r : RulesD} {q : PlaceD} {es : List PlaceD} {ms : List MoveD} {W' : World} (h : Gme W1 D W bb r q es ms) (hb : Below W.heap.size W W') : Gme W1 D W' bb r q es ms := by
  obtain ⟨vp, vs, ve, vc, v0, v1, ea, en, ec, ma, mn, mk, news, hv⟩ := h
  exact ⟨vp, vs, ve, vc, v0, v1, ea, en, ec, ma, mn, mk, news, hv.keep hb⟩
theorem Gme.keepOn {W1 : Nat → Prop} {D : Nat → Prop} {W : World} {bb : Nat} {r : RulesD} {q : PlaceD} {es : List PlaceD} {ms : List MoveD} {W' : World} (h : Gme W1 D W bb r q es ms) (hb : ∀ k, k < bb → W1 k → W'.heap[k]? = W.heap[k]?) (hs : W.heap.size ≤ W'.heap.size) (hd : ∀ k, D k → W'.heap[k]? = W.heap[k]?) : Gme W1 D W' bb r q es ms := by
  obtain ⟨vp, vs, ve, vc, v0, v1, ea, en, ec, ma, mn, mk, news, hv⟩ := h
  exact ⟨vp, vs, ve, vc, v0, v1, ea, en, ec, ma, mn, mk, news, hv.keepOn hb hs hd⟩
theorem Gme.ok {W1 : Nat → Prop} {D : Nat → Prop} {W : World} {bb : Nat} {r : RulesD} {q : PlaceD} {es : List PlaceD} {ms : List MoveD} (h : Gme W1 D W bb r q es ms) : POkay r q ∧ (∀ p ∈ es, POkay r p) ∧ (∀ k, D k → k < W.heap.size) ∧ D bb := by
  obtain ⟨vp, vs, ve, vc, v0, v1, ea, en, ec, ma, mn, mk, news, hv⟩ := h
  exact ⟨hv.ok, hv.oks, hv.lt, hv.db⟩
/-- The facts that the walks of a game's methods want. -/
def GFacts (W : World) (bb : Nat) (r : RulesD) (vp vs ve : Value) (q : PlaceD) (vc v0 v1 ev mv : Value) : Prop := BoxR W bb r vp vs ve ∧ (W.cell? ⟨bb, 11, none⟩ = some vc ∧ W.cell? ⟨bb, 12, none⟩ = some v0 ∧ W.cell? ⟨bb, 13, none⟩ = some v1 ∧ W.cell? ⟨bb, 14, none⟩ = some (.int .i64 q.turn) ∧ W.cell? ⟨bb, 15, none⟩ = some (.int .i64 q.quiet)) ∧ W.cell? ⟨bb, 16, none⟩ = some ev ∧ W.cell? ⟨bb, 17, none⟩ = some mv
theorem gfacts {W : World} {bb : Nat} {r : RulesD} {vp vs ve : Value} {q : PlaceD} {vc v0 v1 ev mv : Value} {t : TypeId} (h : W.heap[bb]? = some (.cells (GCells r vp vs ve q vc v0 v1 ev mv) t (0, 0))) : GFacts W bb r vp vs ve q vc v0 v1 ev mv := by
  have hc : ∀ i, W.cell? ⟨bb, i, none⟩ = (GCells r vp vs ve q vc v0 v1 ev mv)[i]? := fun i => cell_of_row W bb i _ t (0, 0) h
  exact ⟨⟨hc 0, hc 1, hc 2, hc 3, hc 4, hc 5, hc 6, hc 7, hc 8, hc 9, hc 10⟩, ⟨hc 11, hc 12, hc 13, hc 14, hc 15⟩, hc 16, hc 17⟩
theorem gotG {W W' : World} {bb : Nat} {r : RulesD} {vp vs ve : Value} {q : PlaceD} {vc v0 v1 ev mv : Value} {t : TypeId} (h : W.heap[bb]? = some (.cells (GCells r vp vs ve q vc v0 v1 ev mv) t (0, 0))) (hb : Below W.heap.size W W') : Got16 W' bb r vp vs ve q vc v0 v1 := by
  obtain ⟨⟨y0, y1, y2, y3, y4, y5, y6, y7, y8, y9, y10⟩, ⟨x0, x1, x2, x3, x4⟩, -⟩ := gfacts (bkeep h hb)
  exact ⟨y0, y1, y2, y3, y4, y5, y6, y7, y8, y9, y10, x0, x1, x2, x3, x4⟩
theorem own_own {W : World} {B : Nat} {e : TypeId} {size n : Nat} {ea : Option Addr} {en ec : Nat} {xs : List Value} (h : W.ownsRow B e size (.slice ea en ec) n xs) {k : Nat} (hk : Value.ownBlock (.slice ea en ec) = some k) : ∃ a, ea = some a ∧ a.block = k := by
  cases ea with
  | none => simp [Value.ownBlock] at hk
  | some a => simp [Value.ownBlock] at hk; exact ⟨a, rfl, hk⟩

/-! ### Moves -/
def GMoves (ms : List MoveD) (w : World) (e : Ending) (w' : World) : Prop := ∃ a n c, e = .returned (.slice a n c) ∧ IsSl MoveAt 3 w' (.slice a n c) ms ∧ n = ms.length ∧ Below w.heap.size w w'
theorem moves_of_own {W : World} {B : Nat} {e : TypeId} {v : Value} {ms : List MoveD} (h : W.ownsRow B e 3 v ms.length (mcs ms)) : IsSl MoveAt 3 W v ms := by
  rcases Joins.ownsRow_forms h with ⟨rfl, h0⟩ | ⟨g, cap, rfl⟩
  · exact .inl ⟨List.length_eq_zero_iff.1 h0, _, _, rfl⟩
  · by_cases h0 : ms = []
    · exact .inl ⟨h0, _, _, by rw [h0]; rfl⟩
    · refine .inr ⟨g, 0, cap, rfl, h0, own_cap h, own_max2 h, fun i x hx => ?_⟩
      have hi := (List.getElem?_eq_some_iff.1 hx).1
      have hc : ∀ j, j < 3 → W.cell? ⟨g, 0 + i * 3 + j, none⟩ = (mcs ms)[i * 3 + j]? := fun j hj => by rw [Nat.zero_add]; exact h.cellAt (i * 3 + j) (by omega)
      have hd : ∀ j, j < 3 → W.cell? ⟨g, 0 + i * 3 + j, none⟩ = (mc x)[j]? := fun j hj => (hc j hj).trans (mcs_at ms i x j hx hj)
      exact ⟨hd 0 (by decide), hd 1 (by decide), hd 2 (by decide)⟩

/-! ### New -/
def GNewOk (W1 : Nat → Prop) (r : RulesD) (w : World) (e : Ending) (w' : World) : Prop :=
  ∃ bb, e = .returned (.tuple #[.pointer (some ⟨bb, 0, none⟩), .int .i64 0]) ∧ Gme W1 (fun k => w.heap.size ≤ k ∧ k < w'.heap.size) w' bb r (beginD r) [] [] ∧ Below w.heap.size w w'
set_option maxHeartbeats 8000000 in
theorem gnew_bad (r : RulesD) (vp vs ve : Value) (w : World) (hr : RulesIn w r vp vs ve) (hz : rulesE r ≠ 0) :
    Calls Tryz.prog 9 #[RulesV r vp vs ve] w (NewBad (rulesE r) w) := by
  have hB : Below w.heap.size w (w.alloc (.cells (RulesCells r vp vs ve) 26)) := (Below.refl _ _).alloc (Nat.le_refl _) _
  have HB := Lib.hid hB
  have HC := Lib.hid (rclone_bad r vp vs ve _ (hr.below hB (Nat.le_refl _)) hz)
  obtain ⟨c, hc⟩ : ∃ c, c = rulesE r := ⟨_, rfl⟩
  rw [← hc] at hz HC ⊢
  have hne : (c != 0) = true := by simpa using hz
  unfold RulesCells at HB HC
  unfold RulesV at HC ⊢
  clear hr hz hc hB
  go_enter Tryz.func9, Tryz.ntmps9
  go_wp2_with fail
  go_at_call 34; refine HC.out.mono ?_; rintro e w1 ⟨rfl, hb⟩
  unfold RulesV zero0
  have HBE := Lib.hid (HB.out.trans ((hb.trans ((Below.refl w1.heap.size w1).alloc (Nat.le_refl _) (.cells (RulesCells zero0 (.slice none 0 0) (.slice none 0 0) (.slice none 0 0)) 26) |>.mono hb.size)).mono HB.out.size))
  clear hb HB HC
  go_wp2_with fail
  go_ret2
  exact ⟨rfl, HBE.out⟩
set_option maxHeartbeats 8000000 in
theorem gnew_ok (W1 : Nat → Prop) (r : RulesD) (vp vs ve : Value) (w : World) (hr : RulesIn w r vp vs ve) (hz : rulesE r = 0) (hT : Dir w) (hcf : ∀ k, w.heap.size ≤ k → W1 k) (hpc : IsSl (PieceIn W1) 4 w vp r.pieces) (hcd : W1 0) :
    Calls Tryz.prog 9 #[RulesV r vp vs ve] w (GNewOk W1 r w) := by
  have hB : Below w.heap.size w (w.alloc (.cells (RulesCells r vp vs ve) 26)) := (Below.refl _ _).alloc (Nat.le_refl _) _
  have HB := Lib.hid hB
  have HRC := Lib.hid (rclone_ok W1 r vp vs ve _ (hr.below hB (Nat.le_refl _)) hz (fun k hk => hcf k (by have := hB.size; omega)) (hpc.below (pieceIn_keeps _) hB (Nat.le_refl _)))
  have HDD := Lib.hid hT
  have HCD := Lib.hid hcd
  have HOK := Lib.hid (beginD_ok hz)
  have HZ := Lib.hid hz
  unfold RulesCells at HB HRC
  unfold RulesV at HRC ⊢
  clear hr hz hT hcf hpc hcd hB
  go_enter Tryz.func9, Tryz.ntmps9
  go_wp2_with fail
  go_at_call 34; refine HRC.out.mono ?_; rintro e w4 ⟨ap, np, cp, sa, ns, cs, ea, ne, ce, rfl, hri, hb⟩
  have hal := (Below.refl w4.heap.size w4).alloc (Nat.le_refl _) (.cells #[.string r.name, .int .i64 r.width, .int .i64 r.height, .slice ap np cp, .slice sa ns cs, .bool r.falls, .bool r.keeps, .slice ea ne ce, .int .i64 r.blocked, .int .i64 r.quiet, .int .i64 r.rep] 26)
  have hY5 := boxR_new w4 r (.slice ap np cp) (.slice sa ns cs) (.slice ea ne ce) 26
  unfold RulesCells at hY5
  unfold RulesV
  have hb5 := hb.trans (hal.mono hb.size)
  have hr5 := hri.stays (Stays.of hal)
  have HR5 := Lib.hid hr5
  have HB5 := Lib.hid (HB.out.trans (hb5.mono HB.out.size))
  have HY5 := Lib.hid hY5
  have HBG := Lib.hid (begin_fresh r _ _ _ _ hr5.plain HZ.out)
  have hlt5 : w4.heap.size < (w4.alloc (.cells #[.string r.name, .int .i64 r.width, .int .i64 r.height, .slice ap np cp, .slice sa ns cs, .bool r.falls, .bool r.keeps, .slice ea ne ce, .int .i64 r.blocked, .int .i64 r.quiet, .int .i64 r.rep] 26)).heap.size := by simp
  unfold RulesV at HBG
  obtain ⟨y0, y1, y2, y3, y4, y5, y6, y7, y8, y9, y10⟩ := hY5
  clear hal hb hb5 hri hr5 HRC HB
  go_wp2_with fail
  generalize w4.alloc (.cells #[.string r.name, .int .i64 r.width, .int .i64 r.height, .slice ap np cp, .slice sa ns cs, .bool r.falls, .bool r.keeps, .slice ea ne ce, .int .i64 r.blocked, .int .i64 r.quiet, .int .i64 r.rep] 26) = w5 at HR5 HB5 HY5 HBG hlt5 y0 y1 y2 y3 y4 y5 y6 y7 y8 y9 y10 ⊢
  generalize w4.heap.size = rb at HY5 hlt5 y0 y1 y2 y3 y4 y5 y6 y7 y8 y9 y10 ⊢
  go_at_call 32; refine HBG.out.mono ?_; rintro e w2 ⟨ca, cn, cc, a0, n0, c0, a1, n1, c1, rfl, hpf, hb⟩
  obtain ⟨p, hp⟩ : ∃ p, beginD r = p := ⟨_, rfl⟩
  rw [hp] at HOK hpf ⊢
  have hal := (Below.refl w2.heap.size w2).alloc (Nat.le_refl _) (.cells #[.slice ca cn cc, .slice a0 n0 c0, .slice a1 n1 c1, .int .i64 p.turn, .int .i64 p.quiet] 43)
  have hX3 := boxP_new w2 p (.slice ca cn cc) (.slice a0 n0 c0) (.slice a1 n1 c1) 43
  unfold PlaceCells at hX3
  have hb3 := hb.trans (hal.mono hb.size)
  have HB3 := Lib.hid (HB5.out.trans (hb3.mono HB5.out.size))
  have HR3 := Lib.hid (HR5.out.stays (Stays.of hb3))
  have HP3 := Lib.hid (PlaceF.lt (hpf.on (e := fun k => w.heap.size ≤ k) (fun k _ hk => hal.block k hk) (fun k hk => Nat.le_trans HB5.out.size hk)))
  have hY3 := HY5.out.below hb3 (Nat.le_refl _)
  have e3 : (w2.alloc (.cells #[.slice ca cn cc, .slice a0 n0 c0, .slice a1 n1 c1, .int .i64 p.turn, .int .i64 p.quiet] 43)).heap.size = w2.heap.size + 1 := by simp
  have E3 := Lib.hid e3
  have HPE := Lib.hid hp
  clear hal hb hb3 hpf HBG HY5 HB5 HR5 e3 hp y0 y1 y2 y3 y4 y5 y6 y7 y8 y9 y10 hlt5
  obtain ⟨y0, y1, y2, y3, y4, y5, y6, y7, y8, y9, y10⟩ := hY3
  obtain ⟨x0, x1, x2, x3, x4⟩ := hX3
  go_wp2_with fail
  generalize w2.alloc (.cells #[.slice ca cn cc, .slice a0 n0 c0, .slice a1 n1 c1, .int .i64 p.turn, .int .i64 p.quiet] 43) = w5 at E3 HR3 HB3 HP3 x0 x1 x2 x3 x4 y0 y1 y2 y3 y4 y5 y6 y7 y8 y9 y10 ⊢
  rw [← E3.out]
  have hbn := (Below.refl w5.heap.size w5).alloc (Nat.le_refl _) (.cells (GCells r (.slice ap np cp) (.slice sa ns cs) (.slice ea ne ce) p (.slice ca cn cc) (.slice a0 n0 c0) (.slice a1 n1 c1) (.slice none 0 0) (.slice none 0 0)) 87)
  have hrw := heap_alloc_new w5 (.cells (GCells r (.slice ap np cp) (.slice sa ns cs) (.slice ea ne ce) p (.slice ca cn cc) (.slice a0 n0 c0) (.slice a1 n1 c1) (.slice none 0 0) (.slice none 0 0)) 87)
  have hsz : (w5.alloc (.cells (GCells r (.slice ap np cp) (.slice sa ns cs) (.slice ea ne ce) p (.slice ca cn cc) (.slice a0 n0 c0) (.slice a1 n1 c1) (.slice none 0 0) (.slice none 0 0)) 87)).heap.size = w5.heap.size + 1 := by simp
  have hw5 := HB3.out.size
  go_ret2
  rw [GNewOk, HPE.out]
  refine ⟨w5.heap.size, rfl, ⟨.slice ap np cp, .slice sa ns cs, .slice ea ne ce, .slice ca cn cc, .slice a0 n0 c0, .slice a1 n1 c1, none, 0, 0, none, 0, 0, [], ?_⟩, HB3.out.alloc HB3.out.size _⟩
  unfold GCells at hbn hrw hsz
  have hdl : 0 < w5.heap.size := Nat.lt_of_lt_of_le HDD.out.size hw5
  exact
    { row := hrw
      rules := fun W' h1 h2 => (HR3.out.stays ⟨fun k hk hc => (h1 k hk hc).trans (hbn.block k hk), Nat.le_trans hbn.size h2⟩).plain
      dir := fun W' h1 _ i z hz => (World.cell?_of_block ((h1 _ hdl HCD.out).trans (hbn.block _ hdl))).trans ((HDD.out.below HB3.out (Nat.le_refl _)) i z hz)
      now := HP3.out.on (fun k hk _ => hbn.block k hk.2) (fun k hk => ⟨⟨hk.1, by rw [hsz]; omega⟩, by omega, (fun a ha => by cases ha), fun a ha => by cases ha⟩)
      own := World.ownsRow_nil _ _ _ _
      old := fun i p hi => by simp at hi
      mown := World.ownsRow_nil _ _ _ _
      db := ⟨hw5, by rw [hsz]; omega⟩
      de := fun a ha => by cases ha
      dm := fun a ha => by cases ha
      ne := fun a b ha _ => by cases ha
      lt := fun k hk => hk.2
      ok := HOK.out
      oks := fun p hp => by cases hp }

/-! ### Back -/
theorem fillG_row {W : World} {bb : Nat} {r : RulesD} {vp vs ve : Value} {q : PlaceD} {vc v0 v1 ev mv : Value} {t : TypeId} (h : W.heap[bb]? = some (.cells (GCells r vp vs ve q vc v0 v1 ev mv) t (0, 0))) (p : PlaceD) (uc u0 u1 : Value) : (fillB W bb p uc u0 u1).heap[bb]? = some (.cells (GCells r vp vs ve p uc u0 u1 ev mv) t (0, 0)) := by
  have h0 := heap_setCell_same _ bb 11 _ t uc h
  have h1 := heap_setCell_same _ bb 12 _ t u0 h0
  have h2 := heap_setCell_same _ bb 13 _ t u1 h1
  have h3 := heap_setCell_same _ bb 14 _ t (.int .i64 p.turn) h2
  exact heap_setCell_same _ bb 15 _ t (.int .i64 p.quiet) h3
theorem gset16 {W : World} {bb : Nat} {r : RulesD} {vp vs ve : Value} {q : PlaceD} {vc v0 v1 ev mv : Value} {t : TypeId} (h : W.heap[bb]? = some (.cells (GCells r vp vs ve q vc v0 v1 ev mv) t (0, 0))) (uv : Value) : (W.setCell ⟨bb, 16, none⟩ uv).heap[bb]? = some (.cells (GCells r vp vs ve q vc v0 v1 uv mv) t (0, 0)) := heap_setCell_same _ bb 16 _ t uv h
theorem gset17 {W : World} {bb : Nat} {r : RulesD} {vp vs ve : Value} {q : PlaceD} {vc v0 v1 ev mv : Value} {t : TypeId} (h : W.heap[bb]? = some (.cells (GCells r vp vs ve q vc v0 v1 ev mv) t (0, 0))) (uv : Value) : (W.setCell ⟨bb, 17, none⟩ uv).heap[bb]? = some (.cells (GCells r vp vs ve q vc v0 v1 ev uv) t (0, 0)) := heap_setCell_same _ bb 17 _ t uv h
def GBackOk (W1 : Nat → Prop) (D : Nat → Prop) (bb : Nat) (r : RulesD) (p : PlaceD) (es : List PlaceD) (ms : List MoveD) (w : World) (e : Ending) (w' : World) : Prop := e = .returned (.int .i64 0) ∧ Gme W1 D w' bb r p es ms ∧ Fram D w w'
theorem gback_end {W1 : Nat → Prop} {D : Nat → Prop} {bb : Nat} {r : RulesD} {q : PlaceD} {es : List PlaceD} {ms : List MoveD} {vp vs ve vc v0 v1 : Value} {ec mk : Nat} {news : List Value} {w1 WF : World} {n g mg : Nat} {p : PlaceD} {m : MoveD} {ca a0 a1 : Option Addr} {cn cc n0 c0 n1 c1 : Nat} (hV : GmeV W1 D w1 bb r q (es ++ [p]) (ms ++ [m]) vp vs ve vc v0 v1 (some ⟨g, 0, none⟩) (n + 1) ec (some ⟨mg, 0, none⟩) (n + 1) mk news)
    (hP : PlaceF (GOk D bb (some ⟨g, 0, none⟩) (some ⟨mg, 0, none⟩)) w1 p (.slice ca cn cc) (.slice a0 n0 c0) (.slice a1 n1 c1)) (hn : n = es.length) (hm : n = ms.length)
    (hrow : WF.heap[bb]? = some (.cells (GCells r vp vs ve p (.slice ca cn cc) (.slice a0 n0 c0) (.slice a1 n1 c1) (.slice (some ⟨g, 0, none⟩) n ec) (.slice (some ⟨mg, 0, none⟩) n mk)) 87 (0, 0))) (hoo : ∀ k, k ≠ bb → WF.heap[k]? = w1.heap[k]?) (hsz : WF.heap.size = w1.heap.size) (hos : WF.os = w1.os) (htp : WF.tape = w1.tape) (hou : WF.output = w1.output) : GBackOk W1 D bb r p es ms w1 (.returned (.int .i64 0)) WF := by
  have hfr : Fram D w1 WF := ⟨hos, htp, hou, by omega, fun k _ hd => hoo k (fun e => hd (e ▸ hV.db))⟩
  have hown := hV.own
  have hl : (es ++ [p]).length = n + 1 := by simp [hn]
  rw [hl] at hown
  have hmown := hV.mown
  have hl2 : (ms ++ [m]).length = n + 1 := by simp [hm]
  rw [hl2] at hmown
  have hgb := (hown.lt g rfl).1
  have hmb := (hmown.lt mg rfl).1
  refine ⟨rfl, ⟨vp, vs, ve, .slice ca cn cc, .slice a0 n0 c0, .slice a1 n1 c1, some ⟨g, 0, none⟩, n, ec, some ⟨mg, 0, none⟩, n, mk, news.take (n * 5), ?_⟩, hfr⟩
  exact
    { row := hrow
      rules := hV.rules.on (fun k hk _ => hoo k (by omega)) (by omega)
      dir := hV.dir.on (fun k hk _ => hoo k (by omega)) (by omega)
      now := hP.on (fun k hk _ => hoo k hk.2.1) (fun _ h => h)
      own := by rw [← hn]; exact own_keep (own_cut hown (by omega)) (hoo g (by omega))
      old := fun i p' hi => by
        have hin : i < n := by rw [hn]; exact (List.getElem?_eq_some_iff.1 hi).1
        obtain ⟨ca', cn', cc', a0', n0', c0', a1', n1', c1', h1, h2⟩ := hV.old i p' (by rw [List.getElem?_append_left (by rw [← hn]; exact hin)]; exact hi)
        exact ⟨ca', cn', cc', a0', n0', c0', a1', n1', c1', fun j hj => by rw [List.getElem?_take, if_pos (by omega)]; exact h1 j hj, h2.on (fun k hk _ => hoo k hk.2.1) (fun _ h => h)⟩
      mown := by
        have h1 := own_keep (own_cut hmown (m := n) (by omega)) (hoo mg (by omega))
        rw [hm, mcs_cut] at h1
        rw [hm]; exact h1
      db := hV.db, de := hV.de, dm := hV.dm, ne := hV.ne, lt := fun k hk => by rw [hsz]; exact hV.lt k hk
      ok := hV.oks p (by simp), oks := fun p' hp' => hV.oks p' (by simp [hp']) }

/-! ### Position -/
set_option maxHeartbeats 800000 in
theorem gposition_any {W1 : Nat → Prop} {D : Nat → Prop} {W : World} {bb : Nat} {r : RulesD} {q : PlaceD} {es : List PlaceD} {ms : List MoveD} (h : Gme W1 D W bb r q es ms) :
    Calls Tryz.prog 11 #[.pointer (some ⟨bb, 0, none⟩)] W (PosPost q W) := by
  obtain ⟨vp, vs, ve, vc, v0, v1, ea, en, ec, ma, mn, mk, news, hv⟩ := h
  have HPC : Hid (∀ W', Below W.heap.size W W' → Calls Tryz.prog 37 #[RulesV r vp vs ve, PlaceV q vc v0 v1] W' (MadeP q W')) := Lib.hid (fun W' hb => by
    have hk := hv.keep hb
    exact pclone_ok r q vp vs ve vc v0 v1 W' (hk.rules W' (fun _ _ _ => rfl) (Nat.le_refl _)) hk.now.plain hk.ok)
  obtain ⟨U, hU⟩ : ∃ U, U = W.alloc (.cells (PlaceCells zeroP (.slice none 0 0) (.slice none 0 0) (.slice none 0 0)) 43) := ⟨_, rfl⟩
  have hWU : Below W.heap.size W U := by rw [hU]; exact (Below.refl _ _).alloc (Nat.le_refl _) _
  have HWU := Lib.hid hWU
  have HRB : Hid (PBox U W.heap.size 43 zeroP (.slice none 0 0) (.slice none 0 0) (.slice none 0 0)) := Lib.hid (by rw [hU]; exact PBox.new _ _ _ _ _ _)
  have HG : Hid (∀ W', Below U.heap.size U W' → Got16 W' bb r vp vs ve q vc v0 v1) := Lib.hid (fun W' hb => gotG hv.row (hWU.trans (hb.mono hWU.size)))
  have HPU : Hid (∀ W', Below U.heap.size U W' → Calls Tryz.prog 37 #[RulesV r vp vs ve, PlaceV q vc v0 v1] W' (MadeP q W')) := Lib.hid (fun W' hb => HPC.out W' (hWU.trans (hb.mono hWU.size)))
  have hg0 := HG.out U (Below.refl _ _)
  unfold Got16 at hg0
  obtain ⟨y0, y1, y2, y3, y4, y5, y6, y7, y8, y9, y10, x0, x1, x2, x3, x4⟩ := hg0
  have hU' := hU
  unfold PlaceCells zeroP at hU'
  unfold RulesV PlaceV PlaceCells at HPU
  clear hv HPC hWU hU
  go_enter Tryz.func11, Tryz.ntmps11
  go_wp2_with fail
  rw [← hU']
  clear hU'
  have hBc : Below U.heap.size U U.drew := (Below.refl _ _).drew
  have hBq := hBc
  have hBd : ∀ o, Below U.heap.size U (U.alloc o) := fun o => (Below.refl _ _).alloc (Nat.le_refl _) _
  have hBe : ∀ o, Below U.heap.size U (U.alloc o).drew := fun o => (hBd o).drew
  have hBf : ∀ o, Below U.heap.size U (U.drew.alloc o) := fun o => hBc.alloc hBc.size _
  unfold Got16 at HG
  go_region_held3 (fun w' => w'.cell? ⟨bb, 0, none⟩ = some (.string r.name) ∧ w'.cell? ⟨bb, 1, none⟩ = some (.int .i64 r.width) ∧ w'.cell? ⟨bb, 2, none⟩ = some (.int .i64 r.height) ∧ w'.cell? ⟨bb, 3, none⟩ = some (vp) ∧ w'.cell? ⟨bb, 4, none⟩ = some (vs) ∧ w'.cell? ⟨bb, 5, none⟩ = some (.bool r.falls) ∧ w'.cell? ⟨bb, 6, none⟩ = some (.bool r.keeps) ∧ w'.cell? ⟨bb, 7, none⟩ = some (ve) ∧ w'.cell? ⟨bb, 8, none⟩ = some (.int .i64 r.blocked) ∧ w'.cell? ⟨bb, 9, none⟩ = some (.int .i64 r.quiet) ∧ w'.cell? ⟨bb, 10, none⟩ = some (.int .i64 r.rep) ∧ w'.cell? ⟨bb, 11, none⟩ = some (vc) ∧ w'.cell? ⟨bb, 12, none⟩ = some (v0) ∧ w'.cell? ⟨bb, 13, none⟩ = some (v1) ∧ w'.cell? ⟨bb, 14, none⟩ = some (.int .i64 q.turn) ∧ w'.cell? ⟨bb, 15, none⟩ = some (.int .i64 q.quiet)) (first | with_reducible exact HG.out _ hBc | with_reducible exact HG.out _ (hBe _) | with_reducible exact HG.out _ (hBf _) | with_reducible exact HG.out _ (hBd _) | with_reducible exact HG.out _ (hBc.alloc hBc.size _) | with_reducible exact HG.out _ (hBs _ _ _ _ _)) (first
    | (go_at_call 37; refine (HPU.out _ (by first | exact hBc | exact hBe _ | exact hBf _ | exact hBd _)).mono ?_; rintro e w5 ⟨ca, cn, cc, a0, n0, c0, a1, n1, c1, rfl, hpf, hb⟩; have hB5 : Below U.heap.size U w5 := (by first | exact hBc.trans (hb.mono hBc.size) | exact (hBe _).trans (hb.mono (hBe _).size) | exact (hBf _).trans (hb.mono (hBf _).size) | exact (hBd _).trans (hb.mono (hBd _).size)); have hBc := hB5; have hBs : ∀ a b c d e, Below U.heap.size U (((((w5.setCell ⟨U.heap.size, 0, none⟩ a).setCell ⟨U.heap.size, 1, none⟩ b).setCell ⟨U.heap.size, 2, none⟩ c).setCell ⟨U.heap.size, 3, none⟩ d).setCell ⟨U.heap.size, 4, none⟩ e) := (fun a b c d e => ((((hB5.setCell (Nat.le_refl _) a).setCell (Nat.le_refl _) b).setCell (Nat.le_refl _) c).setCell (Nat.le_refl _) d).setCell (Nat.le_refl _) e); first | (have hz5 : PBox w5 U.heap.size 43 zeroP (.slice none 0 0) (.slice none 0 0) (.slice none 0 0) := hA_dr hb; have hpf5 : PlaceF (fun k => U.heap.size < k) w5 q (.slice ca cn cc) (.slice a0 n0 c0) (.slice a1 n1 c1) := hpf.on (fun _ _ _ => rfl) (fun k hk => Nat.lt_of_lt_of_le (show U.heap.size < (U.alloc _).heap.size by simp) hk); obtain ⟨⟨k0, k1, k2, k3, k4⟩, l0, l1, l2, l3, l4⟩ := hz5.facts; unfold zeroP at k3 k4) | (have hz5 : PBox w5 U.heap.size 43 zeroP (.slice none 0 0) (.slice none 0 0) (.slice none 0 0) := hA_of hb; have hpf5 : PlaceF (fun k => U.heap.size < k) w5 q (.slice ca cn cc) (.slice a0 n0 c0) (.slice a1 n1 c1) := hpf.on (fun _ _ _ => rfl) (fun k hk => Nat.lt_of_lt_of_le (show U.heap.size < (U.drew.alloc _).heap.size by simp [World.drew]) hk); obtain ⟨⟨k0, k1, k2, k3, k4⟩, l0, l1, l2, l3, l4⟩ := hz5.facts; unfold zeroP at k3 k4) | (have hpf5 : PlaceF (fun k => U.heap.size ≤ k) w5 q (.slice ca cn cc) (.slice a0 n0 c0) (.slice a1 n1 c1) := hpf.on (fun _ _ _ => rfl) (fun k hk => hk)); clear hpf hb))
  all_goals
    first
      | (have hP : PEnd U (w5.alloc (.cells #[.slice ca cn cc, .slice a0 n0 c0, .slice a1 n1 c1, .int .i64 q.turn, .int .i64 q.quiet] 43)) w5.heap.size q (.slice ca cn cc) (.slice a0 n0 c0) (.slice a1 n1 c1) := pendA hB5 hpf5
         generalize w5.alloc (.cells #[.slice ca cn cc, .slice a0 n0 c0, .slice a1 n1 c1, .int .i64 q.turn, .int .i64 q.quiet] 43) = wf at hP ⊢
         generalize w5.heap.size = pb at hP ⊢)
      | (have hP : PEnd U (((((w5.setCell ⟨U.heap.size, 0, none⟩ (.slice ca cn cc)).setCell ⟨U.heap.size, 1, none⟩ (.slice a0 n0 c0)).setCell ⟨U.heap.size, 2, none⟩ (.slice a1 n1 c1)).setCell ⟨U.heap.size, 3, none⟩ (.int .i64 q.turn)).setCell ⟨U.heap.size, 4, none⟩ (.int .i64 q.quiet)) U.heap.size q (.slice ca cn cc) (.slice a0 n0 c0) (.slice a1 n1 c1) := pendB hB5 hz5 hpf5
         generalize ((((w5.setCell ⟨U.heap.size, 0, none⟩ (.slice ca cn cc)).setCell ⟨U.heap.size, 1, none⟩ (.slice a0 n0 c0)).setCell ⟨U.heap.size, 2, none⟩ (.slice a1 n1 c1)).setCell ⟨U.heap.size, 3, none⟩ (.int .i64 q.turn)).setCell ⟨U.heap.size, 4, none⟩ (.int .i64 q.quiet) = wf at hP ⊢
         obtain ⟨pb, hpb⟩ : ∃ pb, pb = U.heap.size := ⟨_, rfl⟩
         rw [← hpb] at hP ⊢
         clear hpb)
    have HP := Lib.hid hP
    have hz := HRB.out.below hP.bel HRB.out.lt
    have HZ := Lib.hid hz
    obtain ⟨⟨p0, p1, p2, p3, p4⟩, -⟩ := hP.box.facts
    obtain ⟨⟨t0, t1, t2, t3, t4⟩, g0, g1, g2, g3, g4⟩ := hz.facts
    unfold zeroP at t3 t4
    clear hP hz
    go_wp2_with fail
    have HR2 := pbox_fill (p := q) (vc := .slice ca cn cc) (v0 := .slice a0 n0 c0) (v1 := .slice a1 n1 c1) HZ.out
    have hfo := fillP_other wf W.heap.size q (.slice ca cn cc) (.slice a0 n0 c0) (.slice a1 n1 c1)
    have hwf := HWU.out.trans (HP.out.bel.mono HWU.out.size)
    have hbf := fillP_below hwf (b := W.heap.size) (Nat.le_refl _) q (.slice ca cn cc) (.slice a0 n0 c0) (.slice a1 n1 c1)
    have hlt : W.heap.size < U.heap.size := HRB.out.lt
    have hpl : PlaceF (fun k => W.heap.size ≤ k) (fillP wf W.heap.size q (.slice ca cn cc) (.slice a0 n0 c0) (.slice a1 n1 c1)) q (.slice ca cn cc) (.slice a0 n0 c0) (.slice a1 n1 c1) := HP.out.pl.on (fun k hk _ => hfo.1 k (by omega)) (fun k hk => by omega)
    have hFE : (((((wf.setCell ⟨W.heap.size, 0, none⟩ (.slice ca cn cc)).setCell ⟨W.heap.size, 1, none⟩ (.slice a0 n0 c0)).setCell ⟨W.heap.size, 2, none⟩ (.slice a1 n1 c1)).setCell ⟨W.heap.size, 3, none⟩ (.int .i64 q.turn)).setCell ⟨W.heap.size, 4, none⟩ (.int .i64 q.quiet)) = fillP wf W.heap.size q (.slice ca cn cc) (.slice a0 n0 c0) (.slice a1 n1 c1) := rfl
    rw [hFE]
    clear hFE hfo
    generalize fillP wf W.heap.size q (.slice ca cn cc) (.slice a0 n0 c0) (.slice a1 n1 c1) = wz at HR2 hbf hpl ⊢
    refine bodyPost_ret (results_cell_row rfl _ _ W.heap.size 43 _ (0, 0) _ rfl HR2 Tryz.underlying43 rfl (by kernel_rfl)) rfl ?_
    exact ⟨ca, cn, cc, a0, n0, c0, a1, n1, c1, rfl, hpl, hbf⟩

/-! ### Count -/
theorem count_step (q : PlaceD) (es : List PlaceD) (k : Nat) (p : PlaceD) (h : es[k]? = some p) : countG q (es.take (k + 1)) = countG q (es.take k) + (if sameB p q = true then 1 else 0) := by
  rw [List.take_add_one, h]
  simp only [countG, Option.toList_some, List.filter_append, List.length_append]
  cases h2 : sameB p q <;> simp [h2]
set_option maxHeartbeats 4000000 in
theorem gcount_any {W1 : Nat → Prop} {D : Nat → Prop} {W : World} {bb : Nat} {r : RulesD} {q : PlaceD} {es : List PlaceD} {ms : List MoveD} (h : Gme W1 D W bb r q es ms) (hle : es.length ≤ 1000) :
    Calls Tryz.prog 39 #[.pointer (some ⟨bb, 0, none⟩)] W (BelPost (.int .i64 (countG q es : Int)) W) := by
  obtain ⟨vp, vs, ve, vc, v0, v1, ea, en, ec, ma, mn, mk, news, hv⟩ := h
  obtain ⟨n, hn⟩ : ∃ n, n = es.length := ⟨_, rfl⟩
  have hown := hv.own
  rw [← hn] at hown
  obtain rfl := own_len hown
  have HV := Lib.hid hv
  have HN := Lib.hid hn
  obtain ⟨-, -, z0, -⟩ := gfacts hv.row
  have HG : Hid (∀ W', Below W.heap.size W W' → W'.cell? ⟨bb, 11, none⟩ = some (vc) ∧ W'.cell? ⟨bb, 12, none⟩ = some (v0) ∧ W'.cell? ⟨bb, 13, none⟩ = some (v1) ∧ W'.cell? ⟨bb, 14, none⟩ = some (.int .i64 q.turn) ∧ W'.cell? ⟨bb, 15, none⟩ = some (.int .i64 q.quiet)) := Lib.hid (fun W' hb => (gfacts (bkeep hv.row hb)).2.1)
  have HE : Hid (∀ k, k < en → ∃ g p ca cn cc a0 n0 c0 a1 n1 c1, ea = some ⟨g, 0, none⟩ ∧ en ≤ ec ∧ es[k]? = some p ∧ ∀ W', Below W.heap.size W W' → (W'.cell? ⟨g, k * 5, none⟩ = some (.slice ca cn cc) ∧ W'.cell? ⟨g, k * 5 + 1, none⟩ = some (.slice a0 n0 c0) ∧ W'.cell? ⟨g, k * 5 + 2, none⟩ = some (.slice a1 n1 c1) ∧ W'.cell? ⟨g, k * 5 + 3, none⟩ = some (.int .i64 p.turn) ∧ W'.cell? ⟨g, k * 5 + 4, none⟩ = some (.int .i64 p.quiet)) ∧ ∀ W2, Below W'.heap.size W' W2 → Calls Tryz.prog 33 #[PlaceV p (.slice ca cn cc) (.slice a0 n0 c0) (.slice a1 n1 c1), PlaceV q vc v0 v1] W2 (BelPost (.bool (sameB p q)) W2)) := Lib.hid (fun k hk => by
    obtain ⟨g, cap, he⟩ := Joins.ownsRow_form hown (by omega)
    simp only [Value.slice.injEq, true_and] at he
    obtain ⟨rfl, rfl⟩ := he
    obtain ⟨p, hp⟩ : ∃ p, es[k]? = some p := ⟨_, List.getElem?_eq_getElem (by omega)⟩
    obtain ⟨ca, cn, cc, a0, n0, c0, a1, n1, c1, hcs, hpf⟩ := hv.old k p hp
    have hel : ∀ j, j < 5 → W.cell? ⟨g, k * 5 + j, none⟩ = (PlaceCells p (.slice ca cn cc) (.slice a0 n0 c0) (.slice a1 n1 c1))[j]? := fun j hj => (hown.cellAt (k * 5 + j) (by omega)).trans (hcs j hj)
    refine ⟨g, p, ca, cn, cc, a0, n0, c0, a1, n1, c1, rfl, own_cap hown, hp, fun W' hb => ⟨⟨?_, ?_, ?_, ?_, ?_⟩, fun W2 hb2 => ?_⟩⟩
    · exact cell_keeps hb (Nat.le_refl _) (hel 0 (by decide))
    · exact cell_keeps hb (Nat.le_refl _) (hel 1 (by decide))
    · exact cell_keeps hb (Nat.le_refl _) (hel 2 (by decide))
    · exact cell_keeps hb (Nat.le_refl _) (hel 3 (by decide))
    · exact cell_keeps hb (Nat.le_refl _) (hel 4 (by decide))
    · have hb3 := hb.trans (hb2.mono hb.size)
      exact Same_any p q _ _ _ _ _ _ W2 (hpf.plain.below hb3 (Nat.le_refl _)) (hv.now.plain.below hb3 (Nat.le_refl _)) (hv.oks p (List.mem_of_getElem? hp)).short)
  have hn1000 : en ≤ 1000 := by omega
  unfold PlaceV PlaceCells at HE
  clear hv hown hn hle
  go_enter Tryz.func39, Tryz.ntmps39
  go_wp2_with fail
  go_loopw [3, 5, 11] (fun c _ i wr => ∃ (k N : Nat), k ≤ en ∧ N ≤ k + 1 ∧ i = .int .i64 (k : Int) ∧ c = .int .i64 (N : Int) ∧ Hid (N = countG q (es.take k)) ∧ Hid (Below W.heap.size W wr)) (fun _ _ i _ => en - (intOf i).toNat)
  case atStart => exact ⟨0, 1, by omega, by omega, rfl, rfl, Lib.hid rfl, Lib.hid (Below.refl _ _)⟩
  case round =>
    obtain ⟨k, N, hk, hNk, rfl, rfl, hC, hB⟩ := hrel
    clear z0
    by_cases hlt : k < en
    · obtain ⟨g, p, ca, cn, cc, a0, n0, c0, a1, n1, c1, rfl, hcap, hp, hcs⟩ := HE.out k hlt
      obtain ⟨⟨e0, e1, e2, e3, e4⟩, hsm⟩ := hcs wr hB.out
      have hX := boxP_new wr p (.slice ca cn cc) (.slice a0 n0 c0) (.slice a1 n1 c1) 43
      have hal := (Below.refl wr.heap.size wr).alloc (Nat.le_refl _) (.cells #[.slice ca cn cc, .slice a0 n0 c0, .slice a1 n1 c1, .int .i64 p.turn, .int .i64 p.quiet] 43)
      have hq0 : wr.heap.size < (wr.alloc (.cells #[.slice ca cn cc, .slice a0 n0 c0, .slice a1 n1 c1, .int .i64 p.turn, .int .i64 p.quiet] 43)).heap.size := by simp
      unfold PlaceCells at hX
      have HCS := Lib.hid (count_step q es k p hp)
      have HSM := Lib.hid (fun W2 (hb2 : Below (wr.alloc (.cells #[.slice ca cn cc, .slice a0 n0 c0, .slice a1 n1 c1, .int .i64 p.turn, .int .i64 p.quiet] 43)).heap.size (wr.alloc (.cells #[.slice ca cn cc, .slice a0 n0 c0, .slice a1 n1 c1, .int .i64 p.turn, .int .i64 p.quiet] 43)) W2) => hsm W2 (hal.trans (hb2.mono hal.size)))
      have HAL := Lib.hid (hB.out.trans (hal.mono hB.out.size))
      have HX := Lib.hid hX
      obtain ⟨b, hbs⟩ : ∃ b, b = sameB p q := ⟨_, rfl⟩
      rw [← hbs] at HSM HCS
      clear hcs hsm hp hX hal hbs
      go_wp2_with fail
      generalize wr.alloc (.cells #[.slice ca cn cc, .slice a0 n0 c0, .slice a1 n1 c1, .int .i64 p.turn, .int .i64 p.quiet] 43) = U at HSM HAL HX hq0 ⊢
      generalize wr.heap.size = pb at HX hq0 ⊢
      clear e0 e1 e2 e3 e4
      have HS2 : Hid (∀ W', Below U.heap.size U W' → W'.cell? ⟨bb, 11, none⟩ = some (vc) ∧ W'.cell? ⟨bb, 12, none⟩ = some (v0) ∧ W'.cell? ⟨bb, 13, none⟩ = some (v1) ∧ W'.cell? ⟨bb, 14, none⟩ = some (.int .i64 q.turn) ∧ W'.cell? ⟨bb, 15, none⟩ = some (.int .i64 q.quiet) ∧ W'.cell? ⟨pb, 0, none⟩ = some (.slice ca cn cc) ∧ W'.cell? ⟨pb, 1, none⟩ = some (.slice a0 n0 c0) ∧ W'.cell? ⟨pb, 2, none⟩ = some (.slice a1 n1 c1) ∧ W'.cell? ⟨pb, 3, none⟩ = some (.int .i64 p.turn) ∧ W'.cell? ⟨pb, 4, none⟩ = some (.int .i64 p.quiet)) := Lib.hid (fun W' hb => by
        obtain ⟨x0, x1, x2, x3, x4⟩ := HG.out W' (HAL.out.trans (hb.mono HAL.out.size))
        obtain ⟨e0, e1, e2, e3, e4⟩ := BoxP.below HX.out hb (Nat.le_refl _)
        exact ⟨x0, x1, x2, x3, x4, e0, e1, e2, e3, e4⟩)
      obtain ⟨x0, x1, x2, x3, x4, e0, e1, e2, e3, e4⟩ := HS2.out U (Below.refl _ _)
      have hBc : Below U.heap.size U U.drew := (Below.refl _ _).drew
      go_region_held3 (fun w' => w'.cell? ⟨bb, 11, none⟩ = some (vc) ∧ w'.cell? ⟨bb, 12, none⟩ = some (v0) ∧ w'.cell? ⟨bb, 13, none⟩ = some (v1) ∧ w'.cell? ⟨bb, 14, none⟩ = some (.int .i64 q.turn) ∧ w'.cell? ⟨bb, 15, none⟩ = some (.int .i64 q.quiet) ∧ w'.cell? ⟨pb, 0, none⟩ = some (.slice ca cn cc) ∧ w'.cell? ⟨pb, 1, none⟩ = some (.slice a0 n0 c0) ∧ w'.cell? ⟨pb, 2, none⟩ = some (.slice a1 n1 c1) ∧ w'.cell? ⟨pb, 3, none⟩ = some (.int .i64 p.turn) ∧ w'.cell? ⟨pb, 4, none⟩ = some (.int .i64 p.quiet)) (with_reducible exact HS2.out _ hBc) (first
        | (go_at_call 33; refine (HSM.out _ hBc).mono ?_; rintro e w5 ⟨rfl, hb⟩; have hB5 : Below U.heap.size U w5 := hBc.trans (hb.mono hBc.size); have hBc := hB5; clear hb))
      have HBF := Lib.hid (HAL.out.trans (hB5.mono HAL.out.size))
      clear hB5 x0 x1 x2 x3 x4 e0 e1 e2 e3 e4 HS2 HSM HX hB
      cases b
      · have HC2 : Hid (N = countG q (es.take (k + 1))) := Lib.hid (by rw [HCS.out, hC.out]; simp)
        clear HCS hC
        go_wp2_with fail
        go_roundw
        case rel => exact ⟨k + 1, N, by omega, by omega, by go_num, rfl, HC2, HBF⟩
        case measure => simp [intOf]; omega
      · have HC2 : Hid (N + 1 = countG q (es.take (k + 1))) := Lib.hid (by rw [HCS.out, hC.out]; simp)
        clear HCS hC
        go_wp2_with fail
        go_roundw
        case rel => exact ⟨k + 1, N + 1, by omega, by omega, by go_num, by go_num, HC2, HBF⟩
        case measure => simp [intOf]; omega
    · obtain rfl : k = en := by omega
      have HE2 : Hid (N = countG q es) := Lib.hid (by rw [hC.out, List.take_of_length_le (by rw [← HN.out]; exact Nat.le_refl _)])
      clear hC HE
      go_wp2_with fail
      go_ret
      exact ⟨ret_i64 (by rw [HE2.out]), hB.out⟩
end Go.Proofs.YtomclohfppbegaaGreatDoor
