/- ruletext's pieces: the lines of the types and of their ways. -/
import Derived.Test.YtomclohfppbegaaGreatDoorSmT
import Derived.Test.YtomclohfppbegaaGreatDoorTxtA
import Derived.Test.YtomclohfppbegaaGreatDoorHeld
import Derived.Deep.Cut
import Derived.Deep.CutRange
set_option maxRecDepth 100000
namespace Go.Proofs.YtomclohfppbegaaGreatDoor
open Go.ChangeShapes Go.WideShapes Go.ChangeAt Go.RowKit

/-- What a printer's functions leave. -/
def PrPost (B b : Nat) (l : List UInt8) (w : World) (e : Ending) (w' : World) : Prop := e = .returned (.tuple #[]) ∧ Bld B b l w' ∧ Below B w w' ∧ Boxes b w w'
/-- What they keep in a loop. -/
def PrAt (B b : Nat) (l : List UInt8) (w W : World) : Prop := Bld B b l W ∧ Below B w W ∧ Boxes b w W
theorem PrAt.below {B b : Nat} {l : List UInt8} {w W W' : World} (h : PrAt B b l w W) (hb : Below W.heap.size W W') (hB : B ≤ W.heap.size) : PrAt B b l w W' :=
  ⟨h.1.below hb, h.2.1.trans (hb.mono hB), h.2.2.trans (Boxes.of hb)⟩
theorem words_new (W : World) (C : Array Value) (t : TypeId) (ws : List (List UInt8)) (h : C = (ws.map fun x => Value.string (str x)).toArray) : Words (W.alloc (.cells C t)) W.heap.size ws := by
  intro j x hx
  rw [World.cell?_alloc_mark, h]
  simp [hx]

theorem IsSl.atk {α : Type} {q : World → Nat → Nat → α → Prop} {k : Nat} {W : World} {a : Option Addr} {n cap : Nat} {xs : List α} (h : IsSl q k W (.slice a n cap) xs) (hn : n = xs.length) {j : Nat} (hj : j < n) : ∃ g off x, a = some ⟨g, off, none⟩ ∧ xs[j]? = some x ∧ q W g (off + j * k) x := by
  obtain ⟨a', cap', e, _, h2⟩ := h.shape hn
  simp only [Value.slice.injEq] at e
  obtain ⟨rfl, _, rfl⟩ := e
  exact h2 j hj
/-- A piece's variable: a block of its own. -/
def PcBox (W : World) (pb : Nat) (x : PieceD) (u : Value) : Prop := W.heap[pb]? = some (.cells #[.int .u8 x.letter, .int .i64 x.hand, .int .i64 x.promote, u] 68 (0, 0))
theorem PcBox.cells {W : World} {pb : Nat} {x : PieceD} {u : Value} (h : PcBox W pb x u) : W.cell? ⟨pb, 0, none⟩ = some (.int .u8 x.letter) ∧ W.cell? ⟨pb, 1, none⟩ = some (.int .i64 x.hand) ∧ W.cell? ⟨pb, 2, none⟩ = some (.int .i64 x.promote) ∧ W.cell? ⟨pb, 3, none⟩ = some u := by
  have hc : ∀ i, W.cell? ⟨pb, i, none⟩ = (#[.int .u8 x.letter, .int .i64 x.hand, .int .i64 x.promote, u] : Array Value)[i]? := fun i => cell_of_row W pb i _ _ (0, 0) h
  exact ⟨hc 0, hc 1, hc 2, hc 3⟩
theorem bld_blk {B b : Nat} {l : List UInt8} {W : World} (h : Bld B b l W) : ∃ cs, W.heap[b]? = some (.cells cs 58 (0, 0)) := by
  rcases h with ⟨_, v, h, _⟩ | ⟨_, v, h, _⟩
  · exact ⟨_, h⟩
  · exact ⟨_, h⟩
theorem Boxes.box {B b k : Nat} {l : List UInt8} {W W' : World} {cs : Array Value} {t : TypeId} {fr : Nat × Nat} (h : Boxes b W W') (hb : Bld B b l W) (h1 : t ≠ 58) (h2 : t ≠ 5) (hc : W.heap[k]? = some (.cells cs t fr)) : W'.heap[k]? = some (.cells cs t fr) := by
  refine h k cs t fr (fun e => ?_) h2 hc
  subst e
  obtain ⟨cs', h3⟩ := bld_blk hb
  rw [hc] at h3
  simp only [Option.some.injEq, Obj.cells.injEq] at h3
  exact h1 h3.2.1
/-- A line of words in a slice just made. -/
theorem line_new (B b : Nat) (l : List UInt8) (ws : List (List UInt8)) (V : World) (C : Array Value) (w : World) (h : PrAt B b l w V) (hBw : B ≤ w.heap.size) (hC : C = (ws.map fun x => Value.string (str x)).toArray) (n : Nat) (hnn : n = ws.length) (hn : n ≤ 5) (hl : l.length + (lineB ws).length ≤ 100000) :
    Calls Tryz.prog 17 #[.pointer (some ⟨b, 0, none⟩), .slice (some ⟨V.heap.size, 0, none⟩) n n] (V.alloc (.cells C 9)) fun e w' => e = .returned (.tuple #[]) ∧ PrAt B b (l ++ lineB ws) w w' ∧ Boxes b V w' := by
  subst hnn
  have hV := (Below.refl V.heap.size V).alloc (Nat.le_refl _) (.cells C 9)
  have hs := h.2.1.size
  have h2 := h.below hV (by omega)
  refine (lineT_any B b l ws V.heap.size ws.length _ h2.1 (by have := h2.2.1.size; omega) (words_new V C _ ws hC) (by simp) (Nat.le_refl _) hn hl).mono ?_
  rintro e w' ⟨rfl, k1, k2, k3⟩
  exact ⟨rfl, ⟨k1, h2.2.1.trans k2, h2.2.2.trans k3⟩, (Boxes.of hV).trans k3⟩
theorem PcBox.kept {B b pb : Nat} {l : List UInt8} {W W' : World} {x : PieceD} {u : Value} (h : PcBox W pb x u) (hx : Boxes b W W') (hb : Bld B b l W) : PcBox W' pb x u := hx.box hb (by decide) (by decide) h
theorem PcBox.below {pb : Nat} {W W' : World} {x : PieceD} {u : Value} (h : PcBox W pb x u) (hb : Below W.heap.size W W') : PcBox W' pb x u := (hb.block pb (Array.getElem?_eq_some_iff.1 h).1).trans h
/-- A type in memory, in every world that has kept what lies below block B. -/
theorem pcs_kept {B n cap : Nat} {w0 w : World} {a : Option Addr} {ps : List PieceD} (h : IsSl PieceAt 4 w0 (.slice a n cap) ps) (hn : n = ps.length) (hB : B = w0.heap.size) (hw : Below B w0 w) {j : Nat} (hj : j < n) :
    ∃ g off x u, a = some ⟨g, off, none⟩ ∧ ps[j]? = some x ∧ ∀ W, Below B w W → W.cell? ⟨g, off + j * 4, none⟩ = some (.int .u8 x.letter) ∧ W.cell? ⟨g, off + j * 4 + 1, none⟩ = some (.int .i64 x.hand) ∧ W.cell? ⟨g, off + j * 4 + 2, none⟩ = some (.int .i64 x.promote) ∧ W.cell? ⟨g, off + j * 4 + 3, none⟩ = some u ∧ IsSl WayAt 4 W u x.ways := by
  obtain ⟨g, off, x, e, hx, u, c0, c1, c2, c3, c4⟩ := h.atk hn hj
  have hle : w0.heap.size ≤ B := by omega
  exact ⟨g, off, x, u, e, hx, fun W hb => ⟨cell_keeps (hw.trans hb) hle c0, cell_keeps (hw.trans hb) hle c1, cell_keeps (hw.trans hb) hle c2, cell_keeps (hw.trans hb) hle c3, c4.below way_keeps (hw.trans hb) hle⟩⟩
/-- A way's variable: a block of its own. -/
def WBox (W : World) (pb : Nat) (y : WayD) : Prop := W.heap[pb]? = some (.cells #[.int .i64 y.dx, .int .i64 y.dy, .int .i64 y.most, .int .i64 y.take] 106 (0, 0))
theorem WBox.cells {W : World} {pb : Nat} {y : WayD} (h : WBox W pb y) : W.cell? ⟨pb, 0, none⟩ = some (.int .i64 y.dx) ∧ W.cell? ⟨pb, 1, none⟩ = some (.int .i64 y.dy) ∧ W.cell? ⟨pb, 2, none⟩ = some (.int .i64 y.most) ∧ W.cell? ⟨pb, 3, none⟩ = some (.int .i64 y.take) := by
  have hc : ∀ i, W.cell? ⟨pb, i, none⟩ = (#[.int .i64 y.dx, .int .i64 y.dy, .int .i64 y.most, .int .i64 y.take] : Array Value)[i]? := fun i => cell_of_row W pb i _ _ (0, 0) h
  exact ⟨hc 0, hc 1, hc 2, hc 3⟩
theorem take_wordP {t : Int} (h0 : 0 ≤ t) (h2 : t ≤ 2) : ([[110, 101, 118, 101, 114], [109, 97, 121], [109, 117, 115, 116]] : List (List UInt8))[t.toNat]? = some (takeB t) := by
  obtain rfl | rfl | rfl : t = 0 ∨ t = 1 ∨ t = 2 := by omega
  all_goals rfl
theorem WBox.kept {B b pb : Nat} {l : List UInt8} {W W' : World} {y : WayD} (h : WBox W pb y) (hx : Boxes b W W') (hb : Bld B b l W) : WBox W' pb y := hx.box hb (by decide) (by decide) h
theorem WBox.below {pb : Nat} {W W' : World} {y : WayD} (h : WBox W pb y) (hb : Below W.heap.size W W') : WBox W' pb y := (hb.block pb (Array.getElem?_eq_some_iff.1 h).1).trans h
set_option maxHeartbeats 4000000 in
theorem pieces_any (B b : Nat) (l : List UInt8) (ps : List PieceD) (vp : Value) (w0 w : World) (hbl : Bld B b l w) (hB0 : B = w0.heap.size) (hb0 : Below B w0 w) (hT : Tb B w) (hp : IsSl PieceAt 4 w0 vp ps) (h6 : ps.length ≤ 6) (hok : ∀ x ∈ ps, POk ps.length x) (hl : l.length ≤ 10000) :
    Calls Tryz.prog 19 #[.pointer (some ⟨b, 0, none⟩), vp] w (PrPost B b (l ++ piecesL ps ps) w) := by
  have hBw : B ≤ w.heap.size := by have := hb0.size; omega
  have HOK : Hid _ := Lib.hid hok
  have HT : Hid _ := Lib.hid hT
  obtain ⟨n, hn⟩ : ∃ n, n = ps.length := ⟨_, rfl⟩
  have HN : Hid _ := Lib.hid hn
  have hn6 : n ≤ 6 := by omega
  obtain ⟨ap, cp, rfl, hcp, _⟩ := hp.shape hn
  have HP : Hid _ := Lib.hid (fun (j : Nat) (hj : j < n) => pcs_kept hp hn hB0 hb0 hj)
  have HI : Hid (PrAt B b (l ++ piecesL ps (ps.take 0)) w w) := Lib.hid (by simpa [piecesL] using ⟨hbl, Below.refl _ _, Boxes.refl _ _⟩)
  clear hbl hT hp hok hn h6 hB0 hb0
  go_enter Tryz.func19, Tryz.ntmps19
  go_wp2_with fail
  go_loopw [5, 6, 8, 11] (fun _ _ _ i wr => ∃ k : Nat, k ≤ n ∧ i = .int .i64 (k : Int) ∧ Hid (PrAt B b (l ++ piecesL ps (ps.take k)) w wr)) (fun _ _ _ i _ => n - (intOf i).toNat)
  case atStart => exact ⟨0, by omega, rfl, HI⟩
  case round =>
    clear HI
    obtain ⟨k, hk, rfl, hinv⟩ := hrel
    by_cases hlt : k < n
    · obtain ⟨g, off, x, u, rfl, hx, hat⟩ := HP.out k hlt
      obtain ⟨c0, c1, c2, c3, hu⟩ := hat wr hinv.out.2.1
      obtain ⟨m, hm⟩ : ∃ m : Nat, m = x.ways.length := ⟨_, rfl⟩
      obtain ⟨au, cu, rfl, hmcu, -⟩ := hu.shape hm
      have HX : Hid _ := Lib.hid hx
      have HM : Hid _ := Lib.hid hm
      have HXO : Hid _ := Lib.hid (HOK.out x (List.mem_of_getElem? hx))
      have HU : Hid (∀ W, Below B w W → IsSl WayAt 4 W (.slice au m cu) x.ways) := Lib.hid (fun W h => (hat W h).2.2.2.2)
      clear hx hm hu hat
      have hkc : k ≤ cp := by omega
      go_upto_if 17 with fail
      have HPB : Hid (PcBox (wr.alloc (.cells #[.int .u8 x.letter, .int .i64 x.hand, .int .i64 x.promote, .slice au m cu] 68)) wr.heap.size x (.slice au m cu)) := Lib.hid (heap_alloc_new wr _)
      have HIW : Hid (PrAt B b (l ++ piecesL ps (ps.take k)) w (wr.alloc (.cells #[.int .u8 x.letter, .int .i64 x.hand, .int .i64 x.promote, .slice au m cu] 68))) := Lib.hid (hinv.out.below ((Below.refl _ _).alloc (Nat.le_refl _) _) (by have := hinv.out.2.1.size; omega))
      clear hinv c0 c1 c2 c3
      generalize wr.alloc (.cells #[.int .u8 x.letter, .int .i64 x.hand, .int .i64 x.promote, .slice au m cu] 68) = W at HPB HIW ⊢
      obtain ⟨pb, hpb⟩ : ∃ pb, pb = wr.heap.size := ⟨_, rfl⟩
      rw [← hpb] at HPB ⊢
      clear hpb
      go_cut [6] from 12 to 24 (fun t wx => t = .string (str (toB ps x)) ∧ Hid (PrAt B b (l ++ piecesL ps (ps.take k)) w wx) ∧ Hid (PcBox wx pb x (.slice au m cu)))
      case first =>
        obtain ⟨d0, d1, d2, d3⟩ := HPB.out.cells
        obtain ⟨_, _, ⟨p0, p1⟩, _⟩ := HXO.out
        obtain ⟨pr, hpr⟩ : ∃ pr : Int, pr = x.promote := ⟨_, rfl⟩
        have HPR : Hid _ := Lib.hid hpr
        rw [← hpr] at d2 p0 p1 ⊢
        rw [← HN.out] at p1
        clear hpr
        by_cases hpos : 0 < pr
        · obtain ⟨q, hq⟩ := Int.eq_ofNat_of_zero_le (show 0 ≤ pr - 1 by omega)
          obtain rfl : pr = (q : Int) + 1 := by omega
          have hqn : q < n := by omega
          obtain ⟨g', off', y, uy, e, hy, haty⟩ := HP.out q hqn
          obtain ⟨y0, y1, y2, y3, _⟩ := haty W HIW.out.2.1
          obtain ⟨rfl, rfl⟩ : g = g' ∧ off = off' := by simpa using e
          have HY : Hid _ := Lib.hid hy
          obtain ⟨⟨l0, l1⟩, _⟩ := HOK.out y (List.mem_of_getElem? hy)
          have HTO : Hid (toB ps x = lettB y) := Lib.hid (by
            rw [toB, if_pos (by rw [← HPR.out]; omega), ← HPR.out, show ((q : Int) + 1 - 1).toNat = q by omega, hy])
          have hqc : q ≤ cp := by omega
          clear hy hq e haty
          go_wp2_with fail
          go_at_call 51
          refine (letterT_any y uy (by omega) (by omega) _).mono ?_; rintro e w2 ⟨rfl, hb2⟩
          go_wp2_with fail
          go_meet
          case rel => exact ⟨by rw [HTO.out], Lib.hid (HIW.out.below hb2 (by have := HIW.out.2.1.size; omega)), Lib.hid ((hb2.block pb (Array.getElem?_eq_some_iff.1 HPB.out).1).trans HPB.out)⟩
        · have HTO : Hid (toB ps x = [45]) := Lib.hid (by rw [toB, if_neg (by rw [← HPR.out]; omega)])
          go_wp2_with fail
          go_meet
          case rel => exact ⟨by rw [HTO.out]; rfl, HIW, HPB⟩
      case rest =>
        clear HPB HIW
        obtain ⟨rfl, HIW, HPB⟩ := hcut
        obtain ⟨d0, d1, d2, d3⟩ := HPB.out.cells
        obtain ⟨⟨l0, l1⟩, ⟨e0, e1⟩, _⟩ := HXO.out
        go_wp2_with fail
        have hB1 : B ≤ wc.heap.size := by have := HIW.out.2.1.size; omega
        have HHL2 : Hid ((l ++ piecesL ps (ps.take k)).length + (headL ps x).length ≤ 100000) := Lib.hid (by
          have h1 := headL_le ps HXO.out
          have h2 := piecesL_le ps (l := ps.take k) (fun y hy => HOK.out y (List.mem_of_mem_take hy))
          have h3 : (ps.take k).length * 600 ≤ 6 * 600 := Nat.mul_le_mul_right 600 (by rw [List.length_take]; omega)
          rw [List.length_append]; omega)
        go_region_held3 (fun w' => w'.cell? ⟨pb, 0, none⟩ = some (.int .u8 x.letter) ∧ w'.cell? ⟨pb, 1, none⟩ = some (.int .i64 x.hand) ∧ w'.cell? ⟨pb, 2, none⟩ = some (.int .i64 x.promote) ∧ w'.cell? ⟨pb, 3, none⟩ = some (.slice au m cu)) (go_keep) (first
          | (go_at_call 51; refine (letterT_any x (.slice au m cu) (by omega) (by omega) _).mono ?_; rintro e w2 ⟨rfl, hb2⟩; have hb2 := (Below.drew (Below.refl wc.heap.size wc)).trans hb2; have HI2 := Lib.hid (HIW.out.below hb2 hB1); have HP2 := Lib.hid (HPB.out.below hb2); have d0 := cell_keeps hb2 (Nat.le_refl _) d0; have d1 := cell_keeps hb2 (Nat.le_refl _) d1; have d2 := cell_keeps hb2 (Nat.le_refl _) d2; have d3 := cell_keeps hb2 (Nat.le_refl _) d3)
          | (go_at_call 18; refine (turned (itoa_quiet x.hand (by omega) (by omega) _)).mono ?_; rintro e w' ⟨rfl, rfl⟩)
          | (go_at_call 17; refine (line_new B b _ [[112, 105, 101, 99, 101], lettB x, num x.hand, toB ps x] w2 _ w HI2.out hBw rfl 4 rfl (by decide) HHL2.out).mono ?_; rintro e w3 ⟨rfl, HI3, hx3⟩; have HI3 := Lib.hid HI3; have HP3 := Lib.hid (HP2.out.kept hx3 HI2.out.1); obtain ⟨d0, d1, d2, d3⟩ := HP3.out.cells))
        go_wp2_with fail
        have HI0 : Hid (PrAt B b (l ++ piecesL ps (ps.take k) ++ headL ps x ++ waysL (x.ways.take 0)) w w3) := Lib.hid (by simpa [waysL, headL] using HI3.out)
        clear HI2 HP2 HI3 HP3 hx3 d0 d1 d2 d3
        go_loopw [8, 37] (fun _ i wi => ∃ j : Nat, j ≤ m ∧ i = .int .i64 (j : Int) ∧ Hid (PrAt B b (l ++ piecesL ps (ps.take k) ++ headL ps x ++ waysL (x.ways.take j)) w wi)) (fun _ i _ => m - (intOf i).toNat)
        case atStart => exact ⟨0, by omega, rfl, HI0⟩
        case round =>
          clear HI0
          obtain ⟨j, hj, rfl, hinv⟩ := hrel
          by_cases hlt2 : j < m
          · obtain ⟨gw, offw, y, rfl, hy, c0, c1, c2, c3⟩ := (HU.out wr hinv.out.2.1).atk HM.out hlt2
            have HYO : Hid _ := Lib.hid (HXO.out.2.2.2.2 y (List.mem_of_getElem? hy))
            have HY : Hid _ := Lib.hid hy
            have hjc : j < cu := by omega
            have hm16 : m ≤ 16 := by rw [HM.out]; exact HXO.out.2.2.2.1
            clear hy
            go_wp2_with fail
            have hB2 : B ≤ wr.heap.size := by have := hinv.out.2.1.size; omega
            have hba := (Below.refl wr.heap.size wr).alloc (Nat.le_refl _) (.cells #[.int .i64 y.dx, .int .i64 y.dy, .int .i64 y.most, .int .i64 y.take] 106)
            have HWB : Hid (WBox (wr.alloc (.cells #[.int .i64 y.dx, .int .i64 y.dy, .int .i64 y.most, .int .i64 y.take] 106)) wr.heap.size y) := Lib.hid (heap_alloc_new wr _)
            have HIA : Hid (PrAt B b (l ++ piecesL ps (ps.take k) ++ headL ps x ++ waysL (x.ways.take j)) w (wr.alloc (.cells #[.int .i64 y.dx, .int .i64 y.dy, .int .i64 y.most, .int .i64 y.take] 106))) := Lib.hid (hinv.out.below hba hB2)
            have HHL3 : Hid ((l ++ piecesL ps (ps.take k) ++ headL ps x ++ waysL (x.ways.take j)).length + (wayL y).length ≤ 100000) := Lib.hid (by
              have h1 := headL_le ps HXO.out
              have h2 := piecesL_le ps (l := ps.take k) (fun y hy => HOK.out y (List.mem_of_mem_take hy))
              have h3 : (ps.take k).length * 600 ≤ 6 * 600 := Nat.mul_le_mul_right 600 (by rw [List.length_take]; omega)
              have h4 := waysL_le (l := x.ways.take j) (k := 16) (by have := HXO.out.2.2.2.1; rw [List.length_take]; omega) (fun y hy => HXO.out.2.2.2.2 y (List.mem_of_mem_take hy))
              have h5 := wayL_le HYO.out
              rw [List.length_append, List.length_append, List.length_append]; omega)
            have hB3 : B ≤ (wr.alloc (.cells #[.int .i64 y.dx, .int .i64 y.dy, .int .i64 y.most, .int .i64 y.take] 106)).heap.size := by have := hba.size; omega
            clear hinv c0 c1 c2 c3 hba
            generalize wr.alloc (.cells #[.int .i64 y.dx, .int .i64 y.dy, .int .i64 y.most, .int .i64 y.take] 106) = wa at HWB HIA hB3 ⊢
            obtain ⟨wb, hwb⟩ : ∃ wb, wb = wr.heap.size := ⟨_, rfl⟩
            rw [← hwb] at HWB ⊢
            clear hwb
            obtain ⟨⟨x0, x1⟩, ⟨y0, y1⟩, ⟨m0, m1⟩, t0, t1⟩ := HYO.out
            obtain ⟨tk, htk⟩ := Int.eq_ofNat_of_zero_le t0
            have htk3 : tk < 3 := by omega
            have htk4 : (tk : Int) < 3 := by omega
            have htk5 : (0 : Int) ≤ (tk : Int) := by omega
            have HTK : Hid ([[110, 101, 118, 101, 114], [109, 97, 121], [109, 117, 115, 116]][tk]? = some (takeB y.take)) := Lib.hid (by have h1 := take_wordP t0 t1; rw [htk, Int.toNat_natCast] at h1; rw [htk]; exact h1)
            have HTE := Lib.hid htk
            obtain ⟨c0, c1, c2, c3⟩ := HWB.out.cells
            rw [htk] at c3
            clear t0 t1 htk
            refine wp_region_held_drew (S := fun w' => w'.cell? ⟨wb, 0, none⟩ = some (.int .i64 y.dx) ∧ w'.cell? ⟨wb, 1, none⟩ = some (.int .i64 y.dy) ∧ w'.cell? ⟨wb, 2, none⟩ = some (.int .i64 y.most) ∧ w'.cell? ⟨wb, 3, none⟩ = some (.int .i64 (tk : Int))) (by kernel_rfl) ?_ (fun hHeld => ?_)
            · go_keep
            refine wpAnyH_take (i := 0) (v := ?_) rfl (by kernel_rfl) (by kernel_rfl) (by kernel_rfl) (fun _ _ _ h => h) (Or.inl ⟨by rfl, ?_⟩) (by assumption) ?_
            rotate_left
            · intro w hSw
              (try dsimp only at hSw)
              go_simp
              all_goals with_reducible rfl
            simp only [Act.put, List.setIfInBounds_toArray, List.set_cons_zero, List.set_cons_succ, List.getElem_toArray, List.getElem_cons_zero]
            refine wpAnyH_take (i := 1) (v := ?_) rfl (by kernel_rfl) (by kernel_rfl) (by kernel_rfl) (fun _ _ _ h => h) (Or.inl ⟨by rfl, ?_⟩) (by assumption) ?_
            rotate_left
            · intro w hSw
              (try dsimp only at hSw)
              go_simp
              all_goals with_reducible rfl
            simp only [Act.put, List.setIfInBounds_toArray, List.set_cons_zero, List.set_cons_succ, List.getElem_toArray, List.getElem_cons_zero, List.getElem_cons_succ]
            refine wpAnyH_take (i := 2) (v := ?_) rfl (by kernel_rfl) (by kernel_rfl) (by kernel_rfl) (fun _ _ _ h => h) (Or.inl ⟨by rfl, ?_⟩) (by assumption) ?_
            rotate_left
            · intro w hSw
              (try dsimp only at hSw)
              go_simp
              all_goals with_reducible rfl
            simp only [Act.put, List.setIfInBounds_toArray, List.set_cons_zero, List.set_cons_succ, List.getElem_toArray, List.getElem_cons_zero, List.getElem_cons_succ]
            refine wpAnyH_take (i := 4) (v := ?_) rfl (by kernel_rfl) (by kernel_rfl) (by kernel_rfl) (fun _ _ _ h => h) (Or.inl ⟨by rfl, ?_⟩) (by assumption) ?_
            rotate_left
            · intro w hSw
              (try dsimp only at hSw)
              go_simp
              all_goals with_reducible rfl
            simp only [Act.put, List.setIfInBounds_toArray, List.set_cons_zero, List.set_cons_succ, List.getElem_toArray, List.getElem_cons_zero, List.getElem_cons_succ]
            refine wpAnyH_take (i := 5) (v := ?_) rfl (by kernel_rfl) (by kernel_rfl) (by kernel_rfl) (fun _ _ _ h => h) (Or.inl ⟨by rfl, ?_⟩) (by assumption) ?_
            rotate_left
            · intro w hSw
              (try dsimp only at hSw)
              go_simp
              all_goals with_reducible rfl
            simp only [Act.put, List.setIfInBounds_toArray, List.set_cons_zero, List.set_cons_succ, List.getElem_toArray, List.getElem_cons_zero, List.getElem_cons_succ]
            refine wpAnyH_take (i := 7) (v := ?_) rfl (by kernel_rfl) (by kernel_rfl) (by kernel_rfl) (fun _ _ _ h => h) (Or.inl ⟨by rfl, ?_⟩) (by assumption) ?_
            rotate_left
            · intro w hSw
              (try dsimp only at hSw)
              go_simp
              all_goals with_reducible rfl
            simp only [Act.put, List.setIfInBounds_toArray, List.set_cons_zero, List.set_cons_succ, List.getElem_toArray, List.getElem_cons_zero, List.getElem_cons_succ]
            refine wpAnyH_take (i := 8) (v := ?_) rfl (by kernel_rfl) (by kernel_rfl) (by kernel_rfl) (fun _ _ _ h => h) (Or.inl ⟨by rfl, ?_⟩) (by assumption) ?_
            rotate_left
            · intro w hSw
              (try dsimp only at hSw)
              go_simp
              all_goals with_reducible rfl
            simp only [Act.put, List.setIfInBounds_toArray, List.set_cons_zero, List.set_cons_succ, List.getElem_toArray, List.getElem_cons_zero, List.getElem_cons_succ]
            refine wpAnyH_take (i := 11) (v := ?_) rfl (by kernel_rfl) (by kernel_rfl) (by kernel_rfl) (fun _ _ _ h => h) (Or.inl ⟨by rfl, ?_⟩) (by assumption) ?_
            rotate_left
            · intro w hSw
              (try dsimp only at hSw)
              go_simp
              all_goals with_reducible rfl
            simp only [Act.put, List.setIfInBounds_toArray, List.set_cons_zero, List.set_cons_succ, List.getElem_toArray, List.getElem_cons_zero, List.getElem_cons_succ]
            refine wpAnyH_take (i := 12) (v := ?_) rfl (by kernel_rfl) (by kernel_rfl) (by kernel_rfl) (fun _ _ _ h => h) (Or.inl ⟨by rfl, ?_⟩) (by assumption) ?_
            rotate_left
            · intro w hSw
              (try dsimp only at hSw)
              go_simp
              all_goals with_reducible rfl
            simp only [Act.put, List.setIfInBounds_toArray, List.set_cons_zero, List.set_cons_succ, List.getElem_toArray, List.getElem_cons_zero, List.getElem_cons_succ]
            refine wpAnyH_ready (rs := [3]) (by kernel_rfl) (by simp) (AllReadyH.cons rfl (fun K hK => ?_) AllReadyH.nil)
            go_simp
            go_at_call 18; refine (itoa_any y.dx (by omega) (by omega) _ (HT.out.below (Below.drew HIA.out.2.1))).mono ?_; rintro e w4 ⟨rfl, hb4⟩; have hb4 := (Below.drew (Below.refl wa.heap.size wa)).trans hb4; have HI4 := Lib.hid (HIA.out.below hb4 hB3); have HW4 := Lib.hid (HWB.out.below hb4); have hB4 : B ≤ w4.heap.size := Nat.le_trans hB3 hb4.size; have c0 := cell_keeps hb4 (Nat.le_refl _) c0; have c1 := cell_keeps hb4 (Nat.le_refl _) c1; have c2 := cell_keeps hb4 (Nat.le_refl _) c2; have c3 := cell_keeps hb4 (Nat.le_refl _) c3
            refine hK.out _ _ ?_ (fun hHeld => ?_)
            · go_keep
            clear hK K
            try simp only [Act.put, List.setIfInBounds_toArray, List.set_cons_zero, List.set_cons_succ, List.getElem_toArray, List.getElem_cons_zero, List.getElem_cons_succ]
            refine wpAnyH_ready (rs := [6]) (by kernel_rfl) (by simp) (AllReadyH.cons rfl (fun K hK => ?_) AllReadyH.nil)
            go_simp
            go_at_call 18; refine (itoa_any y.dy (by omega) (by omega) _ (HT.out.below HI4.out.2.1)).mono ?_; rintro e w5 ⟨rfl, hb5⟩; have HI5 := Lib.hid (HI4.out.below hb5 hB4); have HW5 := Lib.hid (HW4.out.below hb5); have hB5 : B ≤ w5.heap.size := Nat.le_trans hB4 hb5.size; have c0 := cell_keeps hb5 (Nat.le_refl _) c0; have c1 := cell_keeps hb5 (Nat.le_refl _) c1; have c2 := cell_keeps hb5 (Nat.le_refl _) c2; have c3 := cell_keeps hb5 (Nat.le_refl _) c3
            refine hK.out _ _ ?_ (fun hHeld => ?_)
            · go_keep
            clear hK K
            try simp only [Act.put, List.setIfInBounds_toArray, List.set_cons_zero, List.set_cons_succ, List.getElem_toArray, List.getElem_cons_zero, List.getElem_cons_succ]
            refine wpAnyH_ready (rs := [9]) (by kernel_rfl) (by simp) (AllReadyH.cons rfl (fun K hK => ?_) AllReadyH.nil)
            go_simp
            go_at_call 18; refine (turned (itoa_quiet y.most (by omega) (by omega) _)).mono ?_; rintro e w' ⟨rfl, rfl⟩
            refine hK.out _ _ ?_ (fun hHeld => ?_)
            · go_keep
            clear hK K
            try simp only [Act.put, List.setIfInBounds_toArray, List.set_cons_zero, List.set_cons_succ, List.getElem_toArray, List.getElem_cons_zero, List.getElem_cons_succ]
            refine wpAnyH_ready (rs := [10]) (by kernel_rfl) (by simp) (AllReadyH.cons rfl (fun K hK => ?_) AllReadyH.nil)
            go_simp
            go_at_call 52; refine (takeWords_any _).mono ?_; rintro e w6 ⟨gt, rfl, hwd, hb6⟩; have HI6 := Lib.hid (HI5.out.below hb6 hB5); have HW6 := Lib.hid (HW5.out.below hb6); have c0 := cell_keeps hb6 (Nat.le_refl _) c0; have c1 := cell_keeps hb6 (Nat.le_refl _) c1; have c2 := cell_keeps hb6 (Nat.le_refl _) c2; have c3 := cell_keeps hb6 (Nat.le_refl _) c3; have hwt := hwd.words tk _ HTK.out
            refine hK.out _ _ ?_ (fun hHeld => ?_)
            · go_keep
            clear hK K
            try simp only [Act.put, List.setIfInBounds_toArray, List.set_cons_zero, List.set_cons_succ, List.getElem_toArray, List.getElem_cons_zero, List.getElem_cons_succ]
            refine held_weaken (S' := fun w' => (w'.cell? ⟨wb, 0, none⟩ = some (.int .i64 y.dx) ∧ w'.cell? ⟨wb, 1, none⟩ = some (.int .i64 y.dy) ∧ w'.cell? ⟨wb, 2, none⟩ = some (.int .i64 y.most) ∧ w'.cell? ⟨wb, 3, none⟩ = some (.int .i64 (tk : Int))) ∧ w'.cell? ⟨gt, tk, none⟩ = some (.string (str (takeB y.take)))) (fun _ h => h.1) _ _ _ _ ?_
            have hHeld := And.intro hHeld hwt
            refine wpAnyH_take (i := 13) (v := ?_) rfl (by kernel_rfl) (by kernel_rfl) (by kernel_rfl) (fun _ _ _ h => h) (Or.inl ⟨by rfl, ?_⟩) (by assumption) ?_
            rotate_left
            · intro w hSw
              (try dsimp only at hSw)
              go_simp
              all_goals with_reducible rfl
            simp only [Act.put, List.setIfInBounds_toArray, List.set_cons_zero, List.set_cons_succ, List.getElem_toArray, List.getElem_cons_zero, List.getElem_cons_succ]
            refine wpAnyH_take (i := 14) (v := ?_) rfl (by kernel_rfl) (by kernel_rfl) (by kernel_rfl) (fun _ _ _ h => h) (Or.inl ⟨by rfl, ?_⟩) (by assumption) ?_
            rotate_left
            · intro w hSw
              (try dsimp only at hSw)
              go_simp
              all_goals with_reducible rfl
            simp only [Act.put, List.setIfInBounds_toArray, List.set_cons_zero, List.set_cons_succ, List.getElem_toArray, List.getElem_cons_zero, List.getElem_cons_succ]
            refine wpAnyH_ready (rs := [15]) (by kernel_rfl) (by simp) (AllReadyH.cons rfl (fun K hK => ?_) AllReadyH.nil)
            go_simp
            skip
            refine hK.out _ _ ?_ (fun hHeld => ?_)
            · go_keep
            clear hK K
            try simp only [Act.put, List.setIfInBounds_toArray, List.set_cons_zero, List.set_cons_succ, List.getElem_toArray, List.getElem_cons_zero, List.getElem_cons_succ]
            refine wpAnyH_ready (rs := [16]) (by kernel_rfl) (by simp) (AllReadyH.cons rfl (fun K hK => ?_) AllReadyH.nil)
            go_simp
            go_at_call 17; refine (line_new B b _ [[119, 97, 121], num y.dx, num y.dy, num y.most, takeB y.take] w6 _ w HI6.out hBw rfl 5 rfl (by decide) HHL3.out).mono ?_; rintro e w7 ⟨rfl, HI7, hx7⟩; have HI7 := Lib.hid HI7; have HW7 := Lib.hid (HW6.out.kept hx7 HI6.out.1); obtain ⟨c0, c1, c2, c3⟩ := HW7.out.cells; rw [HTE.out] at c3; have hwt := WBlk.words (hx7.box HI6.out.1 (by decide) (by decide) hwd) tk _ HTK.out
            refine hK.out _ _ ?_ (fun hHeld => ?_)
            · go_keep
            clear hK K
            try simp only [Act.put, List.setIfInBounds_toArray, List.set_cons_zero, List.set_cons_succ, List.getElem_toArray, List.getElem_cons_zero, List.getElem_cons_succ]
            refine wpAnyH_done (by kernel_rfl) ?_ _
            have HNX : Hid (PrAt B b (l ++ piecesL ps (ps.take k) ++ headL ps x ++ waysL (x.ways.take (j + 1))) w w7) := Lib.hid (by
              rw [waysL, flat_succ HY.out, ← waysL, ← List.append_assoc]; exact HI7.out)
            go_wp2_with fail
            go_roundw
            case rel => exact ⟨j + 1, by omega, by go_num, HNX⟩
            case measure => simp [intOf]; omega
          · obtain rfl : m = j := by omega
            have HNX : Hid (PrAt B b (l ++ piecesL ps (ps.take (k + 1))) w wr) := Lib.hid (by
              have h1 : l ++ piecesL ps (ps.take (k + 1)) = l ++ piecesL ps (ps.take k) ++ headL ps x ++ waysL (x.ways.take m) := by
                rw [piecesL, flat_succ HX.out, ← piecesL, pieceL, HM.out, List.take_length]
                simp only [List.append_assoc]
              rw [h1]; exact hinv.out)
            clear hinv
            go_wp2_with fail
            go_roundw
            case rel => exact ⟨k + 1, by omega, by go_num, HNX⟩
            case measure => simp [intOf]; omega
    · obtain rfl : n = k := by omega
      have HE : Hid (PrAt B b (l ++ piecesL ps ps) w wr) := Lib.hid (by
        have h1 := hinv.out
        rw [HN.out, List.take_length] at h1
        exact h1)
      clear hinv
      go_wp2_with fail
      go_end0
      exact ⟨rfl, HE.out⟩
end Go.Proofs.YtomclohfppbegaaGreatDoor
