/- place.Begin: the position at the beginning. -/
import Derived.Test.YtdhhdkbnlddnbaaGreatDoorPlcF
import Derived.Test.YtdhhdkbnlddnbaaGreatDoorTxtA
import Derived.Test.YtdhhdkbnlddnbaaGreatDoorRulB
import Derived.Deep.RegionLaw
import Derived.Deep.RegionHeld3
import Derived.Deep.AppendLies
import Derived.Maps.AppendAt
set_option maxRecDepth 100000
namespace Go.Proofs.YtdhhdkbnlddnbaaGreatDoor
open Go.ChangeShapes Go.WideShapes Go.ChangeAt Go.RowKit Go.Deep

def handsD (r : RulesD) : List Int := r.pieces.map (·.hand)
def beginD (r : RulesD) : PlaceD := ⟨r.start, handsD r, handsD r, 0, 0⟩
theorem beginD_ok {r : RulesD} (hz : rulesE r = 0) : POkay r (beginD r) := by
  have hr := rOk hz
  have hh : ∀ c ∈ handsD r, 0 ≤ c ∧ c ≤ 1000 := by
    intro c hc
    obtain ⟨x, hx, rfl⟩ := List.mem_map.1 hc
    have := (hr.ps x hx).2.1; omega
  exact ⟨hz, hr.sl, by simp [beginD, handsD], by simp [beginD, handsD], hr.st, hh, hh, by simp [beginD], by simp [beginD], by simp [beginD], by simp [beginD]⟩
set_option maxHeartbeats 4000000 in
theorem begin_bad (r : RulesD) (vp vs ve : Value) (w : World) (hr : RulesIn w r vp vs ve) (hz : rulesE r ≠ 0) :
    Calls Tryz.prog 33 #[RulesV r vp vs ve] w (PBad (rulesE r) w) := by
  obtain ⟨c, hc⟩ : ∃ c : Int, c = rulesE r := ⟨_, rfl⟩
  have HCK : Hid (∀ W, Below w.heap.size w W → Calls Tryz.prog 48 #[RulesV r vp vs ve] W (BelPost (.int .i64 c) W)) := Lib.hid (fun W h => by rw [hc]; exact check_any r vp vs ve W (hr.below h (Nat.le_refl _)))
  rw [← hc] at hz ⊢
  have hne : (c != 0) = true := by simpa using hz
  have hB : Below w.heap.size w ((w.alloc (.cells (RulesCells r vp vs ve) 26)).alloc (.cells (PlaceCells zeroP (.slice none 0 0) (.slice none 0 0) (.slice none 0 0)) 29)) := ((Below.refl _ _).alloc (Nat.le_refl _) _).alloc (by simp) _
  have HB : Hid _ := Lib.hid hB
  have hZ := PBox.new (w.alloc (.cells (RulesCells r vp vs ve) 26)) 29 zeroP (.slice none 0 0) (.slice none 0 0) (.slice none 0 0)
  rw [World.size_alloc] at hZ
  have HZ : Hid _ := Lib.hid hZ
  unfold RulesCells PlaceCells zeroP at HB HZ
  unfold RulesV at HCK ⊢
  clear hr hc hB hZ hz
  go_enter Tryz.func33, Tryz.ntmps33
  go_wp2_with fail
  go_at_call 48; refine (HCK.out _ HB.out).mono ?_; rintro e w1 ⟨rfl, hb⟩
  have HB1 := Lib.hid (HB.out.trans (hb.mono HB.out.size))
  have hz1 : PBox w1 (w.heap.size + 1) 29 zeroP (.slice none 0 0) (.slice none 0 0) (.slice none 0 0) := PBox.below HZ.out hb (by simp)
  have HZ1 := Lib.hid hz1
  obtain ⟨⟨x0, x1, x2, x3, x4⟩, f0, f1, f2, f3, f4⟩ := hz1.facts
  clear hb HB HZ hz1 HCK
  go_wp2_with fail
  have HR2 := pbox_fill (p := zeroP) (vc := .slice none 0 0) (v0 := .slice none 0 0) (v1 := .slice none 0 0) HZ1.out
  refine bodyPost_ret (results_row_tmpP rfl _ _ (w.heap.size + 1) 29 _ (0, 0) _ rfl HR2 Tryz.underlying29 rfl (by kernel_rfl)) rfl ?_
  exact ⟨rfl, fillP_below HB1.out (by omega) zeroP _ _ _⟩

/-! ### Good rules -/
theorem own_set {W : World} {B pb o : Nat} {e : TypeId} {size n : Nat} {v u : Value} {xs : List Value} (h : W.ownsRow B e size v n xs) (hp : pb < B) : (W.setCell ⟨pb, o, none⟩ u).ownsRow B e size v n xs := by
  refine ⟨h.1, ?_⟩
  rcases h.2 with hn | ⟨g, cap, cur, rfl, h1, h2, rest⟩
  · exact .inl hn
  · exact .inr ⟨g, cap, cur, rfl, h1, (heap_setCell_other W ⟨pb, o, none⟩ g u (by simp; omega)).trans h2, rest⟩
theorem own_keepB {W W' : World} {B : Nat} {e : TypeId} {size n : Nat} {v : Value} {xs : List Value} (h : W.ownsRow B e size v n xs) (hb : Below W.heap.size W W') : W'.ownsRow B e size v n xs := by
  refine ⟨h.1, ?_⟩
  rcases h.2 with hn | ⟨g, cap, cur, rfl, h1, h2, rest⟩
  · exact .inl hn
  · exact .inr ⟨g, cap, cur, rfl, h1, (hb.block g (Array.getElem?_eq_some_iff.1 h2).1).trans h2, rest⟩
theorem own_max2 {W : World} {B : Nat} {e : TypeId} {size g n cap : Nat} {xs : List Value} (h : W.ownsRow B e size (.slice (some ⟨g, 0, none⟩) n cap) n xs) : cap ≤ maxLen := by
  rcases h.2 with ⟨h', _⟩ | ⟨g', cap', cur, h', _, _, _, hc, _⟩
  · simp at h'
  · simp only [Value.slice.injEq] at h'
    omega
theorem own_cap2 {W : World} {B : Nat} {e : TypeId} {g n cap : Nat} {xs : List Value} (h : W.ownsRow B e 1 (.slice (some ⟨g, 0, none⟩) n cap) n xs) : n ≤ cap := by
  rcases h.2 with ⟨h', _⟩ | ⟨g', cap', cur, h', _, _, hc, _⟩
  · simp at h'
  · simp only [Value.slice.injEq] at h'; omega
theorem ints_of_ownB {W : World} {B n : Nat} {e : TypeId} {v : Value} {st : List Int} (h : W.ownsRow B e 1 v n (st.map (.int .i64))) (hn : n = st.length) {d : Nat → Prop} (hd : ∀ k, B ≤ k → d k) : IsSl (Blk d IntAt) 1 W v st := by
  rcases Joins.ownsRow_forms h with ⟨rfl, h0⟩ | ⟨g, cap, rfl⟩
  · exact .inl ⟨List.length_eq_zero_iff.1 (by omega), _, _, rfl⟩
  · by_cases h0 : st = []
    · exact .inl ⟨h0, _, _, by rw [hn, h0]; rfl⟩
    · refine .inr ⟨g, 0, cap, by rw [hn], h0, by rw [← hn]; exact own_cap2 h, own_max2 h, fun i x hx => ⟨hd g (h.lt g rfl).1, ?_⟩⟩
      have hi := (List.getElem?_eq_some_iff.1 hx).1
      have h2 := h.cellAt i (by omega)
      rw [List.getElem?_map, hx] at h2
      rw [IntAt, Nat.zero_add, Nat.mul_one]
      exact h2
/-- What stands while the hands are filled. -/
structure BInv (r : RulesD) (w : World) (vp vs ve : Value) (pb : Nat) (vc h0 h1 : Value) (l0 l1 : List Int) (V : World) : Prop where
  box : PBox V pb 29 (beginD r) vc h0 h1
  zb : PBox V (w.heap.size + 1) 29 zeroP (.slice none 0 0) (.slice none 0 0) (.slice none 0 0)
  rb : RBox V w.heap.size 26 r vp vs ve
  c : IsSl (Blk (fun k => k ≠ pb ∧ k ≠ w.heap.size + 1 ∧ w.heap.size ≤ k) IntAt) 1 V vc r.start
  a : IsSl (Blk (fun k => k ≠ pb ∧ k ≠ w.heap.size + 1 ∧ w.heap.size ≤ k) IntAt) 1 V h0 l0
  b : IsSl (Blk (fun k => k ≠ pb ∧ k ≠ w.heap.size + 1 ∧ w.heap.size ≤ k) IntAt) 1 V h1 l1
  bel : Below w.heap.size w V
  ne : w.heap.size + 1 < pb
/-- Everything but the position's own block is as it was. -/
structure Most (pb : Nat) (V V' : World) : Prop where
  on : ∀ k, k < V.heap.size → k ≠ pb → V'.heap[k]? = V.heap[k]?
  sz : V.heap.size ≤ V'.heap.size
  os : V'.os = V.os
theorem handsD_take {r : RulesD} {k : Nat} {x : PieceD} (h : r.pieces[k]? = some x) : ((handsD r).take (k + 1)).map (Value.int .i64) = ((handsD r).take k).map (Value.int .i64) ++ [.int .i64 x.hand] := by
  rw [List.take_add_one, handsD, List.getElem?_map, h]; simp
def BeginOk (r : RulesD) (w : World) (e : Ending) (w' : World) : Prop := ∃ vc v0 v1, e = .returned (.tuple #[PlaceV (beginD r) vc v0 v1, .int .i64 0]) ∧ PlaceIn w' (beginD r) vc v0 v1 ∧ Below w.heap.size w w'
set_option maxHeartbeats 16000000 in
theorem begin_fresh (r : RulesD) (vp vs ve : Value) (w : World) (hr : RulesIn w r vp vs ve) (hz : rulesE r = 0) :
    Calls Tryz.prog 33 #[RulesV r vp vs ve] w (MadeP (beginD r) w) := by
  obtain ⟨i0, hi, hz0, hz1, hz2⟩ := info_parts infoIntR
  have hro := rOk hz
  have HCK : Hid (∀ W, Below w.heap.size w W → Calls Tryz.prog 48 #[RulesV r vp vs ve] W (BelPost (.int .i64 0) W)) := Lib.hid (fun W h => by have := check_any r vp vs ve W (hr.below h (Nat.le_refl _)); rwa [hz] at this)
  have HCL : Hid (∀ W, Below w.heap.size w W → Calls Tryz.prog 49 #[vs] W (CloneI r.start W)) := Lib.hid (fun W h => clone_ints r.start vs W (hr.below h (Nat.le_refl _)).1.2.1 (by
    have := hro.sl; have := Int.mul_le_mul hro.w2 hro.h2 (by have := hro.h1; omega) (by omega); omega))
  obtain ⟨n, hn⟩ : ∃ n, n = r.pieces.length := ⟨_, rfl⟩
  have hn6 : n ≤ 6 := by have := hro.p6; omega
  obtain ⟨pa, pc, rfl, hpc, pat⟩ := hr.1.1.shape hn
  obtain ⟨sa, sn, sc, rfl⟩ := hr.1.2.1.form
  have HPT : Hid (∀ k, k < n → ∃ g off x ua un uc, pa = some ⟨g, off, none⟩ ∧ r.pieces[k]? = some x ∧ ∀ V, Below w.heap.size w V → V.cell? ⟨g, off + k * 4, none⟩ = some (.int .u8 x.letter) ∧ V.cell? ⟨g, off + k * 4 + 1, none⟩ = some (.int .i64 x.hand) ∧ V.cell? ⟨g, off + k * 4 + 2, none⟩ = some (.int .i64 x.promote) ∧ V.cell? ⟨g, off + k * 4 + 3, none⟩ = some (.slice ua un uc)) := Lib.hid (fun k hk => by
    obtain ⟨g, off, x, e, hx, u, h0, h1, h2, h3, hu⟩ := pat k hk
    obtain ⟨ua, un, uc, rfl⟩ := hu.form
    exact ⟨g, off, x, ua, un, uc, e, hx, fun V hV => ⟨cell_keeps hV (Nat.le_refl _) h0, cell_keeps hV (Nat.le_refl _) h1, cell_keeps hV (Nat.le_refl _) h2, cell_keeps hV (Nat.le_refl _) h3⟩⟩)
  have HN := Lib.hid hn
  obtain ⟨W1, hW1⟩ : ∃ W1, W1 = (w.alloc (.cells (RulesCells r (.slice pa n pc) (.slice sa sn sc) ve) 26)).alloc (.cells (PlaceCells zeroP (.slice none 0 0) (.slice none 0 0) (.slice none 0 0)) 29) := ⟨_, rfl⟩
  have HB : Hid (Below w.heap.size w W1) := Lib.hid (by rw [hW1]; exact ((Below.refl _ _).alloc (Nat.le_refl _) _).alloc (by simp) _)
  have HZ : Hid (PBox W1 (w.heap.size + 1) 29 zeroP (.slice none 0 0) (.slice none 0 0) (.slice none 0 0)) := Lib.hid (by
    have h := PBox.new (w.alloc (.cells (RulesCells r (.slice pa n pc) (.slice sa sn sc) ve) 26)) 29 zeroP (.slice none 0 0) (.slice none 0 0) (.slice none 0 0)
    rw [World.size_alloc] at h; rw [hW1]; exact h)
  have HY : Hid (RBox W1 w.heap.size 26 r (.slice pa n pc) (.slice sa sn sc) ve) := Lib.hid (by rw [hW1]; exact (RBox.new w 26 r (.slice pa n pc) (.slice sa sn sc) ve).alloc _)
  have HW1 : Hid ((w.alloc (.cells #[.string r.name, .int .i64 r.width, .int .i64 r.height, .slice pa n pc, .slice sa sn sc, .bool r.falls, .bool r.keeps, ve, .int .i64 r.blocked, .int .i64 r.quiet, .int .i64 r.rep] 26)).alloc (.cells #[.slice none 0 0, .slice none 0 0, .slice none 0 0, .int .i64 0, .int .i64 0] 29) = W1) := Lib.hid hW1.symm
  unfold RulesV at HCK ⊢
  clear hr hz hro pat hn hW1
  go_enter Tryz.func33, Tryz.ntmps33
  go_wp2_with fail
  rw [HW1.out]
  clear HW1
  go_at_call 48; refine (HCK.out _ HB.out).mono ?_; rintro e w2 ⟨rfl, hb⟩
  have HB2 := Lib.hid (HB.out.trans (hb.mono HB.out.size))
  have HZ2 := Lib.hid (HZ.out.below hb HZ.out.lt)
  have HY2 := Lib.hid (HY.out.below hb (Array.getElem?_eq_some_iff.1 HY.out).1)
  obtain ⟨⟨b0, b1, b2, b3, b4, b5, b6, b7, b8, b9, b10⟩, -⟩ := HY2.out.facts
  clear hb HB HZ HY HCK b0 b1 b2 b3 b5 b6 b7 b8 b9 b10
  go_wp2_with fail
  go_at_call 49; refine (HCL.out _ HB2.out).mono ?_; rintro e w3 ⟨ca, cn, cc, rfl, hsl, hb⟩
  have hal := (Below.refl w3.heap.size w3).alloc (Nat.le_refl _) (.cells #[.slice ca cn cc, .slice none 0 0, .slice none 0 0, .int .i64 0, .int .i64 0] 29)
  have hb' := hb.trans (hal.mono hb.size)
  have HI0 : Hid (BInv r w (.slice pa n pc) (.slice sa sn sc) ve w3.heap.size (.slice ca cn cc) (.slice none 0 0) (.slice none 0 0) [] [] (w3.alloc (.cells #[.slice ca cn cc, .slice none 0 0, .slice none 0 0, .int .i64 0, .int .i64 0] 29))) := Lib.hid (by
    have hz2 := HZ2.out.lt
    have hs23 := hb.size
    refine ⟨?_, HZ2.out.below hb' HZ2.out.lt, HY2.out.below hb' (Array.getElem?_eq_some_iff.1 HY2.out).1, ?_, .inl ⟨rfl, _, _, rfl⟩, .inl ⟨rfl, _, _, rfl⟩, HB2.out.trans (hb'.mono HB2.out.size), by omega⟩
    · exact PBox.new w3 29 (beginD r) (.slice ca cn cc) (.slice none 0 0) (.slice none 0 0)
    · refine (intBlk_on (fun k _ hk => hal.block k hk) (b := fun k => k ≠ w3.heap.size ∧ k ≠ w.heap.size + 1 ∧ w.heap.size ≤ k) ?_)
      rcases hsl with h | ⟨g, off, cap, e1, e2, e3, e4, hq⟩
      · exact .inl h
      · exact .inr ⟨g, off, cap, e1, e2, e3, e4, fun i x hx => ⟨⟨by have := World.block_lt_of_cell? _ _ (hq i x hx).2; simp at this; omega, by have h1 : w2.heap.size ≤ g := (hq i x hx).1; omega, by have h1 : w2.heap.size ≤ g := (hq i x hx).1; omega⟩, (hq i x hx).2⟩⟩)
  clear hb hb' hal hsl HB2 HZ2 HY2 b4
  go_wp2_with fail
  generalize w3.alloc (.cells #[.slice ca cn cc, .slice none 0 0, .slice none 0 0, .int .i64 0, .int .i64 0] 29) = wA at HI0 ⊢
  generalize w3.heap.size = pb at HI0 ⊢
  go_loopw [6, 8, 19] (fun _ _ i wr => ∃ (i' : Nat) (h0 h1 : Value), i' ≤ 2 ∧ i = .int .i64 (i' : Int) ∧ (i' = 0 → h0 = .slice none 0 0) ∧ (i' ≤ 1 → h1 = .slice none 0 0) ∧ Hid (BInv r w (.slice pa n pc) (.slice sa sn sc) ve pb (.slice ca cn cc) h0 h1 (if i' = 0 then [] else handsD r) (if i' ≤ 1 then [] else handsD r) wr)) (fun _ _ i _ => 2 - (intOf i).toNat)
  case atStart => exact ⟨0, .slice none 0 0, .slice none 0 0, by omega, rfl, fun _ => rfl, fun _ => rfl, HI0⟩
  case round =>
    obtain ⟨i, h0, h1, hi2, rfl, hn0, hn1, hinv⟩ := hrel
    clear HI0
    obtain rfl | rfl | rfl : i = 0 ∨ i = 1 ∨ i = 2 := by omega
    · obtain rfl := hn0 rfl
      obtain rfl := hn1 (by omega)
      simp only [if_true, Nat.zero_le] at hinv
      have HVI := hinv
      obtain ⟨⟨b0, b1, b2, b3, b4, b5, b6, b7, b8, b9, b10⟩, -⟩ := HVI.out.rb.facts
      obtain ⟨V0, hV0⟩ : ∃ V0, V0 = wr := ⟨_, rfl⟩
      have HV0 := Lib.hid hV0
      have hpl := HVI.out.box.lt
      have hwp : w.heap.size + 1 < pb := HVI.out.ne
      have hwv : w.heap.size ≤ V0.heap.size := by rw [hV0]; exact HVI.out.bel.size
      clear hinv b0 b1 b2 b4 b5 b6 b7 b8 b9 b10
      go_wp2_with fail
      go_loopw [8, 25] (fun _ j V => ∃ (k : Nat) (hv : Value), k ≤ n ∧ j = .int .i64 (k : Int) ∧ V.ownsRow V0.heap.size 3 1 hv k (((handsD r).take k).map (.int .i64)) ∧ Hid (PBox V pb 29 (beginD r) (.slice ca cn cc) hv (.slice none 0 0)) ∧ Hid (Most pb V0 V) ∧ Hid (Below w.heap.size w V)) (fun _ j _ => n - (intOf j).toNat)
      case atStart => exact ⟨0, .slice none 0 0, by omega, rfl, World.ownsRow_nil _ _ _ _, Lib.hid HVI.out.box, Lib.hid (by rw [HV0.out]; exact ⟨fun _ _ _ => rfl, Nat.le_refl _, rfl⟩), Lib.hid HVI.out.bel⟩
      case round =>
        obtain ⟨k, hv, hk, rfl, hown, hbox, hmost, hbel⟩ := hrel
        rw [← hV0] at hpl
        clear b3
        by_cases hlt : k < n
        · obtain ⟨g1, o1, x, ua, un, uc, rfl, hx, hcx⟩ := HPT.out k hlt
          obtain ⟨c0, c1, c2, c3⟩ := hcx _ hbel.out
          have HTK := Lib.hid (handsD_take hx)
          have HOW := Lib.hid hown
          obtain ⟨ha, hn', hc', rfl⟩ : ∃ a m c, hv = .slice a m c := by
            rcases Joins.ownsRow_forms hown with ⟨h1, _⟩ | ⟨g, cp, h1⟩
            · exact ⟨_, _, _, h1⟩
            · exact ⟨_, _, _, h1⟩
          clear hx hcx hown hV0
          go_wp2_with fail
          have hal := (Below.refl wr.heap.size wr).alloc (Nat.le_refl _) (.cells #[.int .u8 x.letter, .int .i64 x.hand, .int .i64 x.promote, .slice ua un uc] 60)
          have p1 : (wr.alloc (.cells #[.int .u8 x.letter, .int .i64 x.hand, .int .i64 x.promote, .slice ua un uc] 60)).cell? ⟨wr.heap.size, 1, none⟩ = some (.int .i64 x.hand) := by simp
          have HOW2 := Lib.hid (own_keepB HOW.out hal)
          have HBX2 := Lib.hid (hbox.out.below hal hbox.out.lt)
          have HMO2 : Hid (Most pb V0 (wr.alloc (.cells #[.int .u8 x.letter, .int .i64 x.hand, .int .i64 x.promote, .slice ua un uc] 60))) := Lib.hid ⟨fun k hk hne => (hal.block k (by have := hmost.out.sz; omega)).trans (hmost.out.on k hk hne), Nat.le_trans hmost.out.sz hal.size, hal.os.trans hmost.out.os⟩
          have HBE2 := Lib.hid (hbel.out.trans (hal.mono hbel.out.size))
          have hpq : pb ≠ wr.heap.size := by have := hbox.out.lt; omega
          have q0 : wr.heap.size < (wr.alloc (.cells #[.int .u8 x.letter, .int .i64 x.hand, .int .i64 x.promote, .slice ua un uc] 60)).heap.size := by simp
          obtain ⟨⟨y0, y1, y2, y3, y4⟩, f0, f1, f2, f3, f4⟩ := HBX2.out.facts
          clear hal c0 c1 c2 c3 hbox hmost hbel HOW y0 y3 y4 f0 f3 f4 y2 f2
          generalize wr.alloc (.cells #[.int .u8 x.letter, .int .i64 x.hand, .int .i64 x.promote, .slice ua un uc] 60) = W at HOW2 HBX2 HMO2 HBE2 p1 q0 y1 f1 ⊢
          generalize wr.heap.size = pq at hpq p1 q0 ⊢
          have ya : (W.alloc (.cells #[.int .i64 x.hand] 3)).cell? ⟨pb, 1, none⟩ = some (.slice ha hn' hc') := Lib.cell?_alloc_some _ y1
          have yd : (W.alloc (.cells #[.int .i64 x.hand] 3)).drew.cell? ⟨pb, 1, none⟩ = some (.slice ha hn' hc') := ya
          have ye : W.drew.cell? ⟨pb, 1, none⟩ = some (.slice ha hn' hc') := y1
          go_region_law ((refine step_append_lies _ (by rfl) _ _ _ (by rfl) V0.heap.size 3 i0 _ 1 8 Tryz.underlying23 hi hz0 hz1 hz2 rfl (by omega) (.slice ha hn' hc') k (((handsD r).take k).map (.int .i64)) (by rfl) ((own_keepB HOW2.out (Below.refl _ _).drew).alloc _) ⟨W.heap.size, 0, none⟩ 1 1 [.int .i64 x.hand] (by rfl) rfl (cell_one_new _ _ _) (by simp [Value.oneCell']) (by omega) (by unfold maxLen; omega) (by omega) (by have := HMO2.out.sz; simp; omega) (W.heap.size + 1) (by simp) ?_; intro gn capn w9 hown9 hgrow9 hat9 hlt9; have hpb9 : PBox w9 pb 29 (beginD r) (.slice ca cn cc) (.slice ha hn' hc') (.slice none 0 0) := (hgrow9.block pb (by have := HBX2.out.lt; simp; omega) (fun e => by first | exact absurd (HOW2.out.lt pb e).1 (by omega) | exact absurd (HOW2.out.lt pb e.symm).1 (by omega))).trans (PBox.alloc (W := W.drew) HBX2.out _); have hmo9 : Most pb V0 w9 := ⟨fun k hk hne => (hgrow9.block k (by have := HMO2.out.sz; simp; omega) (fun e => by first | exact absurd (HOW2.out.lt k e).1 (by omega) | exact absurd (HOW2.out.lt k e.symm).1 (by omega))).trans ((Below.heap_alloc W.drew _ k (show k < W.heap.size by have := HMO2.out.sz; omega)).trans (HMO2.out.on k hk hne)), Nat.le_trans HMO2.out.sz (Nat.le_trans (by simp) hgrow9.size), hgrow9.os.trans HMO2.out.os⟩; have hbe9 : Below w.heap.size w w9 := (HBE2.out.drew.alloc HBE2.out.size _).grown hgrow9 (by have := HBE2.out.size; simp; omega) (fun k e => Nat.le_trans (by exact hwv) (HOW2.out.lt k e).1); obtain ⟨⟨z0, z1, z2, z3, z4⟩, e0, e1, e2, e3, e4⟩ := hpb9.facts))
          all_goals
            have HO9 := Lib.hid (own_set (pb := pb) (o := 1) (u := .slice (some ⟨gn, 0, none⟩) (k + 1) capn) hown9 hpl)
            have HX9 : Hid (PBox (w9.setCell ⟨pb, 1, none⟩ (.slice (some ⟨gn, 0, none⟩) (k + 1) capn)) pb 29 (beginD r) (.slice ca cn cc) (.slice (some ⟨gn, 0, none⟩) (k + 1) capn) (.slice none 0 0)) := Lib.hid (heap_setCell_same w9 pb 1 _ _ _ hpb9)
            have HM9 : Hid (Most pb V0 (w9.setCell ⟨pb, 1, none⟩ (.slice (some ⟨gn, 0, none⟩) (k + 1) capn))) := Lib.hid ⟨fun k hk hne => (heap_setCell_other w9 ⟨pb, 1, none⟩ k _ hne).trans (hmo9.on k hk hne), by rw [World.size_setCell]; exact hmo9.sz, hmo9.os⟩
            have HE9 := Lib.hid (hbe9.setCell (p := ⟨pb, 1, none⟩) (by simp; omega) (.slice (some ⟨gn, 0, none⟩) (k + 1) capn))
            clear hown9 hgrow9 hat9 hlt9 hpb9 hmo9 hbe9 z0 z1 z2 z3 z4 e0 e1 e2 e3 e4 ya yd ye
            go_wp2_with fail
            go_roundw
            case rel => exact ⟨k + 1, .slice (some ⟨gn, 0, none⟩) (k + 1) capn, by omega, by go_num, by rw [HTK.out]; exact HO9.out, HX9, HM9, HE9⟩
            case measure => simp [intOf]; omega
        · obtain rfl : k = n := by omega
          have hvi := HVI.out
          rw [← HV0.out] at hvi
          have hta : (handsD r).take k = handsD r := List.take_of_length_le (by rw [handsD, List.length_map, HN.out]; exact Nat.le_refl _)
          rw [hta] at hown
          have HNX : Hid (BInv r w (.slice pa k pc) (.slice sa sn sc) ve pb (.slice ca cn cc) hv (.slice none 0 0) (handsD r) [] wr) := Lib.hid ⟨hbox.out, (hmost.out.on (w.heap.size + 1) (by omega) (by omega)).trans hvi.zb, (hmost.out.on w.heap.size (by omega) (by omega)).trans hvi.rb, intBlk_on (fun k hk hl => hmost.out.on k hl hk.1) hvi.c, ints_of_ownB hown (by rw [handsD, List.length_map]; exact HN.out) (fun k hk => ⟨by omega, by omega, by omega⟩), intBlk_on (fun k hk hl => hmost.out.on k hl hk.1) hvi.b, hbel.out, hvi.ne⟩
          clear hown hbox hmost hbel hvi hta
          go_wp2_with fail
          go_roundw
          case rel => exact ⟨1, hv, .slice none 0 0, by omega, by go_num, fun h => absurd h (by decide), fun _ => rfl, HNX⟩
          case measure => simp [intOf]
    · obtain rfl := hn1 (by omega)
      have hinv : Hid (BInv r w (.slice pa n pc) (.slice sa sn sc) ve pb (.slice ca cn cc) h0 (.slice none 0 0) (handsD r) [] wr) := hinv
      obtain ⟨ha0, hm0, hc0, rfl⟩ := hinv.out.a.form
      clear hn0
      have HVI := hinv
      obtain ⟨⟨b0, b1, b2, b3, b4, b5, b6, b7, b8, b9, b10⟩, -⟩ := HVI.out.rb.facts
      obtain ⟨V0, hV0⟩ : ∃ V0, V0 = wr := ⟨_, rfl⟩
      have HV0 := Lib.hid hV0
      have hpl := HVI.out.box.lt
      have hwp : w.heap.size + 1 < pb := HVI.out.ne
      have hwv : w.heap.size ≤ V0.heap.size := by rw [hV0]; exact HVI.out.bel.size
      clear hinv b0 b1 b2 b4 b5 b6 b7 b8 b9 b10
      go_wp2_with fail
      go_loopw [8, 25] (fun _ j V => ∃ (k : Nat) (hv : Value), k ≤ n ∧ j = .int .i64 (k : Int) ∧ V.ownsRow V0.heap.size 3 1 hv k (((handsD r).take k).map (.int .i64)) ∧ Hid (PBox V pb 29 (beginD r) (.slice ca cn cc) (.slice ha0 hm0 hc0) hv) ∧ Hid (Most pb V0 V) ∧ Hid (Below w.heap.size w V)) (fun _ j _ => n - (intOf j).toNat)
      case atStart => exact ⟨0, .slice none 0 0, by omega, rfl, World.ownsRow_nil _ _ _ _, Lib.hid HVI.out.box, Lib.hid (by rw [HV0.out]; exact ⟨fun _ _ _ => rfl, Nat.le_refl _, rfl⟩), Lib.hid HVI.out.bel⟩
      case round =>
        obtain ⟨k, hv, hk, rfl, hown, hbox, hmost, hbel⟩ := hrel
        rw [← hV0] at hpl
        clear b3
        by_cases hlt : k < n
        · obtain ⟨g1, o1, x, ua, un, uc, rfl, hx, hcx⟩ := HPT.out k hlt
          obtain ⟨c0, c1, c2, c3⟩ := hcx _ hbel.out
          have HTK := Lib.hid (handsD_take hx)
          have HOW := Lib.hid hown
          obtain ⟨ha, hn', hc', rfl⟩ : ∃ a m c, hv = .slice a m c := by
            rcases Joins.ownsRow_forms hown with ⟨h1, _⟩ | ⟨g, cp, h1⟩
            · exact ⟨_, _, _, h1⟩
            · exact ⟨_, _, _, h1⟩
          clear hx hcx hown hV0
          go_wp2_with fail
          have hal := (Below.refl wr.heap.size wr).alloc (Nat.le_refl _) (.cells #[.int .u8 x.letter, .int .i64 x.hand, .int .i64 x.promote, .slice ua un uc] 60)
          have p1 : (wr.alloc (.cells #[.int .u8 x.letter, .int .i64 x.hand, .int .i64 x.promote, .slice ua un uc] 60)).cell? ⟨wr.heap.size, 1, none⟩ = some (.int .i64 x.hand) := by simp
          have HOW2 := Lib.hid (own_keepB HOW.out hal)
          have HBX2 := Lib.hid (hbox.out.below hal hbox.out.lt)
          have HMO2 : Hid (Most pb V0 (wr.alloc (.cells #[.int .u8 x.letter, .int .i64 x.hand, .int .i64 x.promote, .slice ua un uc] 60))) := Lib.hid ⟨fun k hk hne => (hal.block k (by have := hmost.out.sz; omega)).trans (hmost.out.on k hk hne), Nat.le_trans hmost.out.sz hal.size, hal.os.trans hmost.out.os⟩
          have HBE2 := Lib.hid (hbel.out.trans (hal.mono hbel.out.size))
          have hpq : pb ≠ wr.heap.size := by have := hbox.out.lt; omega
          have q0 : wr.heap.size < (wr.alloc (.cells #[.int .u8 x.letter, .int .i64 x.hand, .int .i64 x.promote, .slice ua un uc] 60)).heap.size := by simp
          obtain ⟨⟨y0, y1, y2, y3, y4⟩, f0, f1, f2, f3, f4⟩ := HBX2.out.facts
          clear hal c0 c1 c2 c3 hbox hmost hbel HOW y0 y3 y4 f0 f3 f4 y1 f1
          generalize wr.alloc (.cells #[.int .u8 x.letter, .int .i64 x.hand, .int .i64 x.promote, .slice ua un uc] 60) = W at HOW2 HBX2 HMO2 HBE2 p1 q0 y2 f2 ⊢
          generalize wr.heap.size = pq at hpq p1 q0 ⊢
          have ya : (W.alloc (.cells #[.int .i64 x.hand] 3)).cell? ⟨pb, 2, none⟩ = some (.slice ha hn' hc') := Lib.cell?_alloc_some _ y2
          have yd : (W.alloc (.cells #[.int .i64 x.hand] 3)).drew.cell? ⟨pb, 2, none⟩ = some (.slice ha hn' hc') := ya
          have ye : W.drew.cell? ⟨pb, 2, none⟩ = some (.slice ha hn' hc') := y2
          go_region_law ((refine step_append_lies _ (by rfl) _ _ _ (by rfl) V0.heap.size 3 i0 _ 1 8 Tryz.underlying23 hi hz0 hz1 hz2 rfl (by omega) (.slice ha hn' hc') k (((handsD r).take k).map (.int .i64)) (by rfl) ((own_keepB HOW2.out (Below.refl _ _).drew).alloc _) ⟨W.heap.size, 0, none⟩ 1 1 [.int .i64 x.hand] (by rfl) rfl (cell_one_new _ _ _) (by simp [Value.oneCell']) (by omega) (by unfold maxLen; omega) (by omega) (by have := HMO2.out.sz; simp; omega) (W.heap.size + 1) (by simp) ?_; intro gn capn w9 hown9 hgrow9 hat9 hlt9; have hpb9 : PBox w9 pb 29 (beginD r) (.slice ca cn cc) (.slice ha0 hm0 hc0) (.slice ha hn' hc') := (hgrow9.block pb (by have := HBX2.out.lt; simp; omega) (fun e => by first | exact absurd (HOW2.out.lt pb e).1 (by omega) | exact absurd (HOW2.out.lt pb e.symm).1 (by omega))).trans (PBox.alloc (W := W.drew) HBX2.out _); have hmo9 : Most pb V0 w9 := ⟨fun k hk hne => (hgrow9.block k (by have := HMO2.out.sz; simp; omega) (fun e => by first | exact absurd (HOW2.out.lt k e).1 (by omega) | exact absurd (HOW2.out.lt k e.symm).1 (by omega))).trans ((Below.heap_alloc W.drew _ k (show k < W.heap.size by have := HMO2.out.sz; omega)).trans (HMO2.out.on k hk hne)), Nat.le_trans HMO2.out.sz (Nat.le_trans (by simp) hgrow9.size), hgrow9.os.trans HMO2.out.os⟩; have hbe9 : Below w.heap.size w w9 := (HBE2.out.drew.alloc HBE2.out.size _).grown hgrow9 (by have := HBE2.out.size; simp; omega) (fun k e => Nat.le_trans (by exact hwv) (HOW2.out.lt k e).1); obtain ⟨⟨z0, z1, z2, z3, z4⟩, e0, e1, e2, e3, e4⟩ := hpb9.facts))
          all_goals
            have HO9 := Lib.hid (own_set (pb := pb) (o := 2) (u := .slice (some ⟨gn, 0, none⟩) (k + 1) capn) hown9 hpl)
            have HX9 : Hid (PBox (w9.setCell ⟨pb, 2, none⟩ (.slice (some ⟨gn, 0, none⟩) (k + 1) capn)) pb 29 (beginD r) (.slice ca cn cc) (.slice ha0 hm0 hc0) (.slice (some ⟨gn, 0, none⟩) (k + 1) capn)) := Lib.hid (heap_setCell_same w9 pb 2 _ _ _ hpb9)
            have HM9 : Hid (Most pb V0 (w9.setCell ⟨pb, 2, none⟩ (.slice (some ⟨gn, 0, none⟩) (k + 1) capn))) := Lib.hid ⟨fun k hk hne => (heap_setCell_other w9 ⟨pb, 2, none⟩ k _ hne).trans (hmo9.on k hk hne), by rw [World.size_setCell]; exact hmo9.sz, hmo9.os⟩
            have HE9 := Lib.hid (hbe9.setCell (p := ⟨pb, 2, none⟩) (by simp; omega) (.slice (some ⟨gn, 0, none⟩) (k + 1) capn))
            clear hown9 hgrow9 hat9 hlt9 hpb9 hmo9 hbe9 z0 z1 z2 z3 z4 e0 e1 e2 e3 e4 ya yd ye
            go_wp2_with fail
            go_roundw
            case rel => exact ⟨k + 1, .slice (some ⟨gn, 0, none⟩) (k + 1) capn, by omega, by go_num, by rw [HTK.out]; exact HO9.out, HX9, HM9, HE9⟩
            case measure => simp [intOf]; omega
        · obtain rfl : k = n := by omega
          have hvi := HVI.out
          rw [← HV0.out] at hvi
          have hta : (handsD r).take k = handsD r := List.take_of_length_le (by rw [handsD, List.length_map, HN.out]; exact Nat.le_refl _)
          rw [hta] at hown
          have HNX : Hid (BInv r w (.slice pa k pc) (.slice sa sn sc) ve pb (.slice ca cn cc) (.slice ha0 hm0 hc0) hv (handsD r) (handsD r) wr) := Lib.hid ⟨hbox.out, (hmost.out.on (w.heap.size + 1) (by omega) (by omega)).trans hvi.zb, (hmost.out.on w.heap.size (by omega) (by omega)).trans hvi.rb, intBlk_on (fun k hk hl => hmost.out.on k hl hk.1) hvi.c, intBlk_on (fun k hk hl => hmost.out.on k hl hk.1) hvi.a, ints_of_ownB hown (by rw [handsD, List.length_map]; exact HN.out) (fun k hk => ⟨by omega, by omega, by omega⟩), hbel.out, hvi.ne⟩
          clear hown hbox hmost hbel hvi hta
          go_wp2_with fail
          go_roundw
          case rel => exact ⟨2, .slice ha0 hm0 hc0, hv, by omega, by go_num, fun h => absurd h (by decide), fun h => absurd h (by decide), HNX⟩
          case measure => simp [intOf]
    · have hinv : Hid (BInv r w (.slice pa n pc) (.slice sa sn sc) ve pb (.slice ca cn cc) h0 h1 (handsD r) (handsD r) wr) := hinv
      obtain ⟨ha0, hm0, hc0, rfl⟩ := hinv.out.a.form
      obtain ⟨hb0, hm1, hc1, rfl⟩ := hinv.out.b.form
      obtain ⟨⟨x0, x1, x2, x3, x4⟩, -⟩ := hinv.out.box.facts
      obtain ⟨⟨z0, z1, z2, z3, z4⟩, g0, g1, g2, g3, g4⟩ := hinv.out.zb.facts
      clear hn0 hn1
      go_wp2_with fail
      have HR2 := pbox_fill (p := beginD r) (vc := .slice ca cn cc) (v0 := .slice ha0 hm0 hc0) (v1 := .slice hb0 hm1 hc1) hinv.out.zb
      refine bodyPost_ret (results_row_tmpP rfl _ _ (w.heap.size + 1) 29 _ (0, 0) _ rfl HR2 Tryz.underlying29 rfl (by kernel_rfl)) rfl ?_
      have hfo := fillP_other wr (w.heap.size + 1) (beginD r) (.slice ca cn cc) (.slice ha0 hm0 hc0) (.slice hb0 hm1 hc1)
      have hPF : PlaceF (fun k => k ≠ w.heap.size + 1 ∧ w.heap.size ≤ k) wr (beginD r) (.slice ca cn cc) (.slice ha0 hm0 hc0) (.slice hb0 hm1 hc1) := ⟨blk_weak (fun k hk => hk.2) hinv.out.c, blk_weak (fun k hk => hk.2) hinv.out.a, blk_weak (fun k hk => hk.2) hinv.out.b⟩
      exact ⟨ca, cn, cc, ha0, hm0, hc0, hb0, hm1, hc1, rfl, hPF.on (fun k hk _ => hfo.1 k hk.1) (fun k hk => hk.2), fillP_below hinv.out.bel (by omega) (beginD r) _ _ _⟩
theorem begin_ok (r : RulesD) (vp vs ve : Value) (w : World) (hr : RulesIn w r vp vs ve) (hz : rulesE r = 0) :
    Calls Tryz.prog 33 #[RulesV r vp vs ve] w (BeginOk r w) :=
  (begin_fresh r vp vs ve w hr hz).mono fun _ _ ⟨_, _, _, _, _, _, _, _, _, h1, h2, h3⟩ => ⟨_, _, _, h1, h2.plain, h3⟩
end Go.Proofs.YtdhhdkbnlddnbaaGreatDoor
