/- BitsParts: the walk of the law. -/
import Derived.Test.YtffnnpjgfjkmjaaDoorCuts
namespace Go.Proofs.YtffnnpjgfjkmjaaDoor
open Go.RowKit Go.Shelf

theorem cut_rest_eq {b : BitVec 64} {pre : List (BitVec 64)} {rest : BitVec 64} (h : Cut b pre rest) : rest = b &&& ~~~(orAll pre) := by
  apply ext_has; intro x y
  rw [(cut_facts h).1, has_and, has_not]
  cases hb : has b x y
  · rfl
  · rw [inb_iff.2 (has_inb hb)]; simp
theorem fill_known {a w : BitVec 64} (f : BitVec 64) (h : Filling a w f) (e : growW w f = f) {g : BitVec 64} (hg : IsFill a w g) : g = f := hg.unique (filling_done h e)
theorem fill_13 {f : BitVec 64} (h : IsFill 1#64 3#64 f) : f = 3#64 := by
  refine fill_known 3#64 ?_ (by decide +kernel) h
  have h1 := filling_grow (filling_start 1#64 3#64)
  have e : growW 3#64 (1#64 &&& 3#64) = 3#64 := by decide +kernel
  rwa [e] at h1
theorem parts_32769 {ps : List (BitVec 64)} (h : Cut 32769#64 ps 0#64) : ps.length = 2 := by
  have hall := cut_all h
  match ps, h, hall with
  | [], _, hall => exact absurd hall (by decide)
  | p0 :: r, h, hall =>
    obtain ⟨r0, c0, n0, f0⟩ := cut_at h 0 (by simp)
    have e0 := cut_rest_eq c0
    simp only [List.take_zero, orAll] at e0
    have e0' : r0 = 32769#64 := by rw [e0]; decide
    subst e0'
    have g0 : p0 = 1#64 := fill_known 1#64 (by
      have h1 := filling_start (leastW 32769#64) 32769#64
      have e : leastW 32769#64 &&& 32769#64 = 1#64 := by decide
      rwa [e] at h1) (by decide +kernel) f0
    subst g0
    match r, h, hall with
    | [], _, hall => exact absurd hall (by decide)
    | p1 :: r2, h, hall =>
      obtain ⟨r1, c1, n1, f1⟩ := cut_at h 1 (by simp)
      have e1 := cut_rest_eq c1
      have e1' : r1 = 32768#64 := by rw [e1]; show 32769#64 &&& ~~~(1#64 ||| 0#64) = 32768#64; decide
      subst e1'
      have g1 : p1 = 32768#64 := fill_known 32768#64 (by
        have h1 := filling_start (leastW 32768#64) 32768#64
        have e : leastW 32768#64 &&& 32768#64 = 32768#64 := by decide
        rwa [e] at h1) (by decide +kernel) f1
      subst g1
      match r2, h with
      | [], _ => rfl
      | p2 :: r3, h =>
        obtain ⟨r2, c2, n2, f2⟩ := cut_at h 2 (by simp)
        have e2 := cut_rest_eq c2
        exact absurd (by rw [e2]; show 32769#64 &&& ~~~(1#64 ||| (32768#64 ||| 0#64)) = 0#64; decide : r2 = 0#64) n2
def SomePost (l : List Nat) (w : World) (e : Ending) (w' : World) : Prop := ∃ s, s ∈ l ∧ e = .returned (.int .i64 (s : Int)) ∧ w = w'
theorem some_any (l : List Nat) (v : Value) (n : Int) (w : World) (hv : Row w v (ints l)) (h0 : l ≠ []) (h64 : l.length ≤ 64) :
    Calls Tryd.prog 14 #[v, .int .i64 n] w (SomePost l w) := by
  obtain ⟨c, hc⟩ : ∃ c : Nat, c = l.length := ⟨_, rfl⟩
  have hpos : 0 < c := by rw [hc]; exact List.length_pos_iff.2 h0
  rcases hv with ⟨e, _⟩ | ⟨g, off, cap, rfl, _, hle, hm, hcell⟩
  · have : l = [] := by simpa [ints] using e
    exact absurd this h0
  rw [ints_length, ← hc] at hle ⊢
  have hc64 : c ≤ 64 := by omega
  obtain ⟨t, ht⟩ : ∃ t : Int, n.tmod (c : Int) = t := ⟨_, rfl⟩
  have ht1 : 0 ≤ t + (c : Int) ∧ t ≤ 64 := by
    rw [← ht]
    by_cases h : 0 ≤ n
    · rw [Int.tmod_eq_emod_of_nonneg h]
      have := Int.emod_nonneg n (by omega : (c : Int) ≠ 0)
      have := Int.emod_lt_of_pos n (by omega : (0 : Int) < c)
      omega
    · have e : n.tmod (c : Int) = -((-n).tmod (c : Int)) := by rw [Int.neg_tmod, Int.neg_neg]
      rw [e, Int.tmod_eq_emod_of_nonneg (by omega)]
      have := Int.emod_nonneg (-n) (by omega : (c : Int) ≠ 0)
      have := Int.emod_lt_of_pos (-n) (by omega : (0 : Int) < c)
      omega
  obtain ⟨j, hj⟩ : ∃ j : Nat, t % (c : Int) = (j : Int) := ⟨(t % (c : Int)).toNat, by have := Int.emod_nonneg t (by omega : (c : Int) ≠ 0); omega⟩
  have hjc : j < c := by have := Int.emod_lt_of_pos t (by omega : (0 : Int) < c); omega
  obtain ⟨s, hs⟩ : ∃ s : Nat, s = l[j]?.getD 0 := ⟨_, rfl⟩
  have hcs : w.cell? ⟨g, off + j, none⟩ = some (.int .i64 (s : Int)) := by rw [hs]; exact hcell j _ (ints_at l j (by omega))
  have HM : Hid (s ∈ l) := Lib.hid (by
    have hjl : j < l.length := by omega
    rw [hs]; simp [hjl])
  have hne : ((c : Int) == 0) = false := by simp; omega
  obtain ⟨ht1, ht2⟩ := ht1
  clear hcell hs h0 hc h64
  go_enter Tryd.func14, Tryd.ntmps14
  go_wp2
  go_ret
  exact ⟨s, HM.out, rfl, rfl⟩

theorem parts_32769_any (w : World) : Calls Tryd.prog 11 #[.int .u64 32769] w fun e w' => ∃ a cap, e = .returned (.slice a 2 cap) ∧ Below w.heap.size w w' :=
  (parts_any 32769#64 w).mono fun e w' ⟨v, ps, h1, h2, _, h4, h5⟩ => by
    obtain ⟨a, cap, e1, _⟩ := h2.shape 2 (by rw [wvals_length, parts_32769 h4])
    exact ⟨a, cap, by rw [h1, e1], h5⟩
theorem fill_13_any (w : World) : Calls Tryd.prog 12 #[.int .u64 1, .int .u64 3] w fun e w' => e = .returned (.int .u64 3) ∧ w = w' :=
  (fill_any 1#64 3#64 w).mono fun e w' ⟨f, h1, h2, h3⟩ => ⟨by rw [h1, fill_13 h2]; rfl, h3⟩
/-- In each of the four directions the part, moved, meets none of those before it. -/
def Apart4 (p all : BitVec 64) : Prop := shiftV p 1 0 &&& all = 0#64 ∧ shiftV p (-1) 0 &&& all = 0#64 ∧ shiftV p 0 1 &&& all = 0#64 ∧ shiftV p 0 (-1) &&& all = 0#64

set_option maxRecDepth 100000 in
set_option maxHeartbeats 4000000 in
theorem lawParts_walk (b : BitVec 64) (n : Int) (w : World) (hT : Tab w) :
    Calls Tryd.prog 4 #[.int .u64 (b.toNat : Int), .int .i64 n] w fun e w' => e = .returned (.bool true) ∧ Below w.heap.size w w' := by
  have HT : Hid (Tab w) := Lib.hid hT
  have h0lt : 0 < w.heap.size := hT.size
  clear hT
  go_enter Tryd.func4, Tryd.ntmps4
  go_wp2_with fail
  go_at_call 11; refine (parts_32769_any _).mono ?_; rintro e W1 ⟨a1, cap1, rfl, hB1⟩
  have HB1 : Hid _ := Lib.hid hB1
  clear hB1
  go_wp2_with fail
  go_at_call 12; refine (fill_13_any _).mono ?_; rintro e w' ⟨rfl, rfl⟩
  go_wp2_with fail
  go_at_call 13; refine (turned (shifts_any _)).mono ?_; rintro e w' ⟨rfl, rfl⟩
  go_wp2_with fail
  go_at_call 11; refine (parts_any b _).mono ?_; rintro e W2 ⟨v2, ps, rfl, hr2, hlen, hcut, hB2⟩
  have HB2 : Hid (Below w.heap.size w W2) := Lib.hid (HB1.out.trans (hB2.mono HB1.out.size))
  obtain ⟨c, hc⟩ : ∃ c : Nat, c = ps.length := ⟨_, rfl⟩
  obtain ⟨a2, cap2, rfl, _⟩ := hr2.shape c (by rw [wvals_length, hc])
  have HC : Hid _ := Lib.hid hc
  have HR2 : Hid _ := Lib.hid hr2
  have HCUT : Hid _ := Lib.hid hcut
  rw [← hc] at hlen
  have HP : Hid (∀ k, k < c → ∃ g off, a2 = some ⟨g, off, none⟩ ∧ ∀ W, Below W2.heap.size W2 W → W.cell? ⟨g, off + k, none⟩ = some (.int .u64 ((ps[k]?.getD 0#64).toNat : Int))) := Lib.hid (fun k hk => by
    rcases hr2 with ⟨e, _⟩ | ⟨g, off, cap, e, _, _, _, hcell⟩
    · have : ps = [] := by simpa [wvals] using e
      rw [hc, this] at hk; simp at hk
    · cases e
      refine ⟨g, off, rfl, fun W hb => ?_⟩
      have hk' : k < ps.length := by omega
      have h1 := hcell k _ (wvals_at ps k hk')
      have e2 : ps[k]?.getD 0#64 = ps[k] := by simp [hk']
      rw [e2, ← h1]
      exact hb.cell (p := ⟨g, off + k, none⟩) (World.block_lt_of_cell? _ _ h1))
  clear hr2 hcut hB2 hc HB1
  go_wp2_with fail
  go_loopw [6, 27] (fun s i wr => ∃ (k : Nat) (all : BitVec 64), k ≤ c ∧ i = .int .i64 (k : Int) ∧ s = .int .u64 (all.toNat : Int) ∧ Hid (all = orAll (ps.take k)) ∧ Hid (Below W2.heap.size W2 wr)) (fun _ i _ => c - (intOf i).toNat)
  case atStart => exact ⟨0, 0#64, by omega, rfl, rfl, Lib.hid rfl, Lib.hid (Below.refl _ _)⟩
  case round =>
    obtain ⟨k, all, hk, rfl, rfl, hall, hbel⟩ := hrel
    by_cases hlt : k < c
    · obtain ⟨g, off, rfl, hcell⟩ := HP.out k hlt
      have hc1 := hcell wr hbel.out
      obtain ⟨p, hp⟩ : ∃ p : BitVec 64, p = ps[k]?.getD 0#64 := ⟨_, rfl⟩
      rw [← hp] at hc1
      have hkl : k < ps.length := by have := HC.out; omega
      have hpk : p = ps[k] := by rw [hp]; simp [hkl]
      obtain ⟨rest, q1, q2, q3⟩ := cut_at HCUT.out k hkl
      rw [← hpk] at q3
      obtain ⟨f1, f2, f3, f4⟩ := part_facts q1 q2 q3
      rw [← hall.out] at f2 f3
      have hp0 := (int_ne_zero f1).1
      have hap : (bits BinOp.and IntKind.u64 (all.toNat : Int) (p.toNat : Int) != 0) = false := by rw [b_and]; exact (int_zero f2).2
      have HTW : Hid (Tab wr) := Lib.hid (HT.out.below (HB2.out.trans (hbel.out.mono HB2.out.size)) h0lt)
      have H4 : Hid (Apart4 p all) := Lib.hid ⟨f3 1 0 (by unfold adj; omega), f3 (-1) 0 (by unfold adj; omega), f3 0 1 (by unfold adj; omega), f3 0 (-1) (by unfold adj; omega)⟩
      have HF : Hid (∀ s : Nat, s < 64 → p.getLsbD s = true → ∀ w, Calls Tryd.prog 12 #[.int .u64 ((bitW s).toNat : Int), .int .u64 (b.toNat : Int)] w fun e w' => e = .returned (.int .u64 (p.toNat : Int)) ∧ w = w') :=
        Lib.hid (fun s hs hps w => (fill_any (bitW s) b w).mono fun e w' ⟨f, g1, g2, g3⟩ => ⟨by rw [g1, g2.unique (f4 s hs hps)], g3⟩)
      have HNE : Hid (squares p ≠ []) := Lib.hid (by rw [squares_cons p f1]; exact List.cons_ne_nil _ _)
      have HNEXT : Hid (bits BinOp.or IntKind.u64 (all.toNat : Int) (p.toNat : Int) = ((all ||| p).toNat : Int) ∧ all ||| p = orAll (ps.take (k + 1))) := Lib.hid ⟨b_or _ _, by rw [cut_take k hkl, ← hall.out, hpk]⟩
      clear f1 f2 f3 f4 q1 q2 q3 hpk hp hcell hkl
      go_wp2_with fail
      go_at_call 8; refine (list_any p _ HTW.out).mono ?_; rintro e W3 ⟨v3, rfl, hr3, hB3⟩
      have HB3 : Hid (Below W2.heap.size W2 W3) := Lib.hid (hbel.out.trans (hB3.mono hbel.out.size))
      have HR3 : Hid _ := Lib.hid hr3
      clear hr3 hB3
      go_wp2_with fail
      go_at_call 14; refine (some_any (squares p) v3 n _ HR3.out HNE.out (squares_le p)).mono ?_; rintro e w' ⟨s, hs, rfl, rfl⟩
      obtain ⟨hs64, hsp⟩ := squares_lt p s hs
      have HS : Hid _ := Lib.hid hsp
      have hbw : IntKind.u64.wrap (2 ^ s) = ((bitW s).toNat : Int) := bitW_int s
      clear hs hsp
      go_wp2_with fail
      go_at_call 12; refine (HF.out s hs64 HS.out _).mono ?_; rintro e w' ⟨rfl, rfl⟩
      clear hbw
      go_wp2_with fail
      clear hbel HR3 HF HNE HTW hc1 hp0 hap HS
      go_loopw [54] (fun i wi => ∃ j : Nat, j ≤ 4 ∧ i = .int .i64 (j : Int) ∧ Hid (Below W2.heap.size W2 wi)) (fun i _ => 4 - (intOf i).toNat)
      case atStart => exact ⟨0, by omega, rfl, HB3⟩
      case round =>
        clear HB3
        obtain ⟨j, hj, rfl, hbel2⟩ := hrel
        obtain rfl | rfl | rfl | rfl | rfl : j = 0 ∨ j = 1 ∨ j = 2 ∨ j = 3 ∨ j = 4 := by omega
        · have hi : ∀ w, (Instr.index 40 (.agg #[.int .i64 1, .int .i64 0, .int .i64 (-1), .int .i64 0, .int .i64 0, .int .i64 1, .int .i64 0, .int .i64 (-1)]) (.int .i64 0)).run Tryd.prog w = .ok (.agg #[.int .i64 1, .int .i64 0]) w := fun _ => by kernel_rfl
          have hap4 : (bits BinOp.and IntKind.u64 ((shiftV p 1 0).toNat : Int) (all.toNat : Int) != 0) = false := by rw [b_and]; exact (int_zero H4.out.1).2
          go_wp2_with fail
          go_at_call 15; refine (turned (shift_any p 1 0 _)).mono ?_; rintro e w' ⟨rfl, rfl⟩
          go_wp2_with fail
          go_roundw
          case rel => exact ⟨0 + 1, by omega, by go_num, Lib.hid (hbel2.out.alloc hbel2.out.size _)⟩
          case measure => simp [intOf]
        · have hi : ∀ w, (Instr.index 40 (.agg #[.int .i64 1, .int .i64 0, .int .i64 (-1), .int .i64 0, .int .i64 0, .int .i64 1, .int .i64 0, .int .i64 (-1)]) (.int .i64 1)).run Tryd.prog w = .ok (.agg #[.int .i64 (-1), .int .i64 0]) w := fun _ => by kernel_rfl
          have hap4 : (bits BinOp.and IntKind.u64 ((shiftV p (-1) 0).toNat : Int) (all.toNat : Int) != 0) = false := by rw [b_and]; exact (int_zero H4.out.2.1).2
          go_wp2_with fail
          go_at_call 15; refine (turned (shift_any p (-1) 0 _)).mono ?_; rintro e w' ⟨rfl, rfl⟩
          go_wp2_with fail
          go_roundw
          case rel => exact ⟨1 + 1, by omega, by go_num, Lib.hid (hbel2.out.alloc hbel2.out.size _)⟩
          case measure => simp [intOf]
        · have hi : ∀ w, (Instr.index 40 (.agg #[.int .i64 1, .int .i64 0, .int .i64 (-1), .int .i64 0, .int .i64 0, .int .i64 1, .int .i64 0, .int .i64 (-1)]) (.int .i64 2)).run Tryd.prog w = .ok (.agg #[.int .i64 0, .int .i64 1]) w := fun _ => by kernel_rfl
          have hap4 : (bits BinOp.and IntKind.u64 ((shiftV p 0 1).toNat : Int) (all.toNat : Int) != 0) = false := by rw [b_and]; exact (int_zero H4.out.2.2.1).2
          go_wp2_with fail
          go_at_call 15; refine (turned (shift_any p 0 1 _)).mono ?_; rintro e w' ⟨rfl, rfl⟩
          go_wp2_with fail
          go_roundw
          case rel => exact ⟨2 + 1, by omega, by go_num, Lib.hid (hbel2.out.alloc hbel2.out.size _)⟩
          case measure => simp [intOf]
        · have hi : ∀ w, (Instr.index 40 (.agg #[.int .i64 1, .int .i64 0, .int .i64 (-1), .int .i64 0, .int .i64 0, .int .i64 1, .int .i64 0, .int .i64 (-1)]) (.int .i64 3)).run Tryd.prog w = .ok (.agg #[.int .i64 0, .int .i64 (-1)]) w := fun _ => by kernel_rfl
          have hap4 : (bits BinOp.and IntKind.u64 ((shiftV p 0 (-1)).toNat : Int) (all.toNat : Int) != 0) = false := by rw [b_and]; exact (int_zero H4.out.2.2.2).2
          go_wp2_with fail
          go_at_call 15; refine (turned (shift_any p 0 (-1) _)).mono ?_; rintro e w' ⟨rfl, rfl⟩
          go_wp2_with fail
          go_roundw
          case rel => exact ⟨3 + 1, by omega, by go_num, Lib.hid (hbel2.out.alloc hbel2.out.size _)⟩
          case measure => simp [intOf]
        · go_wp2_with fail
          go_roundw
          case rel => exact ⟨k + 1, all ||| p, by omega, by go_num, by rw [HNEXT.out.1], Lib.hid HNEXT.out.2, hbel2⟩
          case measure => simp [intOf]; omega
    · have heq : ((all.toNat : Int) == (b.toNat : Int)) = true := by
        have h1 := cut_all HCUT.out
        have h2 : all = b := by rw [hall.out, List.take_of_length_le (by have := HC.out; omega), h1]
        rw [h2]; simp
      go_wp2_with fail
      go_ret
      exact ⟨rfl, HB2.out.trans (hbel.out.mono HB2.out.size)⟩
theorem lawParts_full (a0 a1 : Int) (w0 : (Lit.int .u64 a0).wf = true) (w : World) (hT : Tab w) :
    Calls Tryd.prog 4 #[.int .u64 a0, .int .i64 a1] w fun e w' => e = .returned (.bool true) ∧ Below w.heap.size w w' := by
  obtain ⟨b, rfl⟩ := word_of w0
  exact lawParts_walk b a1 w hT
end Go.Proofs.YtffnnpjgfjkmjaaDoor
