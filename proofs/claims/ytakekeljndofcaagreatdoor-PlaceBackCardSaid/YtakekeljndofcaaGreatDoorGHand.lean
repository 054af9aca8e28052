/- guessHand: the numbers of a hand. -/
import Derived.Test.YtakekeljndofcaaGreatDoorEnv
import Derived.Test.YtakekeljndofcaaGreatDoorPBegin
import Derived.Test.YtakekeljndofcaaGreatDoorPRow
import Derived.Laws.MakeOwn
import Derived.Shelf.Strings.SlTrimAscii
set_option maxRecDepth 100000
namespace Go.Proofs.YtakekeljndofcaaGreatDoor
open Go.ChangeShapes Go.WideShapes Go.ChangeAt Go.RowKit

def digL : List UInt8 := [48, 49, 50, 51, 52, 53, 54, 55, 56, 57]
theorem dig_table : ∀ v : Fin 256, digL.contains (UInt8.ofNat v.val) = isDig (UInt8.ofNat v.val) ∧ decide (0 ≤ Lib.indexByte digL (UInt8.ofNat v.val)) = isDig (UInt8.ofNat v.val) := by decide +kernel
theorem dig_contains (b : UInt8) : digL.contains b = isDig b := by
  have h := (dig_table ⟨b.toNat, b.toNat_lt⟩).1
  rwa [UInt8.ofNat_toNat] at h
theorem dig_index (b : UInt8) : decide (0 ≤ Lib.indexByte digL b) = isDig b := by
  have h := (dig_table ⟨b.toNat, b.toNat_lt⟩).2
  rwa [UInt8.ofNat_toNat] at h
theorem trim_any (t : List UInt8) (w : World) : Calls Tryz.prog 58 #[.string (str t), .string ⟨#[48, 49, 50, 51, 52, 53, 54, 55, 56, 57]⟩] w fun e w' => e = .returned (.string (str (t.dropWhile isDig))) ∧ Below w.heap.size w w' := by
  have h := Any.strings_TrimLeft_laid Tryz.lays161 (by kernel_rfl) (str t) ⟨#[48, 49, 50, 51, 52, 53, 54, 55, 56, 57]⟩ w (by decide) (ascii_of_all (by decide))
  have e1 : Lib.trimLeftS (str t).data.toList digL = t.dropWhile isDig := by
    rw [data_str, Lib.trimLeftS]
    congr 1
    funext b
    exact dig_contains b
  have e2 : (⟨(Lib.trimLeftS (str t).data.toList digL).toArray⟩ : ByteArray) = str (t.dropWhile isDig) := by rw [e1]; rfl
  rw [← e2]
  exact h
def hTo (ps : List PieceD) (S : List UInt8) (n k : Nat) : List Int := guessH (ps.take k) S ++ List.replicate (n - k) 0
theorem hTo_zero (ps : List PieceD) (S : List UInt8) (n : Nat) : hTo ps S n 0 = List.replicate n 0 := by simp [hTo, guessH]
theorem hTo_all {ps : List PieceD} (S : List UInt8) {n : Nat} (hn : n = ps.length) : hTo ps S n n = guessH ps S := by
  rw [hTo, hn, List.take_length, Nat.sub_self, List.replicate_zero, List.append_nil]
theorem hTo_len {ps : List PieceD} (S : List UInt8) {n k : Nat} (hn : n = ps.length) (hk : k ≤ n) : (hTo ps S n k).length = n := by
  rw [hTo, List.length_append, guessH_len, List.length_take, List.length_replicate]; omega
theorem hTo_set {ps : List PieceD} {S : List UInt8} {n k : Nat} {x : PieceD} (hn : n = ps.length) (hk : k < n) (hx : ps[k]? = some x) : (hTo ps S n k).set k (hNum x (restH (ps.take k) S)) = hTo ps S n (k + 1) := by
  have hl : (guessH (ps.take k) S).length = k := by rw [guessH_len, List.length_take]; omega
  obtain ⟨m, hm⟩ : ∃ m, n - k = m + 1 := ⟨n - k - 1, by omega⟩
  have hm2 : n - (k + 1) = m := by omega
  rw [hTo, hTo, guessH_succ hx, hm, hm2, List.set_append_right _ _ (by omega), hl, Nat.sub_self, List.replicate_succ, List.set_cons_zero]
  simp
theorem hTo_skip {ps : List PieceD} {S : List UInt8} {n k : Nat} {x : PieceD} (hk : k < n) (hx : ps[k]? = some x) (h : hasL x (restH (ps.take k) S) = false) : hTo ps S n (k + 1) = hTo ps S n k := by
  obtain ⟨m, hm⟩ : ∃ m, n - k = m + 1 := ⟨n - k - 1, by omega⟩
  have hm2 : n - (k + 1) = m := by omega
  rw [hTo, hTo, guessH_succ hx, hm, hm2, hNum, if_neg (by rw [h]; decide), List.replicate_succ]
  simp
theorem idx_str (c : UInt8) (t : List UInt8) : ∀ w, Sem.run Tryz.prog (Instr.index 9 (.string (str (c :: t))) (.int .i64 0)) w = .ok (.int .u8 (c.toNat : Int)) w := fun _ => by kernel_rfl
theorem ownsRow_drewN {w : World} {base : Nat} {e : TypeId} {k : Nat} {v : Value} {n : Nat} {xs : List Value} (h : w.ownsRow base e k v n xs) (q : Nat) : (w.drewN q).ownsRow base e k v n xs := h
theorem str_take (c : UInt8) (t : List UInt8) (m : Nat) : (str (c :: t)).extract 1 (m + 1) = str (t.take m) := by
  apply ByteArray.ext
  apply Array.toList_inj.1
  simp [str]
/-- Numbers that were made. -/
def IntsP (l : List Int) (w : World) (e : Ending) (w' : World) : Prop := ∃ a n c, e = .returned (.slice a n c) ∧ IsSl (Blk (fun k => w.heap.size ≤ k) IntAt) 1 w' (.slice a n c) l ∧ Below w.heap.size w w'
set_option maxHeartbeats 8000000 in
theorem guessHand_any (r : RulesD) (vp vs ve : Value) (S : List UInt8) (w : World) (hr : IsSl PieceAt 4 w vp r.pieces) (h6 : r.pieces.length ≤ 6) (hS : S.length ≤ 8192) (hE : Env w.heap.size w) :
    Calls Tryz.prog 38 #[RulesV r vp vs ve, .string (str S)] w (IntsP (guessH r.pieces S) w) := by
  obtain ⟨i0, hi, hz0, hz1, hz2⟩ := info_parts infoIntR
  obtain ⟨n, hn⟩ : ∃ n : Nat, n = r.pieces.length := ⟨_, rfl⟩
  obtain ⟨pa, pc, rfl, hpc, hat⟩ := hr.shape hn
  have HAT : Hid (∀ k, k < n → ∃ g off x, ∃ (au : Option Addr) (mu cu : Nat), pa = some ⟨g, off, none⟩ ∧ r.pieces[k]? = some x ∧ ∀ V, Below w.heap.size w V → V.cell? ⟨g, off + k * 4, none⟩ = some (.int .u8 x.letter) ∧ V.cell? ⟨g, off + k * 4 + 1, none⟩ = some (.int .i64 x.hand) ∧ V.cell? ⟨g, off + k * 4 + 2, none⟩ = some (.int .i64 x.promote) ∧ V.cell? ⟨g, off + k * 4 + 3, none⟩ = some (.slice au mu cu)) := Lib.hid (fun k hk => by
    obtain ⟨g, off, x, e, hx, u, q0, q1, q2, q3, hu⟩ := hat k hk
    obtain ⟨au, mu, cu, rfl⟩ := hu.form
    exact ⟨g, off, x, au, mu, cu, e, hx, fun V hV => ⟨cell_keeps hV (Nat.le_refl _) q0, cell_keeps hV (Nat.le_refl _) q1, cell_keeps hV (Nat.le_refl _) q2, cell_keeps hV (Nat.le_refl _) q3⟩⟩)
  have HN := Lib.hid hn
  have HEV : Hid (∀ W, Below w.heap.size w W → Env W.heap.size W) := Lib.hid (fun W h => hE.up h h.size)
  have HSL := Lib.hid hS
  have hn6 : n ≤ 6 := by omega
  have hX := boxR_new w r (.slice pa n pc) vs ve 26
  have HX := Lib.hid hX
  have HB := Lib.hid ((Below.refl w.heap.size w).alloc (Nat.le_refl _) (.cells (RulesCells r (.slice pa n pc) vs ve) 26))
  obtain ⟨w1, hw1⟩ : ∃ w1, w1 = w.alloc (.cells (RulesCells r (.slice pa n pc) vs ve) 26) := ⟨_, rfl⟩
  have HW1 : Hid (w.alloc (.cells #[.string r.name, .int .i64 r.width, .int .i64 r.height, .slice pa n pc, vs, .bool r.falls, .bool r.keeps, ve, .int .i64 r.blocked, .int .i64 r.quiet, .int .i64 r.rep] 26) = w1) := Lib.hid hw1.symm
  rw [← hw1] at HX HB
  obtain ⟨b0, b1, b2, b3, b4, b5, b6, b7, b8, b9, b10⟩ := HX.out
  unfold RulesV
  clear hr hn h6 hX hw1 hE hS hat
  go_enter Tryz.func38, Tryz.ntmps38
  go_wp2_with (at_make; rw [HW1.out]; refine wpList_make_full _ rfl _ _ 23 rfl w1.heap.size 3 i0 (.int .i64 0) 1 Tryz.underlying23 hi hz0 hz1 .i64 .i64 n n n rfl rfl rfl rfl (by rw [hz2]; omega) (by unfold maxLen; omega) (Nat.le_refl _) ?_; intro wm hownm hgrowm; have hbm : Below w1.heap.size w1 wm := (Below.refl _ w1).grown hgrowm (Nat.le_refl _) (fun k e => by cases e); obtain ⟨y0, y1, y2, y3, y4, y5, y6, y7, y8, y9, y10⟩ := HX.out.below hbm (Nat.le_refl _))
  have hown0 : wm.ownsRow w1.heap.size 3 1 (.slice (some ⟨w1.heap.size, 0, none⟩) n n) n ((hTo r.pieces S n 0).map (.int .i64)) := by
    rw [hTo_zero, List.map_replicate, ← toList_madeCells_one]; rw [Nat.mul_one] at hownm; exact hownm
  have HBM := Lib.hid hbm
  clear hownm hgrowm hbm HW1 b0 b1 b2 b3 b4 b5 b6 b7 b8 b9 b10 y0 y1 y2 y3 y4 y5 y6 y7 y8 y9 y10
  go_loopw [1, 6, 7, 8, 16] (fun v1 _ _ _ i wr => ∃ k : Nat, k ≤ n ∧ i = .int .i64 (k : Int) ∧ v1 = .string (str (restH (r.pieces.take k) S)) ∧ wr.ownsRow w1.heap.size 3 1 (.slice (some ⟨w1.heap.size, 0, none⟩) n n) n ((hTo r.pieces S n k).map (.int .i64)) ∧ Hid (Below w1.heap.size w1 wr)) (fun _ _ _ _ i _ => n - (intOf i).toNat)
  case atStart => exact ⟨0, by omega, rfl, rfl, hown0, HBM⟩
  case round =>
    clear hown0 HBM
    obtain ⟨k, hk, rfl, rfl, hown, hbel⟩ := hrel
    by_cases hlt : k < n
    · obtain ⟨g, off, x, au, mu, cu, rfl, hx, hcx⟩ := HAT.out k hlt
      have HBW := Lib.hid (HB.out.trans (hbel.out.mono HB.out.size))
      obtain ⟨d0, d1, d2, d3⟩ := hcx wr HBW.out
      have HXX := Lib.hid hx
      have hkc : k < pc := by omega
      obtain ⟨R, hR⟩ : ∃ R, R = restH (r.pieces.take k) S := ⟨_, rfl⟩
      have HR := Lib.hid hR
      rw [← hR]
      clear hx hcx hR
      have hba := (Below.refl wr.heap.size wr).alloc (Nat.le_refl _) (.cells #[.int .u8 x.letter, .int .i64 x.hand, .int .i64 x.promote, .slice au mu cu] 52)
      have hlet : (wr.alloc (.cells #[.int .u8 x.letter, .int .i64 x.hand, .int .i64 x.promote, .slice au mu cu] 52)).cell? ⟨wr.heap.size, 0, none⟩ = some (.int .u8 x.letter) := by simp [go_sem]
      have HBA := Lib.hid (hbel.out.trans (hba.mono hbel.out.size))
      have HOW := Lib.hid (hown.alloc (.cells #[.int .u8 x.letter, .int .i64 x.hand, .int .i64 x.promote, .slice au mu cu] 52))
      clear hba hown
      rcases R with _ | ⟨c, t⟩
      · have e0 : str [] = ⟨#[]⟩ := rfl
        have HSK : Hid (hTo r.pieces S n (k + 1) = hTo r.pieces S n k ∧ restH (r.pieces.take (k + 1)) S = []) := Lib.hid ⟨hTo_skip hlt HXX.out (by rw [← HR.out]; rfl), by rw [restH_succ HXX.out, ← HR.out]; rfl⟩
        rw [e0]
        go_wp2_with fail
        clear d0 d1 d2 d3
        generalize wr.alloc (.cells #[.int .u8 x.letter, .int .i64 x.hand, .int .i64 x.promote, .slice au mu cu] 52) = wa at HOW HBA hlet ⊢
        generalize wr.heap.size = pb at hlet ⊢
        go_quiet (fail)
        go_wp2_with fail
        refine ⟨⟨k + 1, by omega, by go_num, by rw [HSK.out.2]; rfl, ?_, Lib.hid (below_drewN HBA.out _)⟩, by simp [intOf]; omega⟩
        rw [HSK.out.1]
        exact ownsRow_drewN HOW.out _
      · have hix := idx_str c t
        have hne2 : (str (c :: t)).toList.isEmpty = false := by rw [ByteArray.toList_eq]; rfl
        by_cases hm : (c.toNat : Int) = x.letter
        · have hmb : ((c.toNat : Int) == x.letter) = true := by simpa using hm
          have hhl : hasL x (c :: t) = true := by simpa [hasL] using hm
          obtain ⟨rest, hrest⟩ : ∃ rest, rest = t.dropWhile isDig := ⟨_, rfl⟩
          obtain ⟨N1, hN1⟩ : ∃ N1, N1 = t.length + 1 := ⟨_, rfl⟩
          obtain ⟨D, hD⟩ : ∃ D, D = rest.length := ⟨_, rfl⟩
          obtain ⟨M, hM⟩ : ∃ M, M = N1 - D := ⟨_, rfl⟩
          have hlen := restH_len (r.pieces.take k) S
          rw [← HR.out, List.length_cons] at hlen
          have hDt : (t.takeWhile isDig).length + D = t.length := by
            have h1 := congrArg List.length (List.takeWhile_append_dropWhile (p := isDig) (l := t))
            rw [List.length_append, ← hrest, ← hD] at h1; exact h1
          have hS8 := HSL.out
          have HNX : Hid (hTo r.pieces S n (k + 1) = (hTo r.pieces S n k).set k (numG (t.takeWhile isDig)) ∧ restH (r.pieces.take (k + 1)) S = rest) := Lib.hid ⟨by
              have h1 := hTo_set HN.out hlt HXX.out (S := S)
              rw [← HR.out, hNum, if_pos hhl] at h1
              exact h1.symm, by rw [restH_succ HXX.out, ← HR.out, hRest, if_pos hhl, hrest]; rfl⟩
          have HTM : Hid (∀ W, Calls Tryz.prog 58 #[.string (str t), .string ⟨#[48, 49, 50, 51, 52, 53, 54, 55, 56, 57]⟩] W fun e w' => e = .returned (.string (str rest)) ∧ Below W.heap.size W w') := Lib.hid (fun W => by rw [hrest]; exact trim_any t W)
          have HGN : Hid (∀ W, Below w.heap.size w W → Calls Tryz.prog 39 #[.string (str (t.takeWhile isDig))] W (BelPost (.int .i64 (numG (t.takeWhile isDig))) W)) := Lib.hid (fun W h => guessNumber_any _ W (by omega) (HEV.out W h))
          have hz1 : (str (c :: t)).size = N1 := by rw [str_size, hN1, List.length_cons]
          have hz2' : (str rest).size = D := by rw [str_size, hD]
          have he1 : (str (c :: t)).extract 1 N1 = str t := by
            have h2 := str_take c t t.length
            rw [List.take_length] at h2
            rw [hN1]; exact h2
          have he2 : (str (c :: t)).extract 1 M = str (t.takeWhile isDig) := by
            have h2 := str_take c t (t.takeWhile isDig).length
            rw [← List.prefix_iff_eq_take.1 (List.takeWhile_prefix isDig)] at h2
            rw [show M = (t.takeWhile isDig).length + 1 by omega]; exact h2
          have q5 : IntKind.i64.wrap ((N1 : Int) - (D : Int)) = (M : Int) := by rw [IntWalk.i64_in _ (by omega)]; omega
          have n1 : (1 : Int) ≤ (N1 : Int) := by omega
          have n2 : (1 : Int) ≤ (M : Int) := by omega
          have n3 : (M : Int) ≤ (N1 : Int) := by omega
          have n4 : 1 ≤ N1 := by omega
          have n5 : 1 ≤ M := by omega
          have n6 : M ≤ N1 := by omega
          obtain ⟨v, hv⟩ : ∃ v, v = numG (t.takeWhile isDig) := ⟨_, rfl⟩
          rw [← hv] at HNX HGN
          clear hrest hN1 hD hM hlen hDt hS8 hhl hm hv
          go_wp2_with fail
          clear d0 d1 d2 d3
          generalize wr.alloc (.cells #[.int .u8 x.letter, .int .i64 x.hand, .int .i64 x.promote, .slice au mu cu] 52) = wa at HOW HBA hlet ⊢
          generalize wr.heap.size = pb at hlet ⊢
          go_quiet (fail)
          go_wp2_with fail
          have HBD := Lib.hid (below_drewN HBA.out nq)
          have HOD := Lib.hid (ownsRow_drewN HOW.out nq)
          clear hlet
          go_at_call 58; refine (HTM.out _).mono ?_; rintro e w5 ⟨rfl, hb⟩
          have HB5 := Lib.hid (HBD.out.trans (hb.mono HBD.out.size))
          have HO5 := Lib.hid (own_keepP HOD.out hb)
          clear hb HBD HOD HOW HBA
          go_wp2_with fail
          go_at_call 39; refine (HGN.out _ (HB.out.trans (HB5.out.mono HB.out.size))).mono ?_; rintro e w6 ⟨rfl, hb⟩
          have HB6 := Lib.hid (HB5.out.trans (hb.mono HB5.out.size))
          have ho6 := own_keepP HO5.out hb
          have hmf := ho6.frozenAt k
          obtain ⟨y, hy⟩ : ∃ y : Value, w6.cell? ⟨w1.heap.size, k, none⟩ = some y := by
            have hl : k < ((hTo r.pieces S n k).map (Value.int .i64)).length := by rw [List.length_map, hTo_len S HN.out (by omega)]; exact hlt
            exact ⟨_, (ho6.cellAt k (by omega)).trans (List.getElem?_eq_getElem hl)⟩
          have hst := (ho6.stored k (.int .i64 v)).1
          rw [← List.map_set, ← HNX.out.1] at hst
          have HST := Lib.hid hst
          have HRN := Lib.hid HNX.out.2
          clear hb HB5 HO5 ho6 hst HNX
          go_wp2_with fail
          go_roundw
          case rel => exact ⟨k + 1, by omega, by go_num, by rw [HRN.out], HST.out, Lib.hid (HB6.out.setCell (p := ⟨w1.heap.size, k, none⟩) (Nat.le_refl _) _)⟩
          case measure => simp [intOf]; omega
        · have hmb : ((c.toNat : Int) == x.letter) = false := by simpa using hm
          have hhl : hasL x (c :: t) = false := by simpa [hasL] using hm
          have HSK : Hid (hTo r.pieces S n (k + 1) = hTo r.pieces S n k ∧ restH (r.pieces.take (k + 1)) S = c :: t) := Lib.hid ⟨hTo_skip hlt HXX.out (by rw [← HR.out]; exact hhl), by rw [restH_succ HXX.out, ← HR.out, hRest, if_neg (by rw [hhl]; decide)]⟩
          clear hm hhl
          go_wp2_with fail
          clear d0 d1 d2 d3
          generalize wr.alloc (.cells #[.int .u8 x.letter, .int .i64 x.hand, .int .i64 x.promote, .slice au mu cu] 52) = wa at HOW HBA hlet ⊢
          generalize wr.heap.size = pb at hlet ⊢
          go_quiet (fail)
          go_wp2_with fail
          refine ⟨⟨k + 1, by omega, by go_num, by rw [HSK.out.2], ?_, Lib.hid (below_drewN HBA.out _)⟩, by simp [intOf]; omega⟩
          rw [HSK.out.1]
          exact ownsRow_drewN HOW.out _
    · obtain rfl : k = n := by omega
      have HE : Hid (hTo r.pieces S k k = guessH r.pieces S) := Lib.hid (hTo_all S HN.out)
      have hi2 := ints_of_ownB (d := fun k => w.heap.size ≤ k) hown (by rw [hTo_len S HN.out (Nat.le_refl _)]) (fun k hk => Nat.le_trans HB.out.size hk)
      rw [HE.out] at hi2
      have HI := Lib.hid hi2
      have HBW := Lib.hid (HB.out.trans (hbel.out.mono HB.out.size))
      clear hown hi2
      go_wp2_with fail
      go_ret
      exact ⟨_, _, _, rfl, HI.out, HBW.out⟩
end Go.Proofs.YtakekeljndofcaaGreatDoor
