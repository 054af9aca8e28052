/- The reference's Result. -/
import Derived.Test.YtdhhdkbnlddnbaaGreatDoorRefR
set_option maxRecDepth 100000
namespace Go.Proofs.YtdhhdkbnlddnbaaGreatDoor
open Go.ChangeShapes Go.WideShapes Go.ChangeAt Go.RowKit

theorem endE_piece {x : EndD} {n : Nat} (hn : n ≤ 6) (h : endE x n = 0) : 0 ≤ x.piece ∧ x.piece ≤ 5 := by
  have hk : inB x.kind 0 2 = true := by
    cases hz : inB x.kind 0 2
    · exact absurd h (by rw [endE, if_pos hz]; decide)
    · rfl
  rw [endE, if_neg (by rw [hk]; decide)] at h
  rw [inB_iff] at hk
  by_cases hc : ((if x.kind = 1 then decide (x.count = 0) else inB x.count 1 64) && (if x.kind = 0 then decide (x.piece = 0) else inB x.piece 0 ((n : Int) - 1))) = true
  · rw [Bool.and_eq_true] at hc
    obtain ⟨_, c2⟩ := hc
    by_cases e : x.kind = 0
    · rw [if_pos e, decide_eq_true_eq] at c2; omega
    · rw [if_neg e, inB_iff] at c2; omega
  · rw [if_neg hc] at h; cases h
theorem endsGo_piece {n : Nat} (hn : n ≤ 6) : ∀ {l : List EndD}, endsGo l n = 0 → ∀ x ∈ l, 0 ≤ x.piece ∧ x.piece ≤ 5
  | [], _, x, hx => by cases hx
  | y :: l, h, x, hx => by
    unfold endsGo at h
    split at h
    · rename_i h1
      rcases List.mem_cons.1 hx with rfl | hx
      · exact endE_piece hn h1
      · exact endsGo_piece hn h x hx
    · rename_i h1; exact absurd h h1
theorem ends_piece {r : RulesD} (h : rulesE r = 0) : ∀ x ∈ r.ends, 0 ≤ x.piece ∧ x.piece ≤ 5 := by
  have hn := (pieces_len h).2
  obtain ⟨_, _, _, _, _, he, _⟩ := rulesE_ok h
  unfold endsE at he
  split at he
  · cases he
  · exact endsGo_piece hn he
/-- Whether a condition is met, as far as the reference has looked. -/
def metT (r : RulesD) (p : PlaceD) (x : EndD) (k : Nat) : Bool := (decide (x.kind = 0) && linePl r p (1 - p.turn) x.count.toNat) || (decide (x.kind = 1) && ((squares p).take k).any (onLast r p (1 - p.turn) x.piece))
def hitB (r : RulesD) (p : PlaceD) (x : EndD) (k : Nat) : Bool := decide (x.kind = 1) && onLast r p (1 - p.turn) x.piece (k : Int)
theorem metT_succ (r : RulesD) (p : PlaceD) (x : EndD) {k : Nat} (hk : k < p.cells.length) : metT r p x (k + 1) = (metT r p x k || hitB r p x k) := by
  unfold metT hitB
  have h : (squares p)[k]? = some (k : Int) := by simp [squares, hk]
  rw [List.take_add_one, h, List.any_append]
  simp only [Option.toList_some, List.any_cons, List.any_nil, Bool.or_false, Bool.and_or_distrib_left, Bool.or_assoc]
theorem metT_zero (r : RulesD) (p : PlaceD) (x : EndD) : (decide (x.kind = 0) && linePl r p (1 - p.turn) x.count.toNat) = metT r p x 0 := by
  unfold metT; simp
theorem metT_all (r : RulesD) (p : PlaceD) {x : EndD} (hx : EndOk x) : metB r p x = (metT r p x p.cells.length || (decide (x.kind = 2) && decide ((cntTo p.cells (2 * x.piece + p.turn + 1) p.cells.length : Int) < x.count))) := by
  have hs : (squares p).take p.cells.length = squares p := List.take_of_length_le (by rw [squares_length]; exact Nat.le_refl _)
  unfold metB metT reachB
  rw [hs, few_cnt]
  rcases hx.k with ⟨e, _⟩ | ⟨e, _⟩ | ⟨e, _⟩ <;> simp [e]
set_option maxHeartbeats 32000000 in
theorem result_any (r : RulesD) (p : PlaceD) (vp vs ve vc v0 v1 : Value) (w : World) (hr : IsRules w r vp vs ve) (hp : PlaceIn w p vc v0 v1) (hk : POkay r p) :
    Calls Tryz.prog 26 #[RulesV r vp vs ve, PlaceV p vc v0 v1] w (BelPost (.int .i64 (resultD r p)) w) := by
  obtain ⟨_, hw, hh, _⟩ := rulesE_ok hk.e
  rw [inB_iff] at hw hh
  obtain ⟨hw1, hw2⟩ := hw
  obtain ⟨hh1, hh2⟩ := hh
  have t0 := hk.t0
  have t1 := hk.t1
  have hcl := cells_len hk
  obtain ⟨m, hm⟩ : ∃ m : Nat, m = r.ends.length := ⟨_, rfl⟩
  obtain ⟨hm6, hgood⟩ := ends_okay hk.e
  have hpiece := ends_piece hk.e
  obtain ⟨ea, ce, rfl, hce, hcell⟩ := hr.2.2.shape hm
  obtain ⟨g, off, cc, rfl, hcc, hcel⟩ := ints_open hp.c hcl.1
  obtain ⟨n, hn⟩ : ∃ n, n = p.cells.length := ⟨_, rfl⟩
  rw [← hn] at hcl hcc hcel hp ⊢
  obtain ⟨hB, hY, hX⟩ := rp_boxes w r p vp vs (.slice ea m ce) (.slice (some ⟨g, off, none⟩) n cc) v0 v1
  obtain ⟨V, hV⟩ : ∃ V, V = (w.alloc (.cells (RulesCells r vp vs (.slice ea m ce)) 26)).alloc (.cells (PlaceCells p (.slice (some ⟨g, off, none⟩) n cc) v0 v1) 29) := ⟨_, rfl⟩
  rw [← hV] at hB hY hX
  have HB := Lib.hid hB
  have HX : Hid (∀ W, Below V.heap.size V W → BoxP W (w.heap.size + 1) p (.slice (some ⟨g, off, none⟩) n cc) v0 v1) := Lib.hid (fun W hb => hX.below hb (Nat.le_refl _))
  have HY : Hid (∀ W, Below V.heap.size V W → BoxR W w.heap.size r vp vs (.slice ea m ce)) := Lib.hid (fun W hb => hY.below hb (Nat.le_refl _))
  have HP : Hid (∀ W, Below V.heap.size V W → PlaceIn W p (.slice (some ⟨g, off, none⟩) n cc) v0 v1) := Lib.hid (fun W hb => (hp.below hB (Nat.le_refl _)).below hb (Nat.le_refl _))
  have HR : Hid (∀ W, Below V.heap.size V W → IsRules W r vp vs (.slice ea m ce)) := Lib.hid (fun W hb => (hr.below hB (Nat.le_refl _)).below hb (Nat.le_refl _))
  have HC : Hid (∀ j, j < m → ∃ g off x, ea = some ⟨g, off, none⟩ ∧ r.ends[j]? = some x ∧ ∀ W, Below V.heap.size V W → EndAt W g (off + j * 4) x) := Lib.hid (fun j hj => by
    obtain ⟨g, off, x, h1, h2, h3⟩ := hcell j hj
    exact ⟨g, off, x, h1, h2, fun W hb => end_keeps _ _ _ _ _ _ hb (Nat.le_refl _) (end_keeps _ _ _ _ _ _ hB (Nat.le_refl _) h3)⟩)
  have HCE : Hid (∀ j, j < n → ∀ W, Below V.heap.size V W → W.cell? ⟨g, off + j, none⟩ = some (.int .i64 (cellI p (j : Int)))) := Lib.hid (fun j hj W hb => by
    rw [cellI, Int.toNat_natCast]; exact cell_keeps hb (Nat.le_refl _) (cell_keeps hB (Nat.le_refl _) (hcel j hj)))
  have HLI : Hid (∀ (c : Nat) W, 1 ≤ c → Below V.heap.size V W → Calls Tryz.prog 42 #[RulesV r vp vs (.slice ea m ce), PlaceV p (.slice (some ⟨g, off, none⟩) n cc) v0 v1, .int .i64 (1 - p.turn), .int .i64 (c : Int)] W (BelPost (.bool (linePl r p (1 - p.turn) c)) W)) := Lib.hid (fun c W hc hb => lined_any r p vp vs _ _ v0 v1 _ c W (HP.out W hb) hk hc)
  have HFA : Hid (∀ y W, Calls Tryz.prog 43 #[RulesV r vp vs (.slice ea m ce), .int .i64 (1 - p.turn), .int .i64 y] W (BelPost (.bool (decide (y = lastRowI r (1 - p.turn)))) W)) := Lib.hid (fun y W => far_any r vp vs _ (1 - p.turn) y W hh1 hh2 (by omega) (by omega))
  have HMO : Hid (∀ W, Below V.heap.size V W → Calls Tryz.prog 27 #[RulesV r vp vs (.slice ea m ce), PlaceV p (.slice (some ⟨g, off, none⟩) n cc) v0 v1] W (MovesPost (allD r p) W)) := Lib.hid (fun W hb => refMoves_any r p vp vs _ _ v0 v1 W (HR.out W hb) (HP.out W hb) hk)
  have HG := Lib.hid (fun x (hx : x ∈ r.ends) => (⟨hgood x hx, hpiece x hx⟩ : EndOk x ∧ (0 ≤ x.piece ∧ x.piece ≤ 5)))
  have HM := Lib.hid hm
  have HN := Lib.hid hn
  have HK := Lib.hid hk
  have HL5 := Lib.hid (allD_length hk)
  have HBK : Hid (0 ≤ r.blocked ∧ r.blocked ≤ 2) := Lib.hid (by
    obtain ⟨_, _, _, _, _, _, ho⟩ := rulesE_ok hk.e
    unfold otherE at ho
    split at ho
    · rename_i h; rw [Bool.and_eq_true] at h; exact inB_iff.1 h.1
    · cases ho)
  have HST : Hid (stuckI r p = if r.blocked = 0 then 1 + (1 - p.turn) else if r.blocked = 1 then 1 + p.turn else 3) := Lib.hid rfl
  have hn64 := hcl.2
  rw [← hm] at hm6
  obtain ⟨x0, x1, x2, x3, x4⟩ := HX.out V (Below.refl _ _)
  obtain ⟨y0, y1, y2, y3, y4, y5, y6, y7, y8, y9, y10⟩ := HY.out V (Below.refl _ _)
  have w0 := x3
  have w1 := y7
  rw [hV] at w0 w1
  unfold RulesCells PlaceCells at hV w0 w1
  unfold RulesV PlaceV PlaceCells at HLI HMO
  unfold RulesV at HFA
  unfold RulesV PlaceV PlaceCells
  clear hr hp hm hn hcell hcel hgood hpiece hB hY hX hk hcl x0 x1 x2 x3 x4 y0 y1 y2 y3 y4 y5 y6 y7 y8 y9 y10
  go_enter Tryz.func26, Tryz.ntmps26
  go_wp2_with fail
  rw [← hV]
  clear hV w0 w1
  go_loopw [4, 7, 8, 9, 10, 11, 18, 36] (fun _ _ _ _ _ _ i _ wr => ∃ k : Nat, k ≤ m ∧ i = .int .i64 (k : Int) ∧ Hid (endsR r p r.ends = endsR r p (r.ends.drop k)) ∧ Hid (Below V.heap.size V wr)) (fun _ _ _ _ _ _ i _ _ => m - (intOf i).toNat)
  case atStart => exact ⟨0, by omega, rfl, Lib.hid rfl, Lib.hid (Below.refl _ _)⟩
  case round =>
    obtain ⟨k, hkm, rfl, hgo, hbel⟩ := hrel
    by_cases hlt : k < m
    · obtain ⟨eg, eo, x, rfl, hx, hq⟩ := HC.out k hlt
      obtain ⟨c0, c1, c2, c3⟩ := hq wr hbel.out
      obtain ⟨hok, hpc0, hpc5⟩ := HG.out x (List.mem_of_getElem? hx)
      have HST1 : Hid (endsR r p r.ends = if metB r p x = true then winsI p x else endsR r p (r.ends.drop (k + 1))) := Lib.hid (by rw [hgo.out]; exact endsR_step hx)
      have HMA := Lib.hid (metT_all r p hok)
      have HM0 := Lib.hid (metT_zero r p x)
      have HMS : Hid (∀ j, j < n → metT r p x (j + 1) = (metT r p x j || hitB r p x j)) := Lib.hid (fun j hj => metT_succ r p x (by rw [← HN.out]; exact hj))
      have HHB : Hid (∀ j : Nat, hitB r p x j = (decide (x.kind = 1) && (decide (cellI p (j : Int) = 2 * x.piece + (1 - p.turn) + 1) && decide ((j : Int) / r.width = lastRowI r (1 - p.turn))))) := Lib.hid (fun j => rfl)
      have hxk := hok.k
      have hal := (Below.refl wr.heap.size wr).alloc (Nat.le_refl _) (.cells #[.int .i64 x.kind, .int .i64 x.piece, .int .i64 x.count, .bool x.loses] 62)
      have HB1 := Lib.hid (hbel.out.trans (hal.mono hbel.out.size))
      have hE : EndAt (wr.alloc (.cells #[.int .i64 x.kind, .int .i64 x.piece, .int .i64 x.count, .bool x.loses] 62)) wr.heap.size 0 x := by
        refine ⟨?_, ?_, ?_, ?_⟩ <;> (rw [World.cell?_alloc_at (hn := rfl)]; rfl)
      have HE := Lib.hid hE
      have HW : Hid (winsI p x = if x.loses = true then 1 + p.turn else 1 + (1 - p.turn)) := Lib.hid rfl
      obtain ⟨kd, pc, ct, ls⟩ := x
      dsimp only at c0 c1 c2 c3 hpc0 hpc5 hxk HMA HM0 HHB HE HB1 HW
      unfold EndAt at HE
      dsimp only at HE
      clear hx hq hok hal hE hbel
      go_upto_region 5 with fail
      generalize wr.alloc (.cells #[.int .i64 kd, .int .i64 pc, .int .i64 ct, .bool ls] 62) = W1 at HB1 HE ⊢
      generalize wr.heap.size = eb at HE ⊢
      have HE1 : Hid (∀ W, Below W1.heap.size W1 W → (W.cell? ⟨eb, 0, none⟩ = some (.int .i64 kd) ∧ W.cell? ⟨eb, 1, none⟩ = some (.int .i64 pc) ∧ W.cell? ⟨eb, 2, none⟩ = some (.int .i64 ct) ∧ W.cell? ⟨eb, 3, none⟩ = some (.bool ls))) := Lib.hid (fun W hb => ⟨cell_keeps hb (Nat.le_refl _) HE.out.1, cell_keeps hb (Nat.le_refl _) HE.out.2.1, cell_keeps hb (Nat.le_refl _) HE.out.2.2.1, cell_keeps hb (Nat.le_refl _) HE.out.2.2.2⟩)
      have HV1 : Hid (∀ W, Below W1.heap.size W1 W → Below V.heap.size V W) := Lib.hid (fun W hb => HB1.out.trans (hb.mono HB1.out.size))
      clear HE c0 c1 c2 c3
      obtain ⟨M0, hM0⟩ : ∃ M0, (decide (kd = 0) && linePl r p (1 - p.turn) ct.toNat) = M0 := ⟨_, rfl⟩
      rw [hM0] at HM0
      have HM00 := Lib.hid hM0
      clear hM0
      go_cut [8] from 22 to 32 (fun s8 wx => s8 = .bool M0 ∧ Hid (Below W1.heap.size W1 wx))
      case first =>
        have hB1 := HV1.out W1 (Below.refl _ _)
        obtain ⟨e0, e1, e2, e3⟩ := HE1.out W1 (Below.refl _ _)
        obtain ⟨x0, x1, x2, x3, x4⟩ := HX.out W1 hB1
        obtain ⟨y0, y1, y2, y3, y4, y5, y6, y7, y8, y9, y10⟩ := HY.out W1 hB1
        by_cases hkd : kd = 0
        · have h1c : 1 ≤ ct := by rcases hxk with ⟨_, h⟩ | ⟨h, _⟩ | ⟨h, _⟩ <;> omega
          obtain ⟨c, rfl⟩ : ∃ c : Nat, ct = (c : Int) := ⟨ct.toNat, by omega⟩
          subst hkd
          have HL1 := Lib.hid (HLI.out c W1 (by omega) hB1)
          have K1 : Hid (linePl r p (1 - p.turn) c = M0) := Lib.hid (by rw [← HM00.out]; simp)
          generalize linePl r p (1 - p.turn) c = b at HL1 K1
          clear HM00 HM0 HMA HMS HHB HW HST1 hxk hB1 h1c
          go_wp2_with fail
          go_at_call 42; refine HL1.out.mono ?_; rintro e w2 ⟨rfl, hb2⟩
          have HB2 := Lib.hid hb2
          clear hb2 HL1 x0 x1 x2 x3 x4 y0 y1 y2 y3 y4 y5 y6 y7 y8 y9 y10 e0 e1 e2 e3
          go_wp2_with fail
          go_meet
          exact ⟨congrArg _ K1.out, HB2⟩
        · have hd : (kd == 0) = false := by simpa using hkd
          have K1 : Hid (false = M0) := Lib.hid (by rw [← HM00.out]; simp [hkd])
          clear HM00 HM0 HMA HMS HHB HW HST1 hxk hB1 hkd
          go_wp2_with fail
          go_meet
          exact ⟨congrArg _ K1.out, Lib.hid (Below.refl _ _)⟩
      case rest =>
        obtain ⟨rfl, hbc⟩ := hcut
        obtain ⟨x0, x1, x2, x3, x4⟩ := HX.out wc (HV1.out wc hbc.out)
        clear HM00
        go_wp2_with fail
        clear x0 x1 x2 x3 x4
        obtain ⟨v, hv⟩ : ∃ v, 2 * pc + p.turn + 1 = v := ⟨_, rfl⟩
        obtain ⟨u, hu⟩ : ∃ u, 2 * pc + (1 - p.turn) + 1 = u := ⟨_, rfl⟩
        rw [hv] at HMA
        rw [hu] at HHB
        have HCY := Lib.hid (fun j h => cntTo_yes (l := p.cells) (x := v) (k := j) h)
        have HCN := Lib.hid (fun j y h hn => cntTo_no (l := p.cells) (x := v) (y := y) (k := j) h hn)
        have HCL := Lib.hid (cntTo_le p.cells v)
        have HGET : Hid (∀ j : Nat, j < n → p.cells[j]? = some (cellI p (j : Int))) := Lib.hid (fun j hj => by
          rw [cellI, Int.toNat_natCast, List.getElem?_eq_getElem (by rw [← HN.out]; exact hj)]; rfl)
        have HC12 : Hid (∀ s, 0 ≤ cellI p s ∧ cellI p s ≤ 12) := Lib.hid (fun s => by have h1 := cell_in HK.out s; have h2 := (pieces_len HK.out.e).2; omega)
        have HVU := Lib.hid (And.intro hv hu)
        clear hv hu
        go_loopw [8, 9, 10, 11, 36] (fun s8 s9 _ _ i wr => ∃ j : Nat, j ≤ n ∧ i = .int .i64 (j : Int) ∧ s8 = .bool (metT r p ⟨kd, pc, ct, ls⟩ j) ∧ s9 = .int .i64 (cntTo p.cells v j : Int) ∧ Hid (Below W1.heap.size W1 wr)) (fun _ _ _ _ i _ => n - (intOf i).toNat)
        case atStart => exact ⟨0, by omega, rfl, by rw [← HM0.out], rfl, hbc⟩
        case round =>
          clear hbc HM0
          obtain ⟨j, hjn, rfl, rfl, rfl, hbel⟩ := hrel
          by_cases hjlt : j < n
          · have hB1 := HV1.out _ hbel.out
            have hc0 := HCE.out j hjlt _ hB1
            have hgt := HGET.out j hjlt
            obtain ⟨i0, i1⟩ := HC12.out (j : Int)
            obtain ⟨cv, hcv⟩ : ∃ cv, cellI p (j : Int) = cv := ⟨_, rfl⟩
            have HHJ := Lib.hid (HHB.out j)
            have HSJ := Lib.hid (HMS.out j hjlt)
            obtain ⟨T, hT⟩ : ∃ T, metT r p ⟨kd, pc, ct, ls⟩ j = T := ⟨_, rfl⟩
            obtain ⟨hit, hhit⟩ : ∃ h, hitB r p ⟨kd, pc, ct, ls⟩ j = h := ⟨_, rfl⟩
            obtain ⟨F, hF⟩ : ∃ F, cntTo p.cells v j = F := ⟨_, rfl⟩
            have hFj := HCL.out j
            rw [hcv] at hc0 hgt i0 i1 HHJ
            rw [hhit] at HHJ HSJ
            rw [hT] at HSJ ⊢
            rw [hF] at hFj ⊢
            have HYJ : Hid (cv = v → cntTo p.cells v (j + 1) = F + 1) := Lib.hid (fun h => by rw [← hF]; exact HCY.out j (by rw [hgt, h]))
            have HNJ : Hid (cv ≠ v → cntTo p.cells v (j + 1) = F) := Lib.hid (fun h => by rw [← hF]; exact HCN.out j cv hgt h)
            clear hgt hcv hT hhit hF
            go_upto_region 10 with fail
            clear hc0
            go_cut [62] from 41 to 61 (fun s62 wx => s62 = .bool hit ∧ Hid (Below W1.heap.size W1 wx))
            case first =>
              obtain ⟨e0, e1, e2, e3⟩ := HE1.out _ hbel.out
              obtain ⟨y0, y1, y2, y3, y4, y5, y6, y7, y8, y9, y10⟩ := HY.out _ hB1
              by_cases hk1 : kd = 1
              · subst hk1
                have q1 : IntKind.i64.wrap (2 * pc) = 2 * pc := IntWalk.i64_in _ (by omega)
                have q2 : IntKind.i64.wrap (2 * pc + (1 - p.turn)) = 2 * pc + (1 - p.turn) := IntWalk.i64_in _ (by omega)
                have q3 : IntKind.i64.wrap (2 * pc + (1 - p.turn) + 1) = u := by rw [← HVU.out.2]; exact IntWalk.i64_in _ (by omega)
                have r1 : wrap64 (2 * pc) = 2 * pc := by unfold wrap64; omega
                have r2 : wrap64 (2 * pc + (1 - p.turn)) = 2 * pc + (1 - p.turn) := by unfold wrap64; omega
                have r3 : wrap64 (2 * pc + (1 - p.turn) + 1) = u := by rw [← HVU.out.2]; unfold wrap64; omega
                by_cases hcu : cv = u
                · obtain ⟨y, hy⟩ : ∃ y, (j : Int) / r.width = y := ⟨_, rfl⟩
                  have K1 : Hid (decide (y = lastRowI r (1 - p.turn)) = hit) := Lib.hid (by rw [HHJ.out, hy, hcu]; simp)
                  have hcu2 : (cv == u) = true := by simpa using hcu
                  have hy0 : 0 ≤ y ∧ y ≤ 64 := by
                    rw [← hy]
                    have h1 := Int.ediv_nonneg (show (0 : Int) ≤ (j : Int) by omega) (show 0 ≤ r.width by omega)
                    have h2 := Int.ediv_le_self r.width (show (0 : Int) ≤ (j : Int) by omega)
                    omega
                  have d1 : IntKind.i64.wrap ((j : Int) / r.width) = y := by rw [hy]; exact IntWalk.i64_in _ (by omega)
                  have d2 : wrap64 ((j : Int) / r.width) = y := by rw [hy]; unfold wrap64; omega
                  have hw0 : ¬ r.width = 0 := by omega
                  have hw00 : (r.width == 0) = false := by simpa using hw0
                  have HF1 := Lib.hid (HFA.out y)
                  generalize decide (y = lastRowI r (1 - p.turn)) = fb at K1 HF1
                  generalize hwr : wr = W2 at *
                  have hBc : Below W2.heap.size W2 W2.drew := (Below.refl _ _).drew
                  have HBB : Hid (∀ W, Below W2.heap.size W2 W → Below W1.heap.size W1 W) := Lib.hid (fun W hb => hbel.out.trans (hb.mono hbel.out.size))
                  clear hcu hy hB1 hy0 hwr
                  go_region_held3 (fun w' => (w'.cell? ⟨w.heap.size, 0, none⟩ = some (.string r.name) ∧ w'.cell? ⟨w.heap.size, 1, none⟩ = some (.int .i64 r.width) ∧ w'.cell? ⟨w.heap.size, 2, none⟩ = some (.int .i64 r.height) ∧ w'.cell? ⟨w.heap.size, 3, none⟩ = some vp ∧ w'.cell? ⟨w.heap.size, 4, none⟩ = some vs ∧ w'.cell? ⟨w.heap.size, 5, none⟩ = some (.bool r.falls) ∧ w'.cell? ⟨w.heap.size, 6, none⟩ = some (.bool r.keeps) ∧ w'.cell? ⟨w.heap.size, 7, none⟩ = some (.slice (some ⟨eg, eo, none⟩) m ce) ∧ w'.cell? ⟨w.heap.size, 8, none⟩ = some (.int .i64 r.blocked) ∧ w'.cell? ⟨w.heap.size, 9, none⟩ = some (.int .i64 r.quiet) ∧ w'.cell? ⟨w.heap.size, 10, none⟩ = some (.int .i64 r.rep)) ∧
                    (w'.cell? ⟨eb, 0, none⟩ = some (.int .i64 1) ∧ w'.cell? ⟨eb, 1, none⟩ = some (.int .i64 pc) ∧ w'.cell? ⟨eb, 2, none⟩ = some (.int .i64 ct) ∧ w'.cell? ⟨eb, 3, none⟩ = some (.bool ls))) (exact ⟨HY.out _ (HV1.out _ (HBB.out _ hBc)), HE1.out _ (HBB.out _ hBc)⟩) (first
                    | (go_at_call 43; refine (HF1.out _).mono ?_; rintro e w3 ⟨rfl, hb⟩; have hBc := hBc.trans (hb.mono hBc.size); clear hb))
                  have HBC := Lib.hid (HBB.out _ hBc)
                  clear hBc
                  go_wp2_with fail
                  go_meet
                  exact ⟨congrArg _ K1.out, HBC⟩
                · have K1 : Hid (false = hit) := Lib.hid (by rw [HHJ.out]; simp [hcu])
                  have hcu2 : (cv == u) = false := by simpa using hcu
                  clear hcu hB1
                  go_quiet (fail)
                  go_wp2_with fail
                  go_meet
                  exact ⟨congrArg _ K1.out, Lib.hid (below_drewN hbel.out _)⟩
              · have K1 : Hid (false = hit) := Lib.hid (by rw [HHJ.out]; simp [hk1])
                have hk2 : (kd == 1) = false := by simpa using hk1
                clear hk1 hB1
                go_quiet (fail)
                go_wp2_with fail
                go_meet
                exact ⟨congrArg _ K1.out, Lib.hid (below_drewN hbel.out _)⟩
            case rest =>
              clear hbel hB1 HHJ
              obtain ⟨rfl, hbc⟩ := hcut
              have hB1 := HV1.out _ hbc.out
              obtain ⟨e0, e1, e2, e3⟩ := HE1.out _ hbc.out
              obtain ⟨x0, x1, x2, x3, x4⟩ := HX.out _ hB1
              have HS0 : Hid (hit = true → metT r p ⟨kd, pc, ct, ls⟩ (j + 1) = true) := Lib.hid (fun h => by rw [HSJ.out, h, Bool.or_true])
              have HS1 : Hid (hit = false → metT r p ⟨kd, pc, ct, ls⟩ (j + 1) = T) := Lib.hid (fun h => by rw [HSJ.out, h, Bool.or_false])
              clear HSJ hB1
              by_cases hcv : cv = v
              · have KF : Hid (cntTo p.cells v (j + 1) = F + 1) := Lib.hid (HYJ.out hcv)
                have hd : (cv == 2 * pc + p.turn + 1) = true := by rw [HVU.out.1]; simpa using hcv
                clear hcv HYJ HNJ
                cases hit with
                | true =>
                  have KS := Lib.hid (HS0.out rfl)
                  clear HS0 HS1
                  go_wp2_with fail
                  go_roundw
                  case rel => first | exact ⟨j + 1, by omega, by go_num, by rw [KS.out], by rw [KF.out]; go_num, hbc⟩ | ((repeat apply Exists.intro); exact ⟨⟨j + 1, by omega, by go_num, by rw [KS.out], by rw [KF.out]; go_num, hbc⟩, rfl⟩)
                  case measure => simp [intOf]; omega
                | false =>
                  have KS := Lib.hid (HS1.out rfl)
                  clear HS0 HS1
                  go_wp2_with fail
                  go_roundw
                  case rel => first | exact ⟨j + 1, by omega, by go_num, by rw [KS.out], by rw [KF.out]; go_num, hbc⟩ | ((repeat apply Exists.intro); exact ⟨⟨j + 1, by omega, by go_num, by rw [KS.out], by rw [KF.out]; go_num, hbc⟩, rfl⟩)
                  case measure => simp [intOf]; omega
              · have KF : Hid (cntTo p.cells v (j + 1) = F) := Lib.hid (HNJ.out hcv)
                have hd : (cv == 2 * pc + p.turn + 1) = false := by rw [HVU.out.1]; simpa using hcv
                clear hcv HYJ HNJ
                cases hit with
                | true =>
                  have KS := Lib.hid (HS0.out rfl)
                  clear HS0 HS1
                  go_wp2_with fail
                  go_roundw
                  case rel => first | exact ⟨j + 1, by omega, by go_num, by rw [KS.out], by rw [KF.out], hbc⟩ | ((repeat apply Exists.intro); exact ⟨⟨j + 1, by omega, by go_num, by rw [KS.out], by rw [KF.out], hbc⟩, rfl⟩)
                  case measure => simp [intOf]; omega
                | false =>
                  have KS := Lib.hid (HS1.out rfl)
                  clear HS0 HS1
                  go_wp2_with fail
                  go_roundw
                  case rel => first | exact ⟨j + 1, by omega, by go_num, by rw [KS.out], by rw [KF.out], hbc⟩ | ((repeat apply Exists.intro); exact ⟨⟨j + 1, by omega, by go_num, by rw [KS.out], by rw [KF.out], hbc⟩, rfl⟩)
                  case measure => simp [intOf]; omega
          · obtain rfl : j = n := by omega
            have hB1 := HV1.out _ hbel.out
            obtain ⟨e0, e1, e2, e3⟩ := HE1.out _ hbel.out
            obtain ⟨x0, x1, x2, x3, x4⟩ := HX.out _ hB1
            have HMN : Hid (metB r p ⟨kd, pc, ct, ls⟩ = (metT r p ⟨kd, pc, ct, ls⟩ j || (decide (kd = 2) && decide ((cntTo p.cells v j : Int) < ct)))) := Lib.hid (by rw [HN.out]; exact HMA.out)
            obtain ⟨T, hT⟩ : ∃ T, metT r p ⟨kd, pc, ct, ls⟩ j = T := ⟨_, rfl⟩
            obtain ⟨F, hF⟩ : ∃ F, cntTo p.cells v j = F := ⟨_, rfl⟩
            have hFj := HCL.out j
            rw [hF] at hFj HMN ⊢
            rw [hT] at HMN ⊢
            have hcase : ((kd == 2) = true ∧ decide ((F : Int) < ct) = true ∧ metB r p ⟨kd, pc, ct, ls⟩ = true) ∨ ((kd == 2) = true ∧ decide ((F : Int) < ct) = false ∧ metB r p ⟨kd, pc, ct, ls⟩ = T) ∨ ((kd == 2) = false ∧ metB r p ⟨kd, pc, ct, ls⟩ = T) := by
              by_cases h2 : kd = 2
              · by_cases h3 : (F : Int) < ct
                · exact .inl ⟨by simpa using h2, by simpa using h3, by rw [HMN.out]; simp [h2, h3]⟩
                · exact .inr (.inl ⟨by simpa using h2, decide_eq_false h3, by rw [HMN.out]; simp [h3]⟩)
              · exact .inr (.inr ⟨by simpa using h2, by rw [HMN.out]; simp [h2]⟩)
            clear hT hF HMN HMS HHB HCY HCN HCL HGET HCE hxk hbel
            rcases hcase with ⟨d1, d2, hmm⟩ | ⟨d1, d2, hmm⟩ | ⟨d1, hmm⟩
            · have HMM := Lib.hid hmm
              clear hmm
              have KW := Lib.hid (result_won HK.out (by rw [HST1.out, if_pos HMM.out]))
              have HBE := Lib.hid (HB.out.trans (hB1.mono HB.out.size))
              cases ls with
              | true =>
                have KR : Hid (1 + p.turn = resultD r p) := Lib.hid (by rw [← KW.out, HW.out, if_pos rfl])
                clear HST1 HW KW HMA hB1
                go_wp2_with fail
                go_ret
                exact ⟨ret_i64 KR.out, HBE.out⟩
              | false =>
                have KR : Hid (1 + (1 - p.turn) = resultD r p) := Lib.hid (by rw [← KW.out, HW.out, if_neg (by decide)])
                clear HST1 HW KW HMA hB1
                go_wp2_with fail
                go_ret
                exact ⟨ret_i64 KR.out, HBE.out⟩
            · have HMM := Lib.hid hmm
              clear hmm
              cases T with
              | true =>
                have KW := Lib.hid (result_won HK.out (by rw [HST1.out, if_pos HMM.out]))
                have HBE := Lib.hid (HB.out.trans (hB1.mono HB.out.size))
                cases ls with
                | true =>
                  have KR : Hid (1 + p.turn = resultD r p) := Lib.hid (by rw [← KW.out, HW.out, if_pos rfl])
                  clear HST1 HW KW HMA hB1
                  go_wp2_with fail
                  go_ret
                  exact ⟨ret_i64 KR.out, HBE.out⟩
                | false =>
                  have KR : Hid (1 + (1 - p.turn) = resultD r p) := Lib.hid (by rw [← KW.out, HW.out, if_neg (by decide)])
                  clear HST1 HW KW HMA hB1
                  go_wp2_with fail
                  go_ret
                  exact ⟨ret_i64 KR.out, HBE.out⟩
              | false =>
                have KG : Hid (endsR r p r.ends = endsR r p (r.ends.drop (k + 1))) := Lib.hid (by rw [HST1.out, if_neg (by rw [HMM.out]; decide)])
                have HBX := Lib.hid hB1
                clear HST1 HW HMA hB1
                go_wp2_with fail
                go_roundw
                case rel => first | exact ⟨k + 1, by omega, by go_num, KG, HBX⟩ | ((repeat apply Exists.intro); exact ⟨⟨k + 1, by omega, by go_num, KG, HBX⟩, rfl⟩)
                case measure => simp [intOf]; omega
            · have HMM := Lib.hid hmm
              clear hmm
              cases T with
              | true =>
                have KW := Lib.hid (result_won HK.out (by rw [HST1.out, if_pos HMM.out]))
                have HBE := Lib.hid (HB.out.trans (hB1.mono HB.out.size))
                cases ls with
                | true =>
                  have KR : Hid (1 + p.turn = resultD r p) := Lib.hid (by rw [← KW.out, HW.out, if_pos rfl])
                  clear HST1 HW KW HMA hB1
                  go_wp2_with fail
                  go_ret
                  exact ⟨ret_i64 KR.out, HBE.out⟩
                | false =>
                  have KR : Hid (1 + (1 - p.turn) = resultD r p) := Lib.hid (by rw [← KW.out, HW.out, if_neg (by decide)])
                  clear HST1 HW KW HMA hB1
                  go_wp2_with fail
                  go_ret
                  exact ⟨ret_i64 KR.out, HBE.out⟩
              | false =>
                have KG : Hid (endsR r p r.ends = endsR r p (r.ends.drop (k + 1))) := Lib.hid (by rw [HST1.out, if_neg (by rw [HMM.out]; decide)])
                have HBX := Lib.hid hB1
                clear HST1 HW HMA hB1
                go_wp2_with fail
                go_roundw
                case rel => first | exact ⟨k + 1, by omega, by go_num, KG, HBX⟩ | ((repeat apply Exists.intro); exact ⟨⟨k + 1, by omega, by go_num, KG, HBX⟩, rfl⟩)
                case measure => simp [intOf]; omega
    · have hz : endsR r p r.ends = 0 := by rw [hgo.out, List.drop_eq_nil_of_le (by have := HM.out; omega)]; rfl
      have HRR := Lib.hid (result_rest hz)
      obtain rfl : k = m := by omega
      obtain ⟨x0, x1, x2, x3, x4⟩ := HX.out _ hbel.out
      obtain ⟨y0, y1, y2, y3, y4, y5, y6, y7, y8, y9, y10⟩ := HY.out _ hbel.out
      clear hz hlt hgo HC HCE HLI HFA HG HP HR
      by_cases hc : calmB r p = true
      · have KR : Hid ((3 : Int) = resultD r p) := Lib.hid (by rw [HRR.out, if_pos hc])
        unfold calmB at hc
        rw [Bool.and_eq_true, decide_eq_true_eq, decide_eq_true_eq] at hc
        obtain ⟨hc1, hc2⟩ := hc
        have d1 : (r.quiet != 0) = true := by simpa using hc1
        have d2 : decide (p.quiet ≥ r.quiet) = true := by simpa using hc2
        have HBE := Lib.hid (HB.out.trans (hbel.out.mono HB.out.size))
        clear hc1 hc2
        go_wp2_with fail
        go_ret
        exact ⟨ret_i64 KR.out, HBE.out⟩
      · have KR0 : Hid (resultD r p = if allD r p ≠ [] then 0 else stuckI r p) := Lib.hid (by rw [HRR.out, if_neg hc])
        have hd : ((r.quiet != 0) = false) ∨ ((r.quiet != 0) = true ∧ decide (p.quiet ≥ r.quiet) = false) := by
          unfold calmB at hc
          by_cases h0 : r.quiet = 0
          · left; simpa using h0
          · right
            refine ⟨by simpa using h0, ?_⟩
            simp only [Bool.and_eq_true, decide_eq_true_eq, not_and] at hc
            have := hc h0
            simp; omega
        have HA := Lib.hid (HMO.out wr hbel.out)
        have HBC : Hid (r.blocked = 0 ∧ stuckI r p = 1 + (1 - p.turn) ∨ r.blocked = 1 ∧ stuckI r p = 1 + p.turn ∨ r.blocked = 2 ∧ stuckI r p = 3) := Lib.hid (by
          have h1 := HBK.out
          obtain e | e | e : r.blocked = 0 ∨ r.blocked = 1 ∨ r.blocked = 2 := by omega
          · exact .inl ⟨e, by rw [HST.out, if_pos e]⟩
          · exact .inr (.inl ⟨e, by rw [HST.out, if_neg (by omega), if_pos e]⟩)
          · exact .inr (.inr ⟨e, by rw [HST.out, if_neg (by omega), if_neg (by omega)]⟩))
        clear hc HMO HST HBK
        rcases hd with d1 | ⟨d1, d2⟩
        all_goals
          go_wp2_with fail
          go_at_call 27; refine HA.out.mono ?_; rintro e w2 ⟨la, ln, lc, rfl, hml, hb2⟩
          have HB2 := Lib.hid (hbel.out.trans (hb2.mono hbel.out.size))
          have hln := hml.len
          have HLN := Lib.hid hln
          have hl5 : ln ≤ 5000 := by have := HL5.out; omega
          have HBE := Lib.hid (HB.out.trans (HB2.out.mono HB.out.size))
          clear hb2 hln hml x0 x1 x2 x3 x4 y0 y1 y2 y3 y4 y5 y6 y7 y8 y9 y10
          by_cases hl : ln = 0
          · have KR : Hid (stuckI r p = resultD r p) := Lib.hid (by
              rw [KR0.out, if_neg]
              intro h
              exact h (List.eq_nil_of_length_eq_zero (by rw [← HLN.out]; exact hl)))
            subst hl
            obtain ⟨x0, x1, x2, x3, x4⟩ := HX.out _ HB2.out
            obtain ⟨y0, y1, y2, y3, y4, y5, y6, y7, y8, y9, y10⟩ := HY.out _ HB2.out
            rcases HBC.out with ⟨e, hs⟩ | ⟨e, hs⟩ | ⟨e, hs⟩
            all_goals
              have KS := Lib.hid (hs.symm.trans KR.out)
              have HBF := Lib.hid (HBE.out.trans (((Below.refl w2.heap.size w2).alloc (Nat.le_refl _) (.cells #[.int .i64 (1 + (1 - p.turn)), .int .i64 (1 + p.turn), .int .i64 3] 3)).mono HBE.out.size))
              have z8 := (HY.out _ (HB2.out.trans (((Below.refl w2.heap.size w2).alloc (Nat.le_refl _) (.cells #[.int .i64 (1 + (1 - p.turn)), .int .i64 (1 + p.turn), .int .i64 3] 3)).mono HB2.out.size))).2.2.2.2.2.2.2.2.1
              rw [e] at y8 z8
              clear hs e
              go_wp2_with fail
              go_ret
              exact ⟨ret_i64 KS.out, HBF.out⟩
          · have KR : Hid ((0 : Int) = resultD r p) := Lib.hid (by
              rw [KR0.out, if_pos]
              intro h
              rw [h] at HLN
              exact hl HLN.out)
            have hd3 : decide ((ln : Int) > 0) = true := by simp; omega
            have hd4 : decide (0 < ln) = true := by simp; omega
            clear hl
            go_wp2_with fail
            go_ret
            exact ⟨ret_i64 KR.out, HBE.out⟩
end Go.Proofs.YtdhhdkbnlddnbaaGreatDoor
