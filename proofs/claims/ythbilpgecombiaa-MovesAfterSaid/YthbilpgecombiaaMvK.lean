/- slices.Compact at moves: the walk. -/
import Derived.Test.YthbilpgecombiaaMvC
import Derived.Deep.RegionHeld3
import Derived.WalkKit
set_option maxRecDepth 100000
namespace Go.Proofs.Ythbilpgecombiaa
open Go.ChangeShapes Go.WideShapes Go.ChangeAt Go.RowKit

theorem row_cell {w : World} {blk off : Nat} {d : Array MoveD} (h : Go.Sort.HoldsK mc 3 w blk off d) {i : Nat} (hi : i < d.size) {a b c : Int} (e : d[i]! = (a, b, c)) :
    w.cell? ⟨blk, off + i * 3, none⟩ = some (.int .i64 a) ∧ w.cell? ⟨blk, off + i * 3 + 1, none⟩ = some (.int .i64 b) ∧ w.cell? ⟨blk, off + i * 3 + 2, none⟩ = some (.int .i64 c) ∧
    w.frozen? ⟨blk, off + i * 3, none⟩ = false ∧ w.frozen? ⟨blk, off + i * 3 + 1, none⟩ = false ∧ w.frozen? ⟨blk, off + i * 3 + 2, none⟩ = false := by
  have h0 := h.cell (c := 0) hi (by decide)
  have h1 := h.cell (c := 1) hi (by decide)
  have h2 := h.cell (c := 2) hi (by decide)
  rw [e] at h0 h1 h2
  exact ⟨h0.1, h1.1, h2.1, h0.2, h1.2, h2.2⟩
theorem row_cells {w : World} {blk off : Nat} {d : Array MoveD} (h : Go.Sort.HoldsK mc 3 w blk off d) {t : Nat} (ht : t < d.size * 3) : (w.cell? ⟨blk, off + t, none⟩).isSome = true ∧ w.frozen? ⟨blk, off + t, none⟩ = false := by
  have h1 := h t (by rw [Go.Sort.size_flatK]; exact ht)
  exact ⟨by rw [h1.1]; rfl, h1.2⟩
def CompPost (blk off cap : Nat) (d : Array MoveD) (w : World) (e : Ending) (w' : World) : Prop :=
  e = .returned (.slice (some ⟨blk, off, none⟩) (Go.Lib.compactUpTo d d.size).length cap) ∧ ∃ q, w' = Go.Sort.putRowK mc 3 (Go.Sort.ahead w q) blk off (Go.Lib.compactUpTo d d.size ++ List.replicate (d.size - (Go.Lib.compactUpTo d d.size).length) zm).toArray
theorem comp_same {w : World} {blk off : Nat} {d : Array MoveD} (hH : Go.Sort.HoldsK mc 3 w blk off d) (q : Nat) (hall : ∀ j, j < d.size → Go.Lib.keeps d j = true) :
    (Go.Lib.compactUpTo d d.size).length = d.size ∧ w.drewN q = Go.Sort.putRowK mc 3 (Go.Sort.ahead w q) blk off (Go.Lib.compactUpTo d d.size ++ List.replicate (d.size - (Go.Lib.compactUpTo d d.size).length) zm).toArray := by
  have e : Go.Lib.compactUpTo d d.size = d.toList := by rw [Go.Lib.compactUpTo_all d _ hall, Go.Lib.range_map_get]
  rw [e]
  refine ⟨by simp, ?_⟩
  simp only [Array.length_toList, Nat.sub_self, List.replicate_zero, List.append_nil, Array.toArray_toList]
  exact (Go.Sort.putRowK_self mc 3 (Go.Sort.ahead w q) blk off d (Go.Sort.holdsK_ahead mc 3 w q blk off d hH)).symm
set_option maxHeartbeats 8000000 in
theorem compact_moves (blk off cap : Nat) (d : Array MoveD) (w : World) (hH : Go.Sort.HoldsK mc 3 w blk off d) (hsz : d.size ≤ 1000) (hcap : d.size ≤ cap) :
    Calls Try.prog 65 #[.slice (some ⟨blk, off, none⟩) d.size cap] w (CompPost blk off cap d w) := by
  obtain ⟨n, hn⟩ : ∃ n, n = d.size := ⟨_, rfl⟩
  have HS : Hid (∀ q, (∀ j, j < n → Go.Lib.keeps d j = true) → (Go.Lib.compactUpTo d d.size).length = n ∧ w.drewN q = Go.Sort.putRowK mc 3 (Go.Sort.ahead w q) blk off (Go.Lib.compactUpTo d d.size ++ List.replicate (d.size - (Go.Lib.compactUpTo d d.size).length) zm).toArray) := Lib.hid (fun q h => by
    have := comp_same hH q (by rw [← hn]; exact h)
    exact ⟨by rw [hn]; exact this.1, this.2⟩)
  have heq := eqMove
  have hne := neqMove
  have hgd := guardMove
  have HN := Lib.hid hn
  have HH := Lib.hid hH
  rw [← hn] at hsz hcap ⊢
  clear hn hH
  by_cases h2 : n < 2
  · go_enter Try.func65, Try.ntmps65
    go_wp2
    go_ret
    obtain ⟨e1, e2⟩ := HS.out 0 (fun j hj => Go.Lib.keeps_lt_one d j (by omega))
    exact ⟨by rw [e1]; rfl, 0, e2⟩
  · go_enter Try.func65, Try.ntmps65
    go_wp2
    go_loopg [3] n (fun g s3 wr => ∃ k q : Nat, 1 ≤ k ∧ k ≤ n ∧ n - k ≤ g ∧ s3 = .int .i64 k ∧ wr = w.drewN q ∧ Hid (∀ j, j < k → Go.Lib.keeps d j = true))
    case atStart => exact ⟨1, 0, Nat.le_refl _, by omega, by omega, rfl, rfl, Lib.hid (Go.Lib.keeps_lt_one d)⟩
    case round =>
      obtain ⟨k, q, hk1, hk, hg, rfl, rfl, hall⟩ := hrel
      by_cases hlt : k < n
      · obtain ⟨⟨xa, xb, xc⟩, hx⟩ : ∃ x, d[k]! = x := ⟨_, rfl⟩
        obtain ⟨⟨ya, yb, yc⟩, hy⟩ : ∃ x, d[k - 1]! = x := ⟨_, rfl⟩
        obtain ⟨c1, c2, c3, f1, f2, f3⟩ := row_cell (Go.Sort.holdsK_ahead mc 3 w q blk off d HH.out) (by rw [← HN.out]; exact hlt) hx
        obtain ⟨e1, e2, e3, _⟩ := row_cell (Go.Sort.holdsK_ahead mc 3 w q blk off d HH.out) (i := k - 1) (by rw [← HN.out]; omega) hy
        have B := Lib.hid (And.intro hx hy)
        clear hx hy f1 f2 f3
        change (w.drewN q).cell? _ = _ at c1 c2 c3 e1 e2 e3
        generalize hwq : w.drewN q = wq at c1 c2 c3 e1 e2 e3 ⊢
        have HWQ := Lib.hid hwq
        clear hwq
        by_cases hdup : ((xa, xb, xc) : MoveD) = (ya, yb, yc)
        · have hd : sameM (xa, xb, xc) (ya, yb, yc) = true := sameM_eq hdup
          have KK : Hid (Go.Lib.keeps d k = false) := Lib.hid (Go.Lib.keeps_neg (by omega) (by rw [B.out.1, B.out.2]; exact hdup))
          clear hdup B
          go_wp2
          go_quiet (fail)
          go_wp2
          clear c1 c2 c3 e1 e2 e3
          go_loopg [3, 5] n (fun g s3 s5 wr => ∃ (kk k2 q2 : Nat) (dk : Array MoveD), s3 = .int .i64 kk ∧ s5 = .int .i64 k2 ∧ 1 ≤ k2 ∧ k + k2 ≤ n ∧ n - (k + k2) ≤ g ∧ Hid (wr = Go.Sort.putRowK mc 3 (Go.Sort.ahead w q2) blk off dk) ∧ Hid (Go.Lib.CompInv d (k + k2) kk dk))
          case atStart => exact ⟨k, 1, q + nq, d, rfl, rfl, Nat.le_refl _, by omega, by omega, Lib.hid (by rw [← HWQ.out, World.drewN_drewN]; exact (Go.Sort.putRowK_self mc 3 (Go.Sort.ahead w (q + nq)) blk off d (Go.Sort.holdsK_ahead mc 3 w (q + nq) blk off d HH.out)).symm), Lib.hid (Go.Lib.CompInv.start hall.out KK.out)⟩
          case round =>
            obtain ⟨kk, k2, q2, dk, rfl, rfl, h1, hle, hg2, hwr, hI⟩ := hrel
            have hkk := hI.out.lt
            have hds := hI.out.size
            have hHk : Hid (Go.Sort.HoldsK mc 3 wr blk off dk) := Lib.hid (by rw [hwr.out]; exact Go.Sort.holdsK_putRowK mc 3 _ blk off d dk (Go.Sort.holdsK_ahead mc 3 w q2 blk off d HH.out) hds)
            rw [← HN.out] at hds
            by_cases hlt2 : k + k2 < n
            · have hm1 := hI.out.high (k + k2) (by omega)
              have hm2 := hI.out.high (k + k2 - 1) (by omega)
              obtain ⟨⟨ua, ub, uc⟩, hu⟩ : ∃ x, d[k + k2]! = x := ⟨_, rfl⟩
              obtain ⟨⟨va, vb, vc⟩, hv⟩ : ∃ x, d[k + k2 - 1]! = x := ⟨_, rfl⟩
              obtain ⟨⟨oa, ob, oc⟩, ho⟩ : ∃ x, dk[kk]! = x := ⟨_, rfl⟩
              obtain ⟨c1, c2, c3, _⟩ := row_cell hHk.out (i := k + k2) (by omega) (hm1.trans hu)
              obtain ⟨e1, e2, e3, _⟩ := row_cell hHk.out (i := k + k2 - 1) (by omega) (hm2.trans hv)
              obtain ⟨o1, o2, o3, f1, f2, f3⟩ := row_cell hHk.out (i := kk) (by omega) ho
              rw [show off + (k + k2) * 3 = off + k * 3 + k2 * 3 by omega] at c1 c2 c3
              rw [show off + (k + k2 - 1) * 3 = off + k * 3 + (k2 - 1) * 3 by omega] at e1 e2 e3
              have CU := Lib.hid (And.intro hu hv)
              have HDS := Lib.hid hds
              clear hm1 hm2 hu hv ho hHk hds
              by_cases huv : ((ua, ub, uc) : MoveD) = (va, vb, vc)
              · have hd2 : sameM (ua, ub, uc) (va, vb, vc) = true := sameM_eq huv
                have KS : Hid (Go.Lib.CompInv d (k + (k2 + 1)) kk dk) := Lib.hid (hI.out.skip (Go.Lib.keeps_neg (by omega) (by rw [CU.out.1, CU.out.2]; exact huv)))
                clear huv CU hI o1 o2 o3 f1 f2 f3
                go_wp2
                go_quiet (fail)
                go_wp2
                go_roundg (n - (k + (k2 + 1)))
                case measure => omega
                case rel => exact ⟨kk, k2 + 1, q2 + nq, dk, rfl, by go_num, by omega, by omega, Nat.le_refl _, Lib.hid (by rw [hwr.out]; exact Go.Sort.putRowK_drewN mc 3 w q2 nq blk off dk), KS⟩
              · have hd2 : sameM (ua, ub, uc) (va, vb, vc) = false := sameM_ne huv
                have KS : Hid (Go.Lib.CompInv d (k + (k2 + 1)) (kk + 1) (dk.setIfInBounds kk (ua, ub, uc))) := Lib.hid (by
                  have h := hI.out.keep (by rw [← HN.out]; exact hlt2) (Go.Lib.keeps_pos (by rw [CU.out.1, CU.out.2]; exact huv))
                  rw [CU.out.1] at h; exact h)
                clear huv CU hI
                go_wp2
                go_quiet (fail)
                go_wp2
                go_roundg (n - (k + (k2 + 1)))
                case measure => omega
                case rel => exact ⟨kk + 1, k2 + 1, q2 + nq, dk.setIfInBounds kk (ua, ub, uc), by go_num, by go_num, by omega, by omega, Nat.le_refl _, Lib.hid (by rw [hwr.out, Go.Sort.putRowK_drewN mc 3 w q2 nq blk off dk]; exact put_move (by have := HDS.out; omega) (ua, ub, uc)), KS⟩
            · have hend : k + k2 = n := by omega
              have hcl : ∀ ty, (Builtin.clear_ #[37] ty #[.slice (some ⟨blk, off + kk * 3, none⟩) (n - kk) (cap - kk)]).run Try.prog wr = .ok (.tuple #[]) (wr.setCells blk (off + kk * 3) (mcs (List.replicate (n - kk) zm))) := fun ty =>
                run_clear_moves wr ty blk (off + kk * 3) (n - kk) (cap - kk) (by omega) (fun j hj => by rw [Nat.add_assoc]; exact (row_cells hHk.out (by omega)).1) (fun j hj => by rw [Nat.add_assoc]; exact (row_cells hHk.out (by omega)).2)
              have HE : Hid ((Go.Lib.compactUpTo d d.size).length = kk) := Lib.hid (by have := hI.out.len; rwa [hend, HN.out] at this)
              have HW : Hid (wr.setCells blk (off + kk * 3) (mcs (List.replicate (n - kk) zm)) = Go.Sort.putRowK mc 3 (Go.Sort.ahead w q2) blk off (Go.Lib.compactUpTo d d.size ++ List.replicate (d.size - (Go.Lib.compactUpTo d d.size).length) zm).toArray) := Lib.hid (by
                have hi2 := hI.out
                rw [hend, HN.out] at hi2
                rw [HE.out, ← hi2.done zm, hwr.out, put_moves _ blk off _ dk kk (by simp; omega), HN.out])
              clear hI hHk hwr
              go_wp2
              go_ret
              exact ⟨by rw [HE.out]; rfl, q2, HW.out⟩
        · have hd : sameM (xa, xb, xc) (ya, yb, yc) = false := sameM_ne hdup
          have KA : Hid (∀ j, j < k + 1 → Go.Lib.keeps d j = true) := Lib.hid (fun j hj => by
            by_cases e : j = k
            · subst e; exact Go.Lib.keeps_pos (by rw [B.out.1, B.out.2]; exact hdup)
            · exact hall.out j (by omega))
          clear hdup
          go_wp2
          go_quiet (fail)
          go_wp2
          go_roundg (n - (k + 1))
          case measure => omega
          case rel => exact ⟨k + 1, q + nq, by omega, by omega, Nat.le_refl _, by go_num, by rw [← HWQ.out, World.drewN_drewN], KA⟩
      · obtain rfl : k = n := by omega
        go_wp2
        go_ret
        obtain ⟨e1, e2⟩ := HS.out q hall.out
        exact ⟨by rw [e1]; rfl, q, e2⟩

/-! ### What a sorted row is compacted to -/
def nth0 (S : List Int) (j : Nat) : Int := S[j]?.getD 0
theorem row_get (S : List Int) (src : Int) (kf : Int → Int) {j : Nat} (hj : j < S.length) : (S.map (mvF src kf)).toArray[j]! = mvF src kf (nth0 S j) := by
  simp [hj, nth0]
theorem comp_facts (S : List Int) (src : Int) (kf : Int → Int) (hS : ∀ i j, i ≤ j → j < S.length → nth0 S i ≤ nth0 S j) : ∀ m, m ≤ S.length →
    (∀ x ∈ Go.Lib.compactUpTo (S.map (mvF src kf)).toArray m, ∃ j, j < m ∧ x = mvF src kf (nth0 S j)) ∧
    ((Go.Lib.compactUpTo (S.map (mvF src kf)).toArray m).map fun x => x.2.1).Pairwise (· < ·) ∧
    ∀ j, j < m → nth0 S j ∈ (Go.Lib.compactUpTo (S.map (mvF src kf)).toArray m).map fun x => x.2.1
  | 0, _ => by simp [Go.Lib.compactUpTo]
  | m + 1, hm => by
    obtain ⟨h1, h2, h3⟩ := comp_facts S src kf hS m (by omega)
    rw [Go.Lib.compactUpTo_succ, row_get S src kf (by omega)]
    by_cases hk : Go.Lib.keeps (S.map (mvF src kf)).toArray m = true
    · rw [if_pos hk]
      refine ⟨fun x hx => ?_, ?_, fun j hj => ?_⟩
      · rcases List.mem_append.1 hx with h | h
        · obtain ⟨j, hj, e⟩ := h1 x h; exact ⟨j, by omega, e⟩
        · rw [List.mem_singleton] at h; exact ⟨m, by omega, h⟩
      · rw [List.map_append, List.pairwise_append]
        refine ⟨h2, by simp, fun a ha b hb => ?_⟩
        have hb2 : b = nth0 S m := by simpa [mvF] using hb
        obtain ⟨x, hx, rfl⟩ := List.mem_map.1 ha
        obtain ⟨j, hj, rfl⟩ := h1 x hx
        have h4 : (mvF src kf (nth0 S j)).2.1 = nth0 S j := rfl
        rw [h4, hb2]
        have h5 : nth0 S j ≤ nth0 S (m - 1) := hS j (m - 1) (by omega) (by omega)
        have h6 : nth0 S (m - 1) ≤ nth0 S m := hS (m - 1) m (by omega) (by omega)
        have h7 : nth0 S m ≠ nth0 S (m - 1) := by
          intro e
          unfold Go.Lib.keeps at hk
          rw [row_get S src kf (by omega), row_get S src kf (by omega), e] at hk
          simp at hk
          omega
        omega
      · rw [List.map_append]
        by_cases e : j = m
        · subst e; exact List.mem_append.2 (.inr (by simp [mvF]))
        · exact List.mem_append.2 (.inl (h3 j (by omega)))
    · rw [if_neg hk, List.append_nil]
      refine ⟨fun x hx => ?_, h2, fun j hj => ?_⟩
      · obtain ⟨j, hj, e⟩ := h1 x hx; exact ⟨j, by omega, e⟩
      · by_cases e : j = m
        · subst e
          have h4 : j ≠ 0 ∧ mvF src kf (nth0 S j) = mvF src kf (nth0 S (j - 1)) := by
            unfold Go.Lib.keeps at hk
            rw [row_get S src kf (by omega), row_get S src kf (by omega)] at hk
            simp at hk
            exact hk
          have h5 : nth0 S j = nth0 S (j - 1) := congrArg (fun x : MoveD => x.2.1) h4.2
          rw [h5]
          exact h3 (j - 1) (by omega)
        · exact h3 j (by omega)
theorem sortTo_asc (zs : List Int) : ∀ i j, i ≤ j → j < (sortTo zs).length → nth0 (sortTo zs) i ≤ nth0 (sortTo zs) j := by
  intro i j hij hj
  have hp : (sortTo zs).Pairwise (fun x y => (!(ltOf toCmp) y x) = true) := List.pairwise_mergeSort (le := fun x y => !(ltOf toCmp) y x) (fun a b c h1 h2 => by rw [ltTo] at *; simp at *; omega) (fun a b => by rw [ltTo, ltTo]; simp; omega) zs
  by_cases e : i = j
  · subst e; exact Int.le_refl _
  · have h := List.pairwise_iff_getElem.1 hp i j (by omega) hj (by omega)
    rw [ltTo] at h
    simp only [nth0, List.getElem?_eq_getElem hj, List.getElem?_eq_getElem (show i < (sortTo zs).length by omega), Option.getD_some]
    simpa using h
theorem sortTo_mem (zs : List Int) (x : Int) : x ∈ sortTo zs ↔ x ∈ zs := (List.mergeSort_perm zs _).mem_iff
theorem sortTo_len (zs : List Int) : (sortTo zs).length = zs.length := by rw [sortTo, List.length_mergeSort]
theorem comp_sorted {p : PlaceD} (zs : List Int) (src : Int) (kf : Int → Int) (hz : ∀ t ∈ zs, t ∈ squares p) :
    Go.Lib.compactUpTo ((sortTo zs).map (mvF src kf)).toArray zs.length = ((squares p).filter fun t => decide (t ∈ zs)).map (mvF src kf) := by
  obtain ⟨h1, h2, h3⟩ := comp_facts (sortTo zs) src kf (sortTo_asc zs) zs.length (by rw [sortTo_len]; exact Nat.le_refl _)
  generalize Go.Lib.compactUpTo ((sortTo zs).map (mvF src kf)).toArray zs.length = L at h1 h2 h3 ⊢
  have e1 : L.map (fun x => x.2.1) = (squares p).filter fun t => decide (t ∈ zs) := by
    refine asc_ext h2 ((squares_asc p).sublist List.filter_sublist) fun x => ?_
    rw [List.mem_filter, decide_eq_true_eq]
    constructor
    · intro hx
      obtain ⟨y, hy, rfl⟩ := List.mem_map.1 hx
      obtain ⟨j, hj, rfl⟩ := h1 y hy
      have hm : nth0 (sortTo zs) j ∈ zs := by
        rw [← sortTo_mem, nth0, List.getElem?_eq_getElem (by rw [sortTo_len]; exact hj)]
        exact List.getElem_mem _
      exact ⟨hz _ hm, hm⟩
    · rintro ⟨_, hx⟩
      rw [← sortTo_mem] at hx
      obtain ⟨j, hj⟩ := List.getElem?_of_mem hx
      have hjl := (List.getElem?_eq_some_iff.1 hj).1
      have h := h3 j (by rw [sortTo_len] at hjl; exact hjl)
      rw [nth0, hj] at h
      exact h
  rw [← e1, List.map_map]
  symm
  have e2 : L.map (mvF src kf ∘ fun x => x.2.1) = L.map id := by
    apply List.map_congr_left
    intro x hx
    obtain ⟨j, _, rfl⟩ := h1 x hx
    rfl
  rw [e2, List.map_id]
theorem comp_len (ms : List MoveD) (n : Nat) : (Go.Lib.compactUpTo ms.toArray n).length ≤ n := by
  rw [Go.Lib.compactUpTo, List.length_map]
  have := List.length_filter_le (Go.Lib.keeps ms.toArray) (List.range n)
  simpa using this
theorem compact_own {w : World} {base n : Nat} {v : Value} {ms : List MoveD} (h : w.ownsRow base 31 3 v n (mcs ms)) (hn : 1 ≤ n) (h64 : n ≤ 1000) :
    Calls Try.prog 65 #[v] w fun en w' => ∃ a m c, en = .returned (.slice a m c) ∧ IsSl MoveAt 3 w' (.slice a m c) (Go.Lib.compactUpTo ms.toArray n) ∧ (a = none → m = 0 ∧ c = 0) ∧ ∀ w0, Below base w0 w → base ≤ w.heap.size → Below base w0 w' := by
  have hl : ms.length = n := by have := h.1; rw [mcs_length] at this; omega
  rcases h.2 with ⟨_, h0⟩ | ⟨g, cap, cur, rfl, hb, hg, hnc, hcm, hcs, ht⟩
  · omega
  · have hle := comp_len ms n
    have hH : Go.Sort.HoldsK mc 3 w g 0 ms.toArray := by
      unfold Go.Sort.HoldsK
      rw [flat_moves]
      exact holds_of_row hg (by rw [mcs_length, hl]; exact ht)
    have hcon := compact_moves g 0 cap ms.toArray w hH (by simp; omega) (by simp; omega)
    have hsz : ms.toArray.size = n := by simpa using hl
    rw [hsz] at hcon
    refine hcon.mono ?_
    rintro en w' ⟨rfl, q, rfl⟩
    rw [hsz]
    have hcl : (Go.Lib.compactUpTo ms.toArray n ++ List.replicate (n - (Go.Lib.compactUpTo ms.toArray n).length) zm).length = n := by
      rw [List.length_append, List.length_replicate]; omega
    have hw : Go.Sort.putRowK mc 3 (Go.Sort.ahead w q) g 0 (Go.Lib.compactUpTo ms.toArray n ++ List.replicate (n - (Go.Lib.compactUpTo ms.toArray n).length) zm).toArray = Go.Sort.grow (Go.Sort.putRow id (Go.Sort.ahead w q) g 0 (mcs (Go.Lib.compactUpTo ms.toArray n ++ List.replicate (n - (Go.Lib.compactUpTo ms.toArray n).length) zm)).toArray) #[] := by
      unfold Go.Sort.putRowK
      rw [flat_moves, Go.Sort.grow_empty]
    rw [hw]
    have ho := ownsRow_put (w := w) (base := base) (g := g) (cap := cap) (n := n) (q := q) (os := #[]) (ts := mcs (Go.Lib.compactUpTo ms.toArray n ++ List.replicate (n - (Go.Lib.compactUpTo ms.toArray n).length) zm)) (by rw [mcs_length, hcl]) hb hg hnc hcm hcs
    have hI := moves_of_owns ho
    refine ⟨_, _, _, rfl, ?_, (fun h => by cases h), fun w0 hB hle => hB.grown (grownBy_put _) hle (fun k e => by cases e; exact hb)⟩
    have h2 := hI.part (Go.Lib.compactUpTo ms.toArray n).length hle
    rwa [List.take_left] at h2
end Go.Proofs.Ythbilpgecombiaa
