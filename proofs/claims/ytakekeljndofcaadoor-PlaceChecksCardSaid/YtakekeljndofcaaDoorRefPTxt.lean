/- The reference's PlaceText: the text of a position. -/
import Derived.Test.YtakekeljndofcaaDoorPlcT
import Derived.Test.YtakekeljndofcaaDoorRefLet
import Derived.Test.YtakekeljndofcaaDoorRefPErr
import Derived.Test.YtakekeljndofcaaDoorHeld
import Derived.Test.YtakekeljndofcaaDoorPHand
import Derived.Deep.RegionHeld3
import Derived.BigQuiet
set_option maxRecDepth 100000
namespace Go.Proofs.YtakekeljndofcaaDoor
open Go.ChangeShapes Go.WideShapes Go.ChangeAt Go.RowKit Go.Deep

theorem numS_len4 {n : Int} (h : 0 ≤ n) (h2 : n ≤ 1000) : (numS n).size ≤ 4 := by rw [numS, str_size]; exact num_len4 h h2
theorem dec_all (n : Int) (h : 0 ≤ n) (h2 : n ≤ 1000) (w : World) : Calls Tryd.prog 22 #[.int .i64 n] w fun e w' => e = .returned (.string (numS n)) ∧ w' = w := by
  by_cases h9 : n ≤ 200
  · exact dec_any n (by omega) h9 w
  · obtain ⟨k, rfl⟩ := Int.eq_ofNat_of_zero_le h
    have HI : Hid (∀ w, Calls Tryd.prog 22 #[.int .i64 ((k : Int) / 10)] w fun e w' => e = .returned (.string (numS ((k : Int) / 10))) ∧ w' = w) := Lib.hid (fun w => dec_any _ (by omega) (by omega) w)
    have HJ : Hid (∀ w, Calls Tryd.prog 22 #[.int .i64 ((k : Int) % 10)] w fun e w' => e = .returned (.string (numS ((k : Int) % 10))) ∧ w' = w) := Lib.hid (fun w => dec_any _ (by omega) (by omega) w)
    have HN : Hid (numS k = numS ((k : Int) / 10) ++ numS ((k : Int) % 10)) := Lib.hid (by rw [numS, num_big (by omega), ← str_app]; rfl)
    have z1 : (numS ((k : Int) / 10)).size ≤ 4 := numS_len4 (by omega) (by omega)
    have z2 : (numS ((k : Int) % 10)).size ≤ 4 := numS_len4 (by omega) (by omega)
    have h10 : (10 : Int) ≤ (k : Int) := by omega
    go_enter Tryd.func22, Tryd.ntmps22
    go_wp2_with fail
    go_at_call 22; refine (HI.out _).mono ?_; rintro e w' ⟨rfl, rfl⟩
    go_wp2_with fail
    go_at_call 22; refine (HJ.out _).mono ?_; rintro e w' ⟨rfl, rfl⟩
    go_wp2_with fail
    go_ret
    exact ⟨by rw [HN.out]; rfl, rfl⟩
/-- What is written of the first x squares of a row (the W+1st: its end). -/
def gapAt (ps : List PieceD) (row : List Int) (x : Nat) : List UInt8 × Nat := if x ≤ row.length then gapGo ps (row.take x) else (rowG ps row, 0)
/-- What stands ahead of the next row. -/
def ahead (D : List (List UInt8)) : List UInt8 := if D = [] then [] else Lib.join D [47] ++ [47]
theorem join_snoc (D : List (List UInt8)) (x : List UInt8) : Lib.join (D ++ [x]) [47] = ahead D ++ x := by
  cases D with
  | nil => simp [ahead, Lib.join_one]
  | cons d D =>
    have ht : ∀ D : List (List UInt8), Lib.joinTail [47] (D ++ [x]) = Lib.joinTail [47] D ++ [47] ++ x := by
      intro D
      induction D with
      | nil => simp [Lib.joinTail]
      | cons y r ih => simp [Lib.joinTail]
    rw [List.cons_append, Lib.join_cons, ht, ahead, if_neg (by simp), Lib.join_cons]
    simp
theorem gapAt_zero (ps : List PieceD) (row : List Int) : gapAt ps row 0 = ([], 0) := by simp [gapAt, gapGo]
theorem gapAt_gap {ps : List PieceD} {row : List Int} {x : Nat} (h : row[x]? = some 0) : gapAt ps row (x + 1) = ((gapAt ps row x).1, (gapAt ps row x).2 + 1) := by
  have hx := (List.getElem?_eq_some_iff.1 h).1
  rw [gapAt, if_pos (by omega), gapGo_succ h, gapStep, if_pos rfl, gapAt, if_pos (by omega)]
theorem gapAt_piece {ps : List PieceD} {row : List Int} {x : Nat} {c : Int} (h : row[x]? = some c) (hc : c ≠ 0) : gapAt ps row (x + 1) = ((gapAt ps row x).1 ++ dig (gapAt ps row x).2 ++ [cellB ps c], 0) := by
  have hx := (List.getElem?_eq_some_iff.1 h).1
  rw [gapAt, if_pos (by omega), gapGo_succ h, gapStep, if_neg hc, gapAt, if_pos (by omega)]
theorem gapAt_end (ps : List PieceD) (row : List Int) : gapAt ps row (row.length + 1) = ((gapAt ps row row.length).1 ++ dig (gapAt ps row row.length).2, 0) := by
  rw [gapAt, if_neg (by omega), gapAt, if_pos (Nat.le_refl _), List.take_length]; rfl
theorem gapAt_len (ps : List PieceD) (row : List Int) (x : Nat) : (gapAt ps row x).1.length + (gapAt ps row x).2 ≤ row.length := by
  unfold gapAt
  split
  · have h := (gapGo_len ps (row.take x) ([], 0)).1
    have e : (row.take x).foldl (gapStep ps) ([], 0) = gapGo ps (row.take x) := rfl
    rw [e, List.length_take] at h
    simp at h; omega
  · have := rowG_len ps row; simpa using this
theorem dig_num {g : Nat} (h : g ≠ 0) (h9 : g ≤ 9) : dig g = num (g : Int) := by
  rw [dig, if_neg h, num_digit (by omega) (by omega), Int.toNat_natCast]
/-! ### The walk -/
theorem rowsT_split2 {ps : List PieceD} {W : Nat} {cs : List Int} {H k : Nat} {D : List (List UInt8)} (h : D ++ rowsT ps W cs (k + 1) = rowsT ps W cs H) : (D ++ [rowT ps W cs k]) ++ rowsT ps W cs k = rowsT ps W cs H := by
  rw [← h, rowsT]; simp
theorem join_rows_len {ps : List PieceD} {W : Nat} {cs : List Int} {H k : Nat} {D : List (List UInt8)} (hW : W ≤ 8) (hH : H ≤ 8) (h : D ++ rowsT ps W cs k = rowsT ps W cs H) : (Lib.join D [47]).length ≤ 72 := by
  have h1 := join_len [47] 8 (ws := D) (fun x hx => by
    have : x ∈ rowsT ps W cs H := by rw [← h]; exact List.mem_append_left _ hx
    obtain ⟨y, _, rfl⟩ := rowsT_mem this
    have := rowT_len ps W cs y; omega)
  have h2 : D.length ≤ H := by have := congrArg List.length h; rw [List.length_append, rowsT_length, rowsT_length] at this; omega
  have h3 : D.length * (8 + ([47] : List UInt8).length) ≤ 8 * 9 := Nat.mul_le_mul_right 9 (by omega)
  omega
set_option maxHeartbeats 32000000 in
theorem placeText_any (r : RulesD) (p : PlaceD) (vp vs ve vc v0 v1 : Value) (w : World) (hr : RulesIn w r vp vs ve) (hp : PlaceIn w p vc v0 v1) (hok : POkay r p) :
    Calls Tryd.prog 9 #[RulesV r vp vs ve, PlaceV p vc v0 v1] w (StrP (placeT r p) w) := by
  have hro := rOk hok.e
  have hcap : ∀ x ∈ r.pieces, 65 ≤ x.letter ∧ x.letter ≤ 90 := fun x hx => (hro.ps x hx).1
  obtain ⟨W, hW⟩ := Int.eq_ofNat_of_zero_le (show 0 ≤ r.width by have := hro.w1; omega)
  obtain ⟨H, hH⟩ := Int.eq_ofNat_of_zero_le (show 0 ≤ r.height by have := hro.h1; omega)
  obtain ⟨hW1, hW8⟩ : 1 ≤ W ∧ W ≤ 8 := by have := hro.w1; have := hro.w2; omega
  obtain ⟨hH1, hH8⟩ : 1 ≤ H ∧ H ≤ 8 := by have := hro.h1; have := hro.h2; omega
  obtain ⟨A, hA⟩ : ∃ A : Nat, A = p.cells.length := ⟨_, rfl⟩
  have hAA : A = W * H := by have hcl := hok.cl; rw [hW, hH, ← hA, ← Int.natCast_mul] at hcl; exact Int.ofNat_inj.1 hcl
  have hA0 : 0 < A := by rw [hAA]; exact Nat.mul_pos (by omega) (by omega)
  have hA64 : A ≤ 64 := by rw [hAA]; exact Nat.mul_le_mul hW8 hH8
  obtain ⟨ac, cs, rfl, hcp, hat⟩ := hp.c.shape hA
  obtain ⟨gc, oc, x, rfl, -⟩ := hat 0 hA0
  obtain ⟨n, hn⟩ : ∃ n : Nat, n = r.pieces.length := ⟨_, rfl⟩
  have hn6 : n ≤ 6 := by rw [hn]; exact hro.p6
  obtain ⟨ap, cp, rfl, hcpp, pat⟩ := hr.1.1.shape hn
  obtain ⟨a0, c0', rfl, hcp0, ha0⟩ := hp.a.shape (hn.trans hok.l0.symm)
  obtain ⟨a1, c1', rfl, hcp1, ha1⟩ := hp.b.shape (hn.trans hok.l1.symm)
  have HPT : Hid (∀ k, k < n → ∃ g off x, ap = some ⟨g, off, none⟩ ∧ (65 ≤ x.letter ∧ x.letter ≤ 90) ∧ r.pieces[k]? = some x ∧ ∀ V, Below w.heap.size w V → V.cell? ⟨g, off + k * 4, none⟩ = some (.int .u8 x.letter)) := Lib.hid (fun k hk => by
    obtain ⟨g, off, x, e, hx, u, hq, _⟩ := pat k hk
    exact ⟨g, off, x, e, hcap x (List.mem_of_getElem? hx), hx, fun V hV => cell_keeps hV (Nat.le_refl _) hq⟩)
  have hgen : ∀ {a : Option Addr} {N : Nat} {xs : List Int} (hxs : ∀ c ∈ xs, 0 ≤ c ∧ c ≤ 1000) (hat : ∀ j, j < N → ∃ g off x, a = some ⟨g, off, none⟩ ∧ xs[j]? = some x ∧ IntAt w g (off + j * 1) x), ∀ k, k < N → ∃ g off x, a = some ⟨g, off, none⟩ ∧ (0 ≤ x ∧ x ≤ 1000) ∧ xs[k]? = some x ∧ ∀ V, Below w.heap.size w V → V.cell? ⟨g, off + k, none⟩ = some (.int .i64 x) := fun hxs hat k hk => by
    obtain ⟨g, off, x, e, hx, hq⟩ := hat k hk
    refine ⟨g, off, x, e, hxs x (List.mem_of_getElem? hx), hx, fun V hV => ?_⟩
    have := cell_keeps hV (Nat.le_refl _) hq
    rwa [Nat.mul_one] at this
  have HCP := Lib.hid hcpp
  have HA0 := Lib.hid (hgen hok.n0 ha0)
  have HA1 := Lib.hid (hgen hok.n1 ha1)
  have HLE0 : Hid (∀ k, (handTo r.pieces p.h0 k).length ≤ k * 5) := Lib.hid (fun k => handTo_len hok.n0 k)
  have HLE1 : Hid (∀ k, (handTo r.pieces p.h1 k).length ≤ k * 5) := Lib.hid (fun k => handTo_len hok.n1 k)
  have HH0 : Hid (handTo r.pieces p.h0 n = handL r.pieces p.h0) := Lib.hid (by have := handTo_all hok.l0; rwa [hok.l0, ← hn] at this)
  have HH1 : Hid (handTo r.pieces p.h1 n = handL r.pieces p.h1) := Lib.hid (by have := handTo_all hok.l1; rwa [hok.l1, ← hn] at this)
  have HAT : Hid (∀ m, m < A → ∃ c : Int, c = c ∧ p.cells[m]? = some c ∧ ∀ V, Below w.heap.size w V → V.cell? ⟨gc, oc + m, none⟩ = some (.int .i64 c)) := Lib.hid (fun m hm => by
    obtain ⟨g, o, y, e, hy, hq⟩ := hat m hm
    simp only [Option.some.injEq, Addr.mk.injEq, and_true] at e
    obtain ⟨rfl, rfl⟩ := e
    refine ⟨y, rfl, hy, fun V hV => ?_⟩
    have := cell_keeps hV (Nat.le_refl _) hq
    rwa [Nat.mul_one] at this)
  have hPA : ∀ y, y < H → y * W + W ≤ A := fun y hy => by rw [hAA, ← Nat.succ_mul, Nat.mul_comm W H]; exact Nat.mul_le_mul_right W (by omega)
  have HPA := Lib.hid hPA
  have HCS := Lib.hid hok.cs
  have HLT : Hid (∀ c V, 0 < c → c ≤ 2 * (r.pieces.length : Int) → Below w.heap.size w V → Calls Tryd.prog 23 #[RulesV r (.slice ap n cp) vs ve, .int .i64 c] V fun e w' => e = .returned (.string (str [cellB r.pieces c])) ∧ Below V.heap.size V w') := Lib.hid (fun c V h0 h1 hV => letterRef_any r _ vs ve c V (hr.below hV (Nat.le_refl _)).1 hro.p6 (by omega) h1 hcap)
  have HJL : Hid (∀ (D : List (List UInt8)) k, D ++ rowsT r.pieces W p.cells k = rowsT r.pieces W p.cells H → (Lib.join D [47]).length ≤ 80) := Lib.hid (fun D k h => by have := join_rows_len hW8 hH8 h; omega)
  have HAL : Hid (∀ (D : List (List UInt8)) k, D ++ rowsT r.pieces W p.cells k = rowsT r.pieces W p.cells H → (ahead D).length ≤ 73) := Lib.hid (fun D k h => by
    have := join_rows_len hW8 hH8 h
    unfold ahead; split
    · simp
    · rw [List.length_append]; simp; omega)
  have HAL2 := Lib.hid hA
  have HWE := Lib.hid hW
  have HHE := Lib.hid hH
  have HOK := Lib.hid hok
  have hX : BoxR ((w.alloc (.cells (RulesCells r (.slice ap n cp) vs ve) 26)).alloc (.cells (PlaceCells p (.slice (some ⟨gc, oc, none⟩) A cs) (.slice a0 n c0') (.slice a1 n c1')) 29)) w.heap.size r (.slice ap n cp) vs ve := (boxR_new w r (.slice ap n cp) vs ve 26).below ((Below.refl _ _).alloc (Nat.le_refl _) _) (Nat.le_refl _)
  have hP : BoxP ((w.alloc (.cells (RulesCells r (.slice ap n cp) vs ve) 26)).alloc (.cells (PlaceCells p (.slice (some ⟨gc, oc, none⟩) A cs) (.slice a0 n c0') (.slice a1 n c1')) 29)) (w.heap.size + 1) p (.slice (some ⟨gc, oc, none⟩) A cs) (.slice a0 n c0') (.slice a1 n c1') := by
    have h := boxP_new (w.alloc (.cells (RulesCells r (.slice ap n cp) vs ve) 26)) p (.slice (some ⟨gc, oc, none⟩) A cs) (.slice a0 n c0') (.slice a1 n c1') 29
    rwa [World.size_alloc] at h
  have hB : Below w.heap.size w ((w.alloc (.cells (RulesCells r (.slice ap n cp) vs ve) 26)).alloc (.cells (PlaceCells p (.slice (some ⟨gc, oc, none⟩) A cs) (.slice a0 n c0') (.slice a1 n c1')) 29)) := ((Below.refl _ _).alloc (Nat.le_refl _) _).alloc (by simp) _
  obtain ⟨w1, hw1⟩ : ∃ w1, w1 = ((w.alloc (.cells (RulesCells r (.slice ap n cp) vs ve) 26)).alloc (.cells (PlaceCells p (.slice (some ⟨gc, oc, none⟩) A cs) (.slice a0 n c0') (.slice a1 n c1')) 29)) := ⟨_, rfl⟩
  have HW1 : Hid ((w.alloc (.cells #[.string r.name, .int .i64 (W : Int), .int .i64 (H : Int), .slice ap n cp, vs, .bool r.falls, .bool r.keeps, ve, .int .i64 r.blocked, .int .i64 r.quiet, .int .i64 r.rep] 26)).alloc (.cells #[.slice (some ⟨gc, oc, none⟩) A cs, .slice a0 n c0', .slice a1 n c1', .int .i64 p.turn, .int .i64 p.quiet] 29) = w1) := Lib.hid (by rw [hw1, RulesCells, hW, hH]; rfl)
  rw [← hw1] at hX hP hB
  have HX := Lib.hid hX
  have HP := Lib.hid hP
  have HB := Lib.hid hB
  unfold RulesV at HLT ⊢
  unfold PlaceV PlaceCells
  rw [hW, hH] at HLT ⊢
  clear hn pat hcpp ha0 ha1 hcp0 hcp1 hgen hr hp hok hro hcap hat hAA hA hPA hX hP hB hw1 hW hH
  go_enter Tryd.func9, Tryd.ntmps9
  go_wp2_with fail
  rw [HW1.out]
  clear HW1
  go_loopw [5, 6, 7, 8, 9, 29] (fun v5 y _ _ _ _ wr => ∃ (k : Nat) (D : List (List UInt8)) (S : ByteArray), k ≤ H ∧ y = .int .i64 ((k : Int) - 1) ∧ v5 = .string S ∧ S.size ≤ 80 ∧ Hid (S = str (Lib.join D [47]) ∧ D ++ rowsT r.pieces W p.cells k = rowsT r.pieces W p.cells H ∧ D.length + k = H) ∧ Hid (Below w1.heap.size w1 wr)) (fun _ y _ _ _ _ _ => (intOf y + 1).toNat)
  case atStart => exact ⟨H, [], ⟨#[]⟩, Nat.le_refl _, rfl, rfl, by decide, Lib.hid ⟨rfl, rfl, by simp⟩, Lib.hid (Below.refl _ _)⟩
  case round =>
    obtain ⟨k, D, S, hk, rfl, rfl, hS8, hD, hbel⟩ := hrel
    obtain ⟨x0, x1, x2, x3, x4, x5, x6, x7, x8, x9, x10⟩ := HX.out.below hbel.out (Nat.le_refl _)
    obtain ⟨l0, l1, l2, l3, l4⟩ := HP.out.below hbel.out (Nat.le_refl _)
    rw [HWE.out] at x1
    rw [HHE.out] at x2
    rcases k with _ | y
    · rw [show (((0 : Nat) : Int) - 1) = -1 from rfl]
      have HS : Hid (S = str (cellsT r.pieces W H p.cells)) := Lib.hid (by
        have h1 := hD.out.2.1
        rw [rowsT, List.append_nil] at h1
        rw [hD.out.1, h1, cellsT])
      have hs1 : S.size ≤ 80 := hS8
      clear hD hS8 hk
      go_wp2_with fail
      go_loopw [5, 11, 12, 66] (fun v5 _ _ i wr => ∃ (h : Nat) (T : ByteArray), h ≤ 2 ∧ i = .int .i64 (h : Int) ∧ v5 = .string T ∧ T.size ≤ 80 + 40 * h ∧ Hid (T = (if h = 0 then S else if h = 1 then S ++ str (32 :: handT r.pieces p.h0) else S ++ str (32 :: handT r.pieces p.h0) ++ str (32 :: handT r.pieces p.h1))) ∧ Hid (Below w1.heap.size w1 wr)) (fun _ _ _ i _ => 2 - (intOf i).toNat)
      case atStart => exact ⟨0, S, by omega, rfl, rfl, by omega, Lib.hid rfl, hbel⟩
      case round =>
        clear hbel x0 x1 x2 x3 x4 x5 x6 x7 x8 x9 x10 l0 l1 l2 l3 l4 hs1
        obtain ⟨h, T, hh, rfl, rfl, hT8, hT, hbel⟩ := hrel
        obtain ⟨x0, x1, x2, x3, x4, x5, x6, x7, x8, x9, x10⟩ := HX.out.below hbel.out (Nat.le_refl _)
        obtain ⟨l0, l1, l2, l3, l4⟩ := HP.out.below hbel.out (Nat.le_refl _)
        obtain rfl | rfl | rfl : h = 0 ∨ h = 1 ∨ h = 2 := by omega
        · have hix := idx_two0 a0 a1 n c0' n c1'
          go_wp2_with fail
          go_loopw [12, 13, 14, 71] (fun v _ _ j V => ∃ (k : Nat) (L : ByteArray), k ≤ n ∧ j = .int .i64 (k : Int) ∧ v = .string L ∧ L.size ≤ 30 ∧ Hid (L = str (handTo r.pieces p.h0 k)) ∧ Hid (Below w1.heap.size w1 V)) (fun _ _ _ j _ => n - (intOf j).toNat)
          case atStart => exact ⟨0, ⟨#[]⟩, by omega, rfl, rfl, by decide, Lib.hid rfl, hbel⟩
          case round =>
            clear hbel x0 x1 x2 x3 x4 x5 x6 x7 x8 x9 x10 l0 l1 l2 l3 l4
            obtain ⟨k, L, hk, rfl, rfl, hL5, hL, hbel⟩ := hrel
            obtain ⟨x0, x1, x2, x3, x4, x5, x6, x7, x8, x9, x10⟩ := HX.out.below hbel.out (Nat.le_refl _)
            clear x0 x1 x2 x4 x5 x6 x7 x8 x9 x10
            by_cases hlt : k < n
            · obtain ⟨g, off, x, rfl, ⟨p0, p1⟩, hx, hcx⟩ := HPT.out k hlt
              obtain ⟨g2, off2, c, rfl, ⟨b0, b1⟩, hc, hcc⟩ := HA0.out k hlt
              have hbw := HB.out.trans (hbel.out.mono HB.out.size)
              have d0 := hcx _ hbw
              have d1 := hcc _ hbw
              have HSU : Hid (handTo r.pieces p.h0 (k + 1) = handTo r.pieces p.h0 k ++ handB x c) := Lib.hid (handTo_succ hx hc)
              have hkc : k < cp := by have := HCP.out; omega
              clear hx hc hcx hcc hbw
              by_cases hcp0 : 0 < c
              · have HHB : Hid (handB x c = lettB x ++ num c) := Lib.hid (if_pos hcp0)
                have HDC : Hid (∀ V, Calls Tryd.prog 22 #[.int .i64 c] V fun e w' => e = .returned (.string (numS c)) ∧ V = w') := Lib.hid (fun V => turned (dec_all c b0 b1 V))
                have hcv := @conv_one x.letter (by omega) (by omega)
                have zl : (str [UInt8.ofNat x.letter.toNat]).size ≤ 1 := size_one _
                have zh : (numS c).size ≤ 4 := numS_len4 b0 b1
                go_wp2_with fail
                have HLL : Hid (L ++ (str [UInt8.ofNat x.letter.toNat] ++ numS c) = str (handTo r.pieces p.h0 (k + 1))) := Lib.hid (by rw [HSU.out, HHB.out, hL.out, lettB, numS, str_app, str_app])
                refine wp_region_held_drew (S := fun w' => w'.cell? ⟨w.heap.size, 3, none⟩ = some (.slice (some ⟨g, off, none⟩) n cp) ∧ w'.cell? ⟨g, off + k * 4, none⟩ = some (.int .u8 x.letter)) (by kernel_rfl) ?_ (fun hHeld => ?_)
                · go_keep
                refine wpAnyH_take (i := 0) (v := ?_) rfl (by kernel_rfl) (by kernel_rfl) (by kernel_rfl) (fun _ _ _ h => h) (Or.inl ⟨by rfl, ?_⟩) (by assumption) ?_
                rotate_left
                · intro w hSw
                  (try dsimp only at hSw)
                  go_simp
                  all_goals first | with_reducible rfl | rw [if_neg (by omega)]
                try simp only [Act.put, List.setIfInBounds_toArray, List.set_cons_zero, List.set_cons_succ, List.getElem_toArray, List.getElem_cons_zero]
                refine wpAnyH_take (i := 1) (v := ?_) rfl (by kernel_rfl) (by kernel_rfl) (by kernel_rfl) (fun _ _ _ h => h) (Or.inl ⟨by rfl, ?_⟩) (by assumption) ?_
                rotate_left
                · intro w hSw
                  (try dsimp only at hSw)
                  go_simp
                  all_goals first | with_reducible rfl | rw [if_neg (by omega)]
                try simp only [Act.put, List.setIfInBounds_toArray, List.set_cons_zero, List.set_cons_succ, List.getElem_toArray, List.getElem_cons_zero, List.getElem_cons_succ]
                refine wpAnyH_take (i := 2) (v := ?_) rfl (by kernel_rfl) (by kernel_rfl) (by kernel_rfl) (fun _ _ _ h => h) (Or.inl ⟨by rfl, ?_⟩) (by assumption) ?_
                rotate_left
                · intro w hSw
                  (try dsimp only at hSw)
                  go_simp
                  all_goals first | with_reducible rfl | rw [if_neg (by omega)]
                try simp only [Act.put, List.setIfInBounds_toArray, List.set_cons_zero, List.set_cons_succ, List.getElem_toArray, List.getElem_cons_zero, List.getElem_cons_succ]
                refine wpAnyH_take (i := 3) (v := ?_) rfl (by kernel_rfl) (by kernel_rfl) (by kernel_rfl) (fun _ _ _ h => h) (Or.inl ⟨by rfl, ?_⟩) (by assumption) ?_
                rotate_left
                · intro w hSw
                  (try dsimp only at hSw)
                  go_simp
                  all_goals first | with_reducible rfl | rw [if_neg (by omega)]
                try simp only [Act.put, List.setIfInBounds_toArray, List.set_cons_zero, List.set_cons_succ, List.getElem_toArray, List.getElem_cons_zero, List.getElem_cons_succ]
                refine wpAnyH_take (i := 4) (v := ?_) rfl (by kernel_rfl) (by kernel_rfl) (by kernel_rfl) (fun _ _ _ h => h) (Or.inl ⟨by rfl, ?_⟩) (by assumption) ?_
                rotate_left
                · intro w hSw
                  (try dsimp only at hSw)
                  go_simp
                  all_goals first | with_reducible rfl | rw [if_neg (by omega)]
                try simp only [Act.put, List.setIfInBounds_toArray, List.set_cons_zero, List.set_cons_succ, List.getElem_toArray, List.getElem_cons_zero, List.getElem_cons_succ]
                refine wpAnyH_take (i := 5) (v := ?_) rfl (by kernel_rfl) (by kernel_rfl) (by kernel_rfl) (fun _ _ _ h => h) (Or.inl ⟨by rfl, ?_⟩) (by assumption) ?_
                rotate_left
                · intro w hSw
                  (try dsimp only at hSw)
                  go_simp
                  all_goals first | with_reducible rfl | rw [if_neg (by omega)]
                try simp only [Act.put, List.setIfInBounds_toArray, List.set_cons_zero, List.set_cons_succ, List.getElem_toArray, List.getElem_cons_zero, List.getElem_cons_succ]
                refine wpAnyH_take (i := 6) (v := ?_) rfl (by kernel_rfl) (by kernel_rfl) (by kernel_rfl) (fun _ _ _ h => h) (Or.inl ⟨by rfl, ?_⟩) (by assumption) ?_
                rotate_left
                · intro w hSw
                  (try dsimp only at hSw)
                  go_simp
                  all_goals first | with_reducible rfl | rw [if_neg (by omega)]
                try simp only [Act.put, List.setIfInBounds_toArray, List.set_cons_zero, List.set_cons_succ, List.getElem_toArray, List.getElem_cons_zero, List.getElem_cons_succ]
                refine wpAnyH_take (i := 9) (v := ?_) rfl (by kernel_rfl) (by kernel_rfl) (by kernel_rfl) (fun _ _ _ h => h) (Or.inl ⟨by rfl, ?_⟩) (by assumption) ?_
                rotate_left
                · intro w hSw
                  (try dsimp only at hSw)
                  go_simp
                  all_goals first | with_reducible rfl | rw [if_neg (by omega)]
                try simp only [Act.put, List.setIfInBounds_toArray, List.set_cons_zero, List.set_cons_succ, List.getElem_toArray, List.getElem_cons_zero, List.getElem_cons_succ]
                refine wpAnyH_ready (rs := [7, 10]) (by kernel_rfl) (by simp) (AllReadyH.cons rfl (fun K hK => ?_) (AllReadyH.cons rfl (fun K hK => ?_) AllReadyH.nil))
                · go_simp
                  refine hK.out _ _ ?_ (fun hHeld => ?_)
                  · first | exact hHeld | go_keep
                  clear hK K
                  try simp only [Act.put, List.setIfInBounds_toArray, List.set_cons_zero, List.set_cons_succ, List.getElem_toArray, List.getElem_cons_zero, List.getElem_cons_succ]
                  have hnew : ((wr.drew).alloc (.cells #[.int .u8 x.letter] 5)).cell? ⟨wr.heap.size, 0, none⟩ = some (.int .u8 x.letter) := by simp [go_sem]
                  refine held_weaken (S' := fun w' => (w'.cell? ⟨w.heap.size, 3, none⟩ = some (.slice (some ⟨g, off, none⟩) n cp) ∧ w'.cell? ⟨g, off + k * 4, none⟩ = some (.int .u8 x.letter)) ∧ w'.cell? ⟨wr.heap.size, 0, none⟩ = some (.int .u8 x.letter)) (fun _ h => h.1) _ _ _ _ ?_
                  have hHeld := And.intro hHeld hnew
                  refine wpAnyH_take (i := 8) (v := ?_) rfl (by kernel_rfl) (by kernel_rfl) (by kernel_rfl) (fun _ _ _ h => h) (Or.inl ⟨by rfl, ?_⟩) (by assumption) ?_
                  rotate_left
                  · intro w hSw
                    (try dsimp only at hSw)
                    go_simp
                    all_goals first | with_reducible rfl | rw [if_neg (by omega)]
                  try simp only [Act.put, List.setIfInBounds_toArray, List.set_cons_zero, List.set_cons_succ, List.getElem_toArray, List.getElem_cons_zero, List.getElem_cons_succ]
                  refine wpAnyH_ready (rs := [10]) (by kernel_rfl) (by simp) (AllReadyH.cons rfl (fun K hK => ?_) AllReadyH.nil)
                  go_simp
                  go_at_call 22; refine (HDC.out _).mono ?_; rintro e w' ⟨rfl, rfl⟩
                  refine hK.out _ _ ?_ (fun hHeld => ?_)
                  · first | exact hHeld | go_keep
                  clear hK K
                  try simp only [Act.put, List.setIfInBounds_toArray, List.set_cons_zero, List.set_cons_succ, List.getElem_toArray, List.getElem_cons_zero, List.getElem_cons_succ]
                  refine wpAnyH_take (i := 11) (v := ?_) rfl (by kernel_rfl) (by kernel_rfl) (by kernel_rfl) (fun _ _ _ h => h) (Or.inl ⟨by rfl, ?_⟩) (by assumption) ?_
                  rotate_left
                  · intro w hSw
                    (try dsimp only at hSw)
                    go_simp
                    all_goals first | with_reducible rfl | rw [if_neg (by omega)]
                  try simp only [Act.put, List.setIfInBounds_toArray, List.set_cons_zero, List.set_cons_succ, List.getElem_toArray, List.getElem_cons_zero, List.getElem_cons_succ]
                  refine wpAnyH_take (i := 12) (v := ?_) rfl (by kernel_rfl) (by kernel_rfl) (by kernel_rfl) (fun _ _ _ h => h) (Or.inl ⟨by rfl, ?_⟩) (by assumption) ?_
                  rotate_left
                  · intro w hSw
                    (try dsimp only at hSw)
                    go_simp
                    all_goals first | with_reducible rfl | rw [if_neg (by omega)]
                  try simp only [Act.put, List.setIfInBounds_toArray, List.set_cons_zero, List.set_cons_succ, List.getElem_toArray, List.getElem_cons_zero, List.getElem_cons_succ]
                  refine wpAnyH_take (i := 13) (v := ?_) rfl (by kernel_rfl) (by kernel_rfl) (by kernel_rfl) (fun _ _ _ h => h) (Or.inl ⟨by rfl, ?_⟩) (by assumption) ?_
                  rotate_left
                  · intro w hSw
                    (try dsimp only at hSw)
                    go_simp
                    all_goals first | with_reducible rfl | rw [if_neg (by omega)]
                  try simp only [Act.put, List.setIfInBounds_toArray, List.set_cons_zero, List.set_cons_succ, List.getElem_toArray, List.getElem_cons_zero, List.getElem_cons_succ]
                  refine wpAnyH_done (by kernel_rfl) ?_ _
                  clear d0 d1 x3
                  go_wp2_with fail
                  go_roundw
                  case rel => exact ⟨k + 1, L ++ (str [UInt8.ofNat x.letter.toNat] ++ numS c), by omega, by go_num, rfl, by rw [HLL.out, str_size]; have := HLE0.out (k + 1); omega, HLL, Lib.hid ((hbel.out.drew).alloc (Below.size (hbel.out.drew)) _)⟩
                  case measure => simp [intOf]; omega
                · go_simp
                  go_at_call 22; refine (HDC.out _).mono ?_; rintro e w' ⟨rfl, rfl⟩
                  refine hK.out _ _ ?_ (fun hHeld => ?_)
                  · first | exact hHeld | go_keep
                  clear hK K
                  try simp only [Act.put, List.setIfInBounds_toArray, List.set_cons_zero, List.set_cons_succ, List.getElem_toArray, List.getElem_cons_zero, List.getElem_cons_succ]
                  refine wpAnyH_ready (rs := [7]) (by kernel_rfl) (by simp) (AllReadyH.cons rfl (fun K hK => ?_) AllReadyH.nil)
                  go_simp
                  refine hK.out _ _ ?_ (fun hHeld => ?_)
                  · first | exact hHeld | go_keep
                  clear hK K
                  try simp only [Act.put, List.setIfInBounds_toArray, List.set_cons_zero, List.set_cons_succ, List.getElem_toArray, List.getElem_cons_zero, List.getElem_cons_succ]
                  have hnew : ((wr.drew).alloc (.cells #[.int .u8 x.letter] 5)).cell? ⟨wr.heap.size, 0, none⟩ = some (.int .u8 x.letter) := by simp [go_sem]
                  refine held_weaken (S' := fun w' => (w'.cell? ⟨w.heap.size, 3, none⟩ = some (.slice (some ⟨g, off, none⟩) n cp) ∧ w'.cell? ⟨g, off + k * 4, none⟩ = some (.int .u8 x.letter)) ∧ w'.cell? ⟨wr.heap.size, 0, none⟩ = some (.int .u8 x.letter)) (fun _ h => h.1) _ _ _ _ ?_
                  have hHeld := And.intro hHeld hnew
                  refine wpAnyH_take (i := 8) (v := ?_) rfl (by kernel_rfl) (by kernel_rfl) (by kernel_rfl) (fun _ _ _ h => h) (Or.inl ⟨by rfl, ?_⟩) (by assumption) ?_
                  rotate_left
                  · intro w hSw
                    (try dsimp only at hSw)
                    go_simp
                    all_goals first | with_reducible rfl | rw [if_neg (by omega)]
                  try simp only [Act.put, List.setIfInBounds_toArray, List.set_cons_zero, List.set_cons_succ, List.getElem_toArray, List.getElem_cons_zero, List.getElem_cons_succ]
                  refine wpAnyH_take (i := 11) (v := ?_) rfl (by kernel_rfl) (by kernel_rfl) (by kernel_rfl) (fun _ _ _ h => h) (Or.inl ⟨by rfl, ?_⟩) (by assumption) ?_
                  rotate_left
                  · intro w hSw
                    (try dsimp only at hSw)
                    go_simp
                    all_goals first | with_reducible rfl | rw [if_neg (by omega)]
                  try simp only [Act.put, List.setIfInBounds_toArray, List.set_cons_zero, List.set_cons_succ, List.getElem_toArray, List.getElem_cons_zero, List.getElem_cons_succ]
                  refine wpAnyH_take (i := 12) (v := ?_) rfl (by kernel_rfl) (by kernel_rfl) (by kernel_rfl) (fun _ _ _ h => h) (Or.inl ⟨by rfl, ?_⟩) (by assumption) ?_
                  rotate_left
                  · intro w hSw
                    (try dsimp only at hSw)
                    go_simp
                    all_goals first | with_reducible rfl | rw [if_neg (by omega)]
                  try simp only [Act.put, List.setIfInBounds_toArray, List.set_cons_zero, List.set_cons_succ, List.getElem_toArray, List.getElem_cons_zero, List.getElem_cons_succ]
                  refine wpAnyH_take (i := 13) (v := ?_) rfl (by kernel_rfl) (by kernel_rfl) (by kernel_rfl) (fun _ _ _ h => h) (Or.inl ⟨by rfl, ?_⟩) (by assumption) ?_
                  rotate_left
                  · intro w hSw
                    (try dsimp only at hSw)
                    go_simp
                    all_goals first | with_reducible rfl | rw [if_neg (by omega)]
                  try simp only [Act.put, List.setIfInBounds_toArray, List.set_cons_zero, List.set_cons_succ, List.getElem_toArray, List.getElem_cons_zero, List.getElem_cons_succ]
                  refine wpAnyH_done (by kernel_rfl) ?_ _
                  clear d0 d1 x3
                  go_wp2_with fail
                  go_roundw
                  case rel => exact ⟨k + 1, L ++ (str [UInt8.ofNat x.letter.toNat] ++ numS c), by omega, by go_num, rfl, by rw [HLL.out, str_size]; have := HLE0.out (k + 1); omega, HLL, Lib.hid ((hbel.out.drew).alloc (Below.size (hbel.out.drew)) _)⟩
                  case measure => simp [intOf]; omega
              · have HHB : Hid (handB x c = []) := Lib.hid (if_neg hcp0)
                clear x3
                go_wp2_with fail
                go_roundw
                case rel => exact ⟨k + 1, L, by omega, by go_num, rfl, hL5, Lib.hid (by rw [hL.out, HSU.out, HHB.out, List.append_nil]), hbel⟩
                case measure => simp [intOf]; omega
            · obtain rfl : k = n := by omega
              have HLA : Hid (L = str (handL r.pieces p.h0)) := Lib.hid (by rw [hL.out, HH0.out])
              clear x3
              by_cases hLe : handL r.pieces p.h0 = []
              · obtain rfl : L = ⟨#[]⟩ := by rw [HLA.out, hLe]; rfl
                have HTN : Hid (T ++ (⟨#[32]⟩ ++ ⟨#[45]⟩) = (if 1 = 1 then S ++ str (32 :: handT r.pieces p.h0) else S ++ str (32 :: handT r.pieces p.h0) ++ str (32 :: handT r.pieces p.h1))) := Lib.hid (by
                  have e1 : handT r.pieces p.h0 = [45] := by rw [handT, if_pos hLe]
                  rw [hT.out, e1]; rfl)
                go_wp2_with fail
                go_roundw
                case rel => exact ⟨1, _, by omega, by go_num, rfl, by have e2 : (⟨#[32]⟩ ++ ⟨#[45]⟩ : ByteArray).size = 2 := rfl; rw [ByteArray.size_append, e2]; omega, HTN, hbel⟩
                case measure => simp [intOf]
              · have hne2 : L.toList.isEmpty = false := by
                  rw [ByteArray.toList_eq, HLA.out]
                  cases hl : handL r.pieces p.h0 with
                  | nil => exact absurd hl hLe
                  | cons _ _ => rfl
                have z32 : (⟨#[32]⟩ : ByteArray).size = 1 := rfl
                have HTN : Hid (T ++ (⟨#[32]⟩ ++ L) = (if 1 = 1 then S ++ str (32 :: handT r.pieces p.h0) else S ++ str (32 :: handT r.pieces p.h0) ++ str (32 :: handT r.pieces p.h1))) := Lib.hid (by
                  have e1 : handT r.pieces p.h0 = handL r.pieces p.h0 := by rw [handT, if_neg hLe]
                  have e3 : (⟨#[32]⟩ : ByteArray) = str [32] := rfl
                  rw [hT.out, HLA.out, e1, e3, str_app]; rfl)
                clear hLe
                go_wp2_with fail
                go_roundw
                case rel => exact ⟨1, T ++ (⟨#[32]⟩ ++ L), by omega, by go_num, rfl, by rw [ByteArray.size_append, ByteArray.size_append, z32]; omega, HTN, hbel⟩
                case measure => simp [intOf]
        · have hix := idx_two1 a0 a1 n c0' n c1'
          go_wp2_with fail
          go_loopw [12, 13, 14, 71] (fun v _ _ j V => ∃ (k : Nat) (L : ByteArray), k ≤ n ∧ j = .int .i64 (k : Int) ∧ v = .string L ∧ L.size ≤ 30 ∧ Hid (L = str (handTo r.pieces p.h1 k)) ∧ Hid (Below w1.heap.size w1 V)) (fun _ _ _ j _ => n - (intOf j).toNat)
          case atStart => exact ⟨0, ⟨#[]⟩, by omega, rfl, rfl, by decide, Lib.hid rfl, hbel⟩
          case round =>
            clear hbel x0 x1 x2 x3 x4 x5 x6 x7 x8 x9 x10 l0 l1 l2 l3 l4
            obtain ⟨k, L, hk, rfl, rfl, hL5, hL, hbel⟩ := hrel
            obtain ⟨x0, x1, x2, x3, x4, x5, x6, x7, x8, x9, x10⟩ := HX.out.below hbel.out (Nat.le_refl _)
            clear x0 x1 x2 x4 x5 x6 x7 x8 x9 x10
            by_cases hlt : k < n
            · obtain ⟨g, off, x, rfl, ⟨p0, p1⟩, hx, hcx⟩ := HPT.out k hlt
              obtain ⟨g2, off2, c, rfl, ⟨b0, b1⟩, hc, hcc⟩ := HA1.out k hlt
              have hbw := HB.out.trans (hbel.out.mono HB.out.size)
              have d0 := hcx _ hbw
              have d1 := hcc _ hbw
              have HSU : Hid (handTo r.pieces p.h1 (k + 1) = handTo r.pieces p.h1 k ++ handB x c) := Lib.hid (handTo_succ hx hc)
              have hkc : k < cp := by have := HCP.out; omega
              clear hx hc hcx hcc hbw
              by_cases hcp0 : 0 < c
              · have HHB : Hid (handB x c = lettB x ++ num c) := Lib.hid (if_pos hcp0)
                have HDC : Hid (∀ V, Calls Tryd.prog 22 #[.int .i64 c] V fun e w' => e = .returned (.string (numS c)) ∧ V = w') := Lib.hid (fun V => turned (dec_all c b0 b1 V))
                have hcv := @conv_one x.letter (by omega) (by omega)
                have zl : (str [UInt8.ofNat x.letter.toNat]).size ≤ 1 := size_one _
                have zh : (numS c).size ≤ 4 := numS_len4 b0 b1
                go_wp2_with fail
                have HLL : Hid (L ++ (str [UInt8.ofNat x.letter.toNat] ++ numS c) = str (handTo r.pieces p.h1 (k + 1))) := Lib.hid (by rw [HSU.out, HHB.out, hL.out, lettB, numS, str_app, str_app])
                refine wp_region_held_drew (S := fun w' => w'.cell? ⟨w.heap.size, 3, none⟩ = some (.slice (some ⟨g, off, none⟩) n cp) ∧ w'.cell? ⟨g, off + k * 4, none⟩ = some (.int .u8 x.letter)) (by kernel_rfl) ?_ (fun hHeld => ?_)
                · go_keep
                refine wpAnyH_take (i := 0) (v := ?_) rfl (by kernel_rfl) (by kernel_rfl) (by kernel_rfl) (fun _ _ _ h => h) (Or.inl ⟨by rfl, ?_⟩) (by assumption) ?_
                rotate_left
                · intro w hSw
                  (try dsimp only at hSw)
                  go_simp
                  all_goals first | with_reducible rfl | rw [if_neg (by omega)]
                try simp only [Act.put, List.setIfInBounds_toArray, List.set_cons_zero, List.set_cons_succ, List.getElem_toArray, List.getElem_cons_zero]
                refine wpAnyH_take (i := 1) (v := ?_) rfl (by kernel_rfl) (by kernel_rfl) (by kernel_rfl) (fun _ _ _ h => h) (Or.inl ⟨by rfl, ?_⟩) (by assumption) ?_
                rotate_left
                · intro w hSw
                  (try dsimp only at hSw)
                  go_simp
                  all_goals first | with_reducible rfl | rw [if_neg (by omega)]
                try simp only [Act.put, List.setIfInBounds_toArray, List.set_cons_zero, List.set_cons_succ, List.getElem_toArray, List.getElem_cons_zero, List.getElem_cons_succ]
                refine wpAnyH_take (i := 2) (v := ?_) rfl (by kernel_rfl) (by kernel_rfl) (by kernel_rfl) (fun _ _ _ h => h) (Or.inl ⟨by rfl, ?_⟩) (by assumption) ?_
                rotate_left
                · intro w hSw
                  (try dsimp only at hSw)
                  go_simp
                  all_goals first | with_reducible rfl | rw [if_neg (by omega)]
                try simp only [Act.put, List.setIfInBounds_toArray, List.set_cons_zero, List.set_cons_succ, List.getElem_toArray, List.getElem_cons_zero, List.getElem_cons_succ]
                refine wpAnyH_take (i := 3) (v := ?_) rfl (by kernel_rfl) (by kernel_rfl) (by kernel_rfl) (fun _ _ _ h => h) (Or.inl ⟨by rfl, ?_⟩) (by assumption) ?_
                rotate_left
                · intro w hSw
                  (try dsimp only at hSw)
                  go_simp
                  all_goals first | with_reducible rfl | rw [if_neg (by omega)]
                try simp only [Act.put, List.setIfInBounds_toArray, List.set_cons_zero, List.set_cons_succ, List.getElem_toArray, List.getElem_cons_zero, List.getElem_cons_succ]
                refine wpAnyH_take (i := 4) (v := ?_) rfl (by kernel_rfl) (by kernel_rfl) (by kernel_rfl) (fun _ _ _ h => h) (Or.inl ⟨by rfl, ?_⟩) (by assumption) ?_
                rotate_left
                · intro w hSw
                  (try dsimp only at hSw)
                  go_simp
                  all_goals first | with_reducible rfl | rw [if_neg (by omega)]
                try simp only [Act.put, List.setIfInBounds_toArray, List.set_cons_zero, List.set_cons_succ, List.getElem_toArray, List.getElem_cons_zero, List.getElem_cons_succ]
                refine wpAnyH_take (i := 5) (v := ?_) rfl (by kernel_rfl) (by kernel_rfl) (by kernel_rfl) (fun _ _ _ h => h) (Or.inl ⟨by rfl, ?_⟩) (by assumption) ?_
                rotate_left
                · intro w hSw
                  (try dsimp only at hSw)
                  go_simp
                  all_goals first | with_reducible rfl | rw [if_neg (by omega)]
                try simp only [Act.put, List.setIfInBounds_toArray, List.set_cons_zero, List.set_cons_succ, List.getElem_toArray, List.getElem_cons_zero, List.getElem_cons_succ]
                refine wpAnyH_take (i := 6) (v := ?_) rfl (by kernel_rfl) (by kernel_rfl) (by kernel_rfl) (fun _ _ _ h => h) (Or.inl ⟨by rfl, ?_⟩) (by assumption) ?_
                rotate_left
                · intro w hSw
                  (try dsimp only at hSw)
                  go_simp
                  all_goals first | with_reducible rfl | rw [if_neg (by omega)]
                try simp only [Act.put, List.setIfInBounds_toArray, List.set_cons_zero, List.set_cons_succ, List.getElem_toArray, List.getElem_cons_zero, List.getElem_cons_succ]
                refine wpAnyH_take (i := 9) (v := ?_) rfl (by kernel_rfl) (by kernel_rfl) (by kernel_rfl) (fun _ _ _ h => h) (Or.inl ⟨by rfl, ?_⟩) (by assumption) ?_
                rotate_left
                · intro w hSw
                  (try dsimp only at hSw)
                  go_simp
                  all_goals first | with_reducible rfl | rw [if_neg (by omega)]
                try simp only [Act.put, List.setIfInBounds_toArray, List.set_cons_zero, List.set_cons_succ, List.getElem_toArray, List.getElem_cons_zero, List.getElem_cons_succ]
                refine wpAnyH_ready (rs := [7, 10]) (by kernel_rfl) (by simp) (AllReadyH.cons rfl (fun K hK => ?_) (AllReadyH.cons rfl (fun K hK => ?_) AllReadyH.nil))
                · go_simp
                  refine hK.out _ _ ?_ (fun hHeld => ?_)
                  · first | exact hHeld | go_keep
                  clear hK K
                  try simp only [Act.put, List.setIfInBounds_toArray, List.set_cons_zero, List.set_cons_succ, List.getElem_toArray, List.getElem_cons_zero, List.getElem_cons_succ]
                  have hnew : ((wr.drew).alloc (.cells #[.int .u8 x.letter] 5)).cell? ⟨wr.heap.size, 0, none⟩ = some (.int .u8 x.letter) := by simp [go_sem]
                  refine held_weaken (S' := fun w' => (w'.cell? ⟨w.heap.size, 3, none⟩ = some (.slice (some ⟨g, off, none⟩) n cp) ∧ w'.cell? ⟨g, off + k * 4, none⟩ = some (.int .u8 x.letter)) ∧ w'.cell? ⟨wr.heap.size, 0, none⟩ = some (.int .u8 x.letter)) (fun _ h => h.1) _ _ _ _ ?_
                  have hHeld := And.intro hHeld hnew
                  refine wpAnyH_take (i := 8) (v := ?_) rfl (by kernel_rfl) (by kernel_rfl) (by kernel_rfl) (fun _ _ _ h => h) (Or.inl ⟨by rfl, ?_⟩) (by assumption) ?_
                  rotate_left
                  · intro w hSw
                    (try dsimp only at hSw)
                    go_simp
                    all_goals first | with_reducible rfl | rw [if_neg (by omega)]
                  try simp only [Act.put, List.setIfInBounds_toArray, List.set_cons_zero, List.set_cons_succ, List.getElem_toArray, List.getElem_cons_zero, List.getElem_cons_succ]
                  refine wpAnyH_ready (rs := [10]) (by kernel_rfl) (by simp) (AllReadyH.cons rfl (fun K hK => ?_) AllReadyH.nil)
                  go_simp
                  go_at_call 22; refine (HDC.out _).mono ?_; rintro e w' ⟨rfl, rfl⟩
                  refine hK.out _ _ ?_ (fun hHeld => ?_)
                  · first | exact hHeld | go_keep
                  clear hK K
                  try simp only [Act.put, List.setIfInBounds_toArray, List.set_cons_zero, List.set_cons_succ, List.getElem_toArray, List.getElem_cons_zero, List.getElem_cons_succ]
                  refine wpAnyH_take (i := 11) (v := ?_) rfl (by kernel_rfl) (by kernel_rfl) (by kernel_rfl) (fun _ _ _ h => h) (Or.inl ⟨by rfl, ?_⟩) (by assumption) ?_
                  rotate_left
                  · intro w hSw
                    (try dsimp only at hSw)
                    go_simp
                    all_goals first | with_reducible rfl | rw [if_neg (by omega)]
                  try simp only [Act.put, List.setIfInBounds_toArray, List.set_cons_zero, List.set_cons_succ, List.getElem_toArray, List.getElem_cons_zero, List.getElem_cons_succ]
                  refine wpAnyH_take (i := 12) (v := ?_) rfl (by kernel_rfl) (by kernel_rfl) (by kernel_rfl) (fun _ _ _ h => h) (Or.inl ⟨by rfl, ?_⟩) (by assumption) ?_
                  rotate_left
                  · intro w hSw
                    (try dsimp only at hSw)
                    go_simp
                    all_goals first | with_reducible rfl | rw [if_neg (by omega)]
                  try simp only [Act.put, List.setIfInBounds_toArray, List.set_cons_zero, List.set_cons_succ, List.getElem_toArray, List.getElem_cons_zero, List.getElem_cons_succ]
                  refine wpAnyH_take (i := 13) (v := ?_) rfl (by kernel_rfl) (by kernel_rfl) (by kernel_rfl) (fun _ _ _ h => h) (Or.inl ⟨by rfl, ?_⟩) (by assumption) ?_
                  rotate_left
                  · intro w hSw
                    (try dsimp only at hSw)
                    go_simp
                    all_goals first | with_reducible rfl | rw [if_neg (by omega)]
                  try simp only [Act.put, List.setIfInBounds_toArray, List.set_cons_zero, List.set_cons_succ, List.getElem_toArray, List.getElem_cons_zero, List.getElem_cons_succ]
                  refine wpAnyH_done (by kernel_rfl) ?_ _
                  clear d0 d1 x3
                  go_wp2_with fail
                  go_roundw
                  case rel => exact ⟨k + 1, L ++ (str [UInt8.ofNat x.letter.toNat] ++ numS c), by omega, by go_num, rfl, by rw [HLL.out, str_size]; have := HLE1.out (k + 1); omega, HLL, Lib.hid ((hbel.out.drew).alloc (Below.size (hbel.out.drew)) _)⟩
                  case measure => simp [intOf]; omega
                · go_simp
                  go_at_call 22; refine (HDC.out _).mono ?_; rintro e w' ⟨rfl, rfl⟩
                  refine hK.out _ _ ?_ (fun hHeld => ?_)
                  · first | exact hHeld | go_keep
                  clear hK K
                  try simp only [Act.put, List.setIfInBounds_toArray, List.set_cons_zero, List.set_cons_succ, List.getElem_toArray, List.getElem_cons_zero, List.getElem_cons_succ]
                  refine wpAnyH_ready (rs := [7]) (by kernel_rfl) (by simp) (AllReadyH.cons rfl (fun K hK => ?_) AllReadyH.nil)
                  go_simp
                  refine hK.out _ _ ?_ (fun hHeld => ?_)
                  · first | exact hHeld | go_keep
                  clear hK K
                  try simp only [Act.put, List.setIfInBounds_toArray, List.set_cons_zero, List.set_cons_succ, List.getElem_toArray, List.getElem_cons_zero, List.getElem_cons_succ]
                  have hnew : ((wr.drew).alloc (.cells #[.int .u8 x.letter] 5)).cell? ⟨wr.heap.size, 0, none⟩ = some (.int .u8 x.letter) := by simp [go_sem]
                  refine held_weaken (S' := fun w' => (w'.cell? ⟨w.heap.size, 3, none⟩ = some (.slice (some ⟨g, off, none⟩) n cp) ∧ w'.cell? ⟨g, off + k * 4, none⟩ = some (.int .u8 x.letter)) ∧ w'.cell? ⟨wr.heap.size, 0, none⟩ = some (.int .u8 x.letter)) (fun _ h => h.1) _ _ _ _ ?_
                  have hHeld := And.intro hHeld hnew
                  refine wpAnyH_take (i := 8) (v := ?_) rfl (by kernel_rfl) (by kernel_rfl) (by kernel_rfl) (fun _ _ _ h => h) (Or.inl ⟨by rfl, ?_⟩) (by assumption) ?_
                  rotate_left
                  · intro w hSw
                    (try dsimp only at hSw)
                    go_simp
                    all_goals first | with_reducible rfl | rw [if_neg (by omega)]
                  try simp only [Act.put, List.setIfInBounds_toArray, List.set_cons_zero, List.set_cons_succ, List.getElem_toArray, List.getElem_cons_zero, List.getElem_cons_succ]
                  refine wpAnyH_take (i := 11) (v := ?_) rfl (by kernel_rfl) (by kernel_rfl) (by kernel_rfl) (fun _ _ _ h => h) (Or.inl ⟨by rfl, ?_⟩) (by assumption) ?_
                  rotate_left
                  · intro w hSw
                    (try dsimp only at hSw)
                    go_simp
                    all_goals first | with_reducible rfl | rw [if_neg (by omega)]
                  try simp only [Act.put, List.setIfInBounds_toArray, List.set_cons_zero, List.set_cons_succ, List.getElem_toArray, List.getElem_cons_zero, List.getElem_cons_succ]
                  refine wpAnyH_take (i := 12) (v := ?_) rfl (by kernel_rfl) (by kernel_rfl) (by kernel_rfl) (fun _ _ _ h => h) (Or.inl ⟨by rfl, ?_⟩) (by assumption) ?_
                  rotate_left
                  · intro w hSw
                    (try dsimp only at hSw)
                    go_simp
                    all_goals first | with_reducible rfl | rw [if_neg (by omega)]
                  try simp only [Act.put, List.setIfInBounds_toArray, List.set_cons_zero, List.set_cons_succ, List.getElem_toArray, List.getElem_cons_zero, List.getElem_cons_succ]
                  refine wpAnyH_take (i := 13) (v := ?_) rfl (by kernel_rfl) (by kernel_rfl) (by kernel_rfl) (fun _ _ _ h => h) (Or.inl ⟨by rfl, ?_⟩) (by assumption) ?_
                  rotate_left
                  · intro w hSw
                    (try dsimp only at hSw)
                    go_simp
                    all_goals first | with_reducible rfl | rw [if_neg (by omega)]
                  try simp only [Act.put, List.setIfInBounds_toArray, List.set_cons_zero, List.set_cons_succ, List.getElem_toArray, List.getElem_cons_zero, List.getElem_cons_succ]
                  refine wpAnyH_done (by kernel_rfl) ?_ _
                  clear d0 d1 x3
                  go_wp2_with fail
                  go_roundw
                  case rel => exact ⟨k + 1, L ++ (str [UInt8.ofNat x.letter.toNat] ++ numS c), by omega, by go_num, rfl, by rw [HLL.out, str_size]; have := HLE1.out (k + 1); omega, HLL, Lib.hid ((hbel.out.drew).alloc (Below.size (hbel.out.drew)) _)⟩
                  case measure => simp [intOf]; omega
              · have HHB : Hid (handB x c = []) := Lib.hid (if_neg hcp0)
                clear x3
                go_wp2_with fail
                go_roundw
                case rel => exact ⟨k + 1, L, by omega, by go_num, rfl, hL5, Lib.hid (by rw [hL.out, HSU.out, HHB.out, List.append_nil]), hbel⟩
                case measure => simp [intOf]; omega
            · obtain rfl : k = n := by omega
              have HLA : Hid (L = str (handL r.pieces p.h1)) := Lib.hid (by rw [hL.out, HH1.out])
              clear x3
              by_cases hLe : handL r.pieces p.h1 = []
              · obtain rfl : L = ⟨#[]⟩ := by rw [HLA.out, hLe]; rfl
                have HTN : Hid (T ++ (⟨#[32]⟩ ++ ⟨#[45]⟩) = (if 2 = 1 then S ++ str (32 :: handT r.pieces p.h0) else S ++ str (32 :: handT r.pieces p.h0) ++ str (32 :: handT r.pieces p.h1))) := Lib.hid (by
                  have e1 : handT r.pieces p.h1 = [45] := by rw [handT, if_pos hLe]
                  rw [hT.out, e1]; rfl)
                go_wp2_with fail
                go_roundw
                case rel => exact ⟨2, _, by omega, by go_num, rfl, by have e2 : (⟨#[32]⟩ ++ ⟨#[45]⟩ : ByteArray).size = 2 := rfl; rw [ByteArray.size_append, e2]; omega, HTN, hbel⟩
                case measure => simp [intOf]
              · have hne2 : L.toList.isEmpty = false := by
                  rw [ByteArray.toList_eq, HLA.out]
                  cases hl : handL r.pieces p.h1 with
                  | nil => exact absurd hl hLe
                  | cons _ _ => rfl
                have z32 : (⟨#[32]⟩ : ByteArray).size = 1 := rfl
                have HTN : Hid (T ++ (⟨#[32]⟩ ++ L) = (if 2 = 1 then S ++ str (32 :: handT r.pieces p.h0) else S ++ str (32 :: handT r.pieces p.h0) ++ str (32 :: handT r.pieces p.h1))) := Lib.hid (by
                  have e1 : handT r.pieces p.h1 = handL r.pieces p.h1 := by rw [handT, if_neg hLe]
                  have e3 : (⟨#[32]⟩ : ByteArray) = str [32] := rfl
                  rw [hT.out, HLA.out, e1, e3, str_app]; rfl)
                clear hLe
                go_wp2_with fail
                go_roundw
                case rel => exact ⟨2, T ++ (⟨#[32]⟩ ++ L), by omega, by go_num, rfl, by rw [ByteArray.size_append, ByteArray.size_append, z32]; omega, HTN, hbel⟩
                case measure => simp [intOf]
        · have HPL : Hid (T ++ ⟨#[32]⟩ ++ numS (p.turn + 1) ++ ⟨#[32]⟩ ++ numS p.quiet = str (placeT r p)) := Lib.hid (by
            have hWn : r.width.toNat = W := by rw [HWE.out]; exact Int.toNat_natCast W
            have hHn : r.height.toNat = H := by rw [HHE.out]; exact Int.toNat_natCast H
            have e3 : (⟨#[32]⟩ : ByteArray) = str [32] := rfl
            have e4 : T = S ++ str (32 :: handT r.pieces p.h0) ++ str (32 :: handT r.pieces p.h1) := hT.out
            rw [e4, HS.out, placeT, partsT, hWn, hHn, e3, numS, numS]
            simp only [str_app]
            exact congrArg str (by simp [Lib.join]))
          have hok := HOK.out
          obtain ⟨t0, t1, q0, q1⟩ : 0 ≤ p.turn ∧ p.turn ≤ 1 ∧ 0 ≤ p.quiet ∧ p.quiet ≤ 200 := ⟨hok.t0, hok.t1, hok.q0, hok.q1⟩
          have QT : Hid (IntKind.i64.wrap (p.turn + 1) = p.turn + 1) := Lib.hid (IntWalk.i64_in _ (by omega))
          have qt := QT.out
          have HD1 : Hid (∀ V, Calls Tryd.prog 22 #[.int .i64 (p.turn + 1)] V fun e w' => e = .returned (.string (numS (p.turn + 1))) ∧ V = w') := Lib.hid (fun V => turned (dec_all _ (by omega) (by omega) V))
          have HD2 : Hid (∀ V, Calls Tryd.prog 22 #[.int .i64 p.quiet] V fun e w' => e = .returned (.string (numS p.quiet)) ∧ V = w') := Lib.hid (fun V => turned (dec_all _ (by omega) (by omega) V))
          have z1 : (numS (p.turn + 1)).size ≤ 4 := numS_len4 (by omega) (by omega)
          have z2 : (numS p.quiet).size ≤ 4 := numS_len4 (by omega) (by omega)
          clear hok x0 x1 x2 x3 x4 x5 x6 x7 x8 x9 x10 l0 l1 l2
          go_wp2_with fail
          have y1 : ¬ 9223372036854775807 < T.size + 1 := by omega
          have y2 : ¬ 9223372036854775807 < T.size + 1 + (numS (p.turn + 1)).size := by omega
          have y3 : ¬ 9223372036854775807 < T.size + 1 + (numS (p.turn + 1)).size + 1 := by omega
          have y4 : ¬ 9223372036854775807 < T.size + 1 + (numS (p.turn + 1)).size + 1 + (numS p.quiet).size := by omega
          go_region_held3 (fun w' => w'.cell? ⟨w.heap.size + 1, 3, none⟩ = some (.int .i64 p.turn) ∧ w'.cell? ⟨w.heap.size + 1, 4, none⟩ = some (.int .i64 p.quiet)) (go_keep) (first
            | (go_at_call 22; refine (turned (dec_all _ (by omega) (by omega) _)).mono ?_; rintro e w' ⟨rfl, rfl⟩))
          all_goals go_wp2_with fail
          all_goals go_ret
          all_goals exact ⟨by rw [HPL.out]; rfl, ((HB.out.trans (hbel.out.mono HB.out.size)).drew)⟩

    · rw [show (((y + 1 : Nat) : Int) - 1) = (y : Int) by omega]
      obtain ⟨P, hP⟩ : ∃ P : Nat, P = y * W := ⟨_, rfl⟩
      have hPW : P + W ≤ A := by rw [hP]; exact HPA.out y (by omega)
      have Q3 : Hid (IntKind.i64.wrap ((y : Int) * (W : Int)) = (P : Int)) := Lib.hid (by rw [← Int.natCast_mul, ← hP, IntWalk.i64_in _ (by omega)])
      obtain ⟨row, hrow⟩ : ∃ row, row = rowOf W p.cells y := ⟨_, rfl⟩
      have HRO := Lib.hid hrow.symm
      have HRW : Hid (∀ x c, x < W → p.cells[P + x]? = some c → row[x]? = some c) := Lib.hid (fun x c hx h => by rw [hrow, rowOf, List.getElem?_take, if_pos hx, List.getElem?_drop, ← hP]; exact h)
      have HRL : Hid (row.length = W) := Lib.hid (by rw [hrow, rowOf, List.length_take, List.length_drop, ← hP, ← HAL2.out]; omega)
      have HLE : Hid (∀ x, (ahead D ++ (gapAt r.pieces row x).1).length ≤ 90) := Lib.hid (fun x => by
        have h1 := HAL.out D (y + 1) hD.out.2.1
        have h2 := gapAt_len r.pieces row x
        rw [HRL.out] at h2
        rw [List.length_append]; omega)
      have HSZ := hS8
      clear hP hrow
      by_cases hDe : D = []
      · obtain rfl : S = ⟨#[]⟩ := by rw [hD.out.1, hDe]; rfl
        have HAH : Hid ((⟨#[]⟩ : ByteArray) = str (ahead D)) := Lib.hid (by rw [ahead, if_pos hDe]; rfl)
        clear hDe
        go_wp2_with fail
        go_loopw [5, 7, 8, 9, 29] (fun v5 v7 _ _ i wr => ∃ (x g : Nat) (S : ByteArray), x ≤ W + 1 ∧ i = .int .i64 (x : Int) ∧ v5 = .string S ∧ v7 = .int .i64 (g : Int) ∧ S.size ≤ 90 ∧ g ≤ 8 ∧ Hid (S = str (ahead D ++ (gapAt r.pieces row x).1) ∧ g = (gapAt r.pieces row x).2) ∧ Hid (Below w1.heap.size w1 wr)) (fun _ _ _ _ i _ => W + 1 - (intOf i).toNat)
        case atStart => exact ⟨0, 0, _, by omega, rfl, rfl, rfl, by decide, by omega, Lib.hid ⟨by rw [gapAt_zero, List.append_nil]; exact HAH.out, by rw [gapAt_zero]⟩, hbel⟩
        case round =>
          clear hbel x0 x1 x2 x3 x4 x5 x6 x7 x8 x9 x10 l0 l1 l2 l3 l4 HAH HSZ
          obtain ⟨x, g, S, hx, rfl, rfl, rfl, hS9, hg8, hS, hbel⟩ := hrel
          have HBW := Lib.hid (HB.out.trans (hbel.out.mono HB.out.size))
          obtain ⟨x0, x1, x2, x3, x4, x5, x6, x7, x8, x9, x10⟩ := HX.out.below hbel.out (Nat.le_refl _)
          obtain ⟨l0, l1, l2, l3, l4⟩ := HP.out.below hbel.out (Nat.le_refl _)
          rw [HWE.out] at x1
          rw [HHE.out] at x2
          have hlen := HLE.out x
          by_cases hxW : x < W
          · obtain ⟨m, hm⟩ : ∃ m : Nat, m = P + x := ⟨_, rfl⟩
            have hmA : m < A := by omega
            have Q4 : Hid (IntKind.i64.wrap ((P : Int) + (x : Int)) = (m : Int)) := Lib.hid (by rw [IntWalk.i64_in _ (by omega)]; omega)
            obtain ⟨c, hc, hrow, hcell⟩ := HAT.out m hmA
            have hrow2 : row[x]? = some c := HRW.out x c hxW (by rw [← hm]; exact hrow)
            have c0 := hcell _ HBW.out
            have hc12 := HCS.out c (List.mem_of_getElem? hrow)
            have HROW := Lib.hid hrow2
            have q3 := Q3.out
            have q4 := Q4.out
            clear hm hc hrow hcell hrow2 Q4
            by_cases hc0 : c = 0
            · subst hc0
              have HN : Hid (S = str (ahead D ++ (gapAt r.pieces row (x + 1)).1) ∧ g + 1 = (gapAt r.pieces row (x + 1)).2) := Lib.hid (by rw [gapAt_gap HROW.out]; exact ⟨hS.out.1, by rw [hS.out.2]⟩)
              have hg1 : g + 1 ≤ 8 := by have h1 := gapAt_len r.pieces row (x + 1); rw [← HN.out.2, HRL.out] at h1; omega
              clear x0 x3 x4 x5 x6 x7 x8 x9 x10 l1 l2 l3 l4
              go_wp2_with fail
              go_roundw
              case rel => exact ⟨x + 1, g + 1, S, by omega, by go_num, rfl, by go_num, hS9, hg1, HN, hbel⟩
              case measure => simp [intOf]; omega
            · have hcn : (c == 0) = false := by simpa using hc0
              have hcp : 0 < c := by omega
              obtain ⟨b, hb⟩ : ∃ b, b = cellB r.pieces c := ⟨_, rfl⟩
              have HL : Hid (∀ V, Below w.heap.size w V → Calls Tryd.prog 23 #[.agg #[.string r.name, .int .i64 (W : Int), .int .i64 (H : Int), .slice ap n cp, vs, .bool r.falls, .bool r.keeps, ve, .int .i64 r.blocked, .int .i64 r.quiet, .int .i64 r.rep], .int .i64 c] V fun e w' => e = .returned (.string (str [b])) ∧ Below V.heap.size V w') := Lib.hid (fun V hV => by rw [hb]; exact HLT.out c V hcp hc12.2 hV)
              have z1 : (str [b]).size ≤ 1 := size_one b
              by_cases hg0 : g = 0
              · subst hg0
                have HN : Hid (S ++ str [b] = str (ahead D ++ (gapAt r.pieces row (x + 1)).1) ∧ 0 = (gapAt r.pieces row (x + 1)).2) := Lib.hid (by
                  rw [gapAt_piece HROW.out hc0, ← hS.out.2, hS.out.1, str_app, hb]
                  exact ⟨by simp [dig], rfl⟩)
                have hs1 : (S ++ str [b]).size ≤ 90 := by rw [HN.out.1, str_size]; exact HLE.out (x + 1)
                clear hb hc0 l1 l2 l3 l4
                go_wp2_with fail
                go_at_call 23; refine (HL.out _ HBW.out).mono ?_; rintro e w3 ⟨rfl, hb3⟩
                have HB3 : Hid (Below w1.heap.size w1 w3) := Lib.hid (hbel.out.trans (hb3.mono hbel.out.size))
                clear hb3 x0 x1 x2 x3 x4 x5 x6 x7 x8 x9 x10 l0
                go_wp2_with fail
                go_roundw
                case rel => exact ⟨x + 1, 0, S ++ str [b], by omega, by go_num, rfl, rfl, hs1, by omega, HN, HB3⟩
                case measure => simp [intOf]; omega
              · have HD1 : Hid (∀ V, Calls Tryd.prog 22 #[.int .i64 (g : Int)] V fun e w' => e = .returned (.string (numS g)) ∧ V = w') := Lib.hid (fun V => turned (dec_all g (by omega) (by omega) V))
                have hgp : (0 : Int) < (g : Int) := by omega
                have z2 : (numS (g : Int)).size ≤ 4 := numS_len4 (by omega) (by omega)
                have HN : Hid (S ++ numS g ++ str [b] = str (ahead D ++ (gapAt r.pieces row (x + 1)).1) ∧ 0 = (gapAt r.pieces row (x + 1)).2) := Lib.hid (by
                  rw [gapAt_piece HROW.out hc0, ← hS.out.2, dig_num hg0 (by omega), hS.out.1, numS, str_app, str_app, hb]
                  exact ⟨by simp, rfl⟩)
                have hs1 : (S ++ numS g ++ str [b]).size ≤ 90 := by rw [HN.out.1, str_size]; exact HLE.out (x + 1)
                have hs2 : (S ++ numS g).size ≤ 94 := by rw [ByteArray.size_append]; omega
                clear hb hc0 hg0 l1 l2 l3 l4
                go_wp2_with fail
                go_at_call 22; refine (HD1.out _).mono ?_; rintro e w' ⟨rfl, rfl⟩
                go_wp2_with fail
                go_at_call 23; refine (HL.out _ HBW.out).mono ?_; rintro e w3 ⟨rfl, hb3⟩
                have HB3 : Hid (Below w1.heap.size w1 w3) := Lib.hid (hbel.out.trans (hb3.mono hbel.out.size))
                clear hb3 x0 x1 x2 x3 x4 x5 x6 x7 x8 x9 x10 l0
                go_wp2_with fail
                go_roundw
                case rel => exact ⟨x + 1, 0, S ++ numS g ++ str [b], by omega, by go_num, rfl, rfl, hs1, by omega, HN, HB3⟩
                case measure => simp [intOf]; omega
          · by_cases hxe : x = W
            · subst hxe
              have HEN : Hid (gapAt r.pieces row (x + 1) = ((gapAt r.pieces row x).1 ++ dig (gapAt r.pieces row x).2, 0)) := Lib.hid (by have h1 := gapAt_end r.pieces row; rw [HRL.out] at h1; exact h1)
              clear x0 x3 x4 x5 x6 x7 x8 x9 x10 l0 l1 l2 l3 l4
              by_cases hg0 : g = 0
              · subst hg0
                have HN : Hid (S = str (ahead D ++ (gapAt r.pieces row (x + 1)).1) ∧ 0 = (gapAt r.pieces row (x + 1)).2) := Lib.hid (by
                  rw [HEN.out, ← hS.out.2]
                  exact ⟨by simpa [dig] using hS.out.1, rfl⟩)
                go_wp2_with fail
                go_roundw
                case rel => exact ⟨x + 1, 0, S, by omega, by go_num, rfl, rfl, hS9, by omega, HN, hbel⟩
                case measure => simp [intOf]
              · have HD1 : Hid (∀ V, Calls Tryd.prog 22 #[.int .i64 (g : Int)] V fun e w' => e = .returned (.string (numS g)) ∧ V = w') := Lib.hid (fun V => turned (dec_all g (by omega) (by omega) V))
                have hgp : (0 : Int) < (g : Int) := by omega
                have z2 : (numS (g : Int)).size ≤ 4 := numS_len4 (by omega) (by omega)
                have HN : Hid (S ++ numS g = str (ahead D ++ (gapAt r.pieces row (x + 1)).1) ∧ 0 = (gapAt r.pieces row (x + 1)).2) := Lib.hid (by
                  rw [HEN.out, ← hS.out.2, dig_num hg0 (by omega), hS.out.1, numS, str_app]
                  exact ⟨by simp, rfl⟩)
                have hs1 : (S ++ numS g).size ≤ 90 := by rw [HN.out.1, str_size]; exact HLE.out (x + 1)
                clear hg0
                go_wp2_with fail
                go_at_call 22; refine (HD1.out _).mono ?_; rintro e w' ⟨rfl, rfl⟩
                go_wp2_with fail
                go_roundw
                case rel => exact ⟨x + 1, 0, S ++ numS g, by omega, by go_num, rfl, rfl, hs1, by omega, HN, hbel⟩
                case measure => simp [intOf]
            · obtain rfl : x = W + 1 := by omega
              have HN : Hid (S = str (Lib.join (D ++ [rowT r.pieces W p.cells y]) [47]) ∧ (D ++ [rowT r.pieces W p.cells y]) ++ rowsT r.pieces W p.cells y = rowsT r.pieces W p.cells H ∧ (D ++ [rowT r.pieces W p.cells y]).length + y = H) := Lib.hid ⟨by
                  have h1 := hS.out.1
                  rw [gapAt, if_neg (by rw [HRL.out]; omega)] at h1
                  rw [join_snoc, h1, rowT, HRO.out], rowsT_split2 hD.out.2.1, by have := hD.out.2.2; rw [List.length_append]; simp; omega⟩
              have hs1 : S.size ≤ 80 := by rw [HN.out.1, str_size]; exact HJL.out _ y HN.out.2.1
              clear x0 x3 x4 x5 x6 x7 x8 x9 x10 l0 l1 l2 l3 l4
              go_wp2_with fail
              go_roundw
              case rel => exact ⟨y, D ++ [rowT r.pieces W p.cells y], S, by omega, by go_num, rfl, hs1, HN, hbel⟩
              case measure => simp [intOf]
      · have HAH : Hid (S ++ ⟨#[47]⟩ = str (ahead D)) := Lib.hid (by
          have e : (⟨#[47]⟩ : ByteArray) = str [47] := rfl
          rw [ahead, if_neg hDe, hD.out.1, e, str_app])
        have hne : S ≠ ⟨#[]⟩ := fun e => by
          have h1 := hD.out.1
          rw [e] at h1
          have h2 := congrArg ByteArray.size h1
          rw [str_size] at h2
          cases D with
          | nil => exact hDe rfl
          | cons d D' =>
            rw [Lib.join_cons, List.length_append] at h2
            have h3 : d ∈ rowsT r.pieces W p.cells H := by rw [← hD.out.2.1]; simp
            obtain ⟨y', hy', rfl⟩ := rowsT_mem h3
            have h4 := List.length_pos_iff.2 (rowG_pos r.pieces (l := rowOf W p.cells y') (fun e2 => by
              have h5 := congrArg List.length e2
              rw [rowOf, List.length_take, List.length_drop, ← HAL2.out] at h5
              have := HPA.out y' hy'
              simp at h5; omega))
            have h6 : (⟨#[]⟩ : ByteArray).size = 0 := rfl
            rw [h6, rowT] at h2
            omega
        have hne2 : S.toList.isEmpty = false := by
          rw [ByteArray.toList_eq]
          cases hl : S.data.toList with
          | nil => exact absurd ((Lib.mk_data S).symm.trans (by rw [hl])) hne
          | cons _ _ => rfl
        clear hDe hne
        go_wp2_with fail
        go_loopw [5, 7, 8, 9, 29] (fun v5 v7 _ _ i wr => ∃ (x g : Nat) (S : ByteArray), x ≤ W + 1 ∧ i = .int .i64 (x : Int) ∧ v5 = .string S ∧ v7 = .int .i64 (g : Int) ∧ S.size ≤ 90 ∧ g ≤ 8 ∧ Hid (S = str (ahead D ++ (gapAt r.pieces row x).1) ∧ g = (gapAt r.pieces row x).2) ∧ Hid (Below w1.heap.size w1 wr)) (fun _ _ _ _ i _ => W + 1 - (intOf i).toNat)
        case atStart => exact ⟨0, 0, _, by omega, rfl, rfl, rfl, (by rw [ByteArray.size_append]; have : (⟨#[47]⟩ : ByteArray).size = 1 := rfl; omega), by omega, Lib.hid ⟨by rw [gapAt_zero, List.append_nil]; exact HAH.out, by rw [gapAt_zero]⟩, hbel⟩
        case round =>
          clear hbel x0 x1 x2 x3 x4 x5 x6 x7 x8 x9 x10 l0 l1 l2 l3 l4 HAH HSZ
          obtain ⟨x, g, S, hx, rfl, rfl, rfl, hS9, hg8, hS, hbel⟩ := hrel
          have HBW := Lib.hid (HB.out.trans (hbel.out.mono HB.out.size))
          obtain ⟨x0, x1, x2, x3, x4, x5, x6, x7, x8, x9, x10⟩ := HX.out.below hbel.out (Nat.le_refl _)
          obtain ⟨l0, l1, l2, l3, l4⟩ := HP.out.below hbel.out (Nat.le_refl _)
          rw [HWE.out] at x1
          rw [HHE.out] at x2
          have hlen := HLE.out x
          by_cases hxW : x < W
          · obtain ⟨m, hm⟩ : ∃ m : Nat, m = P + x := ⟨_, rfl⟩
            have hmA : m < A := by omega
            have Q4 : Hid (IntKind.i64.wrap ((P : Int) + (x : Int)) = (m : Int)) := Lib.hid (by rw [IntWalk.i64_in _ (by omega)]; omega)
            obtain ⟨c, hc, hrow, hcell⟩ := HAT.out m hmA
            have hrow2 : row[x]? = some c := HRW.out x c hxW (by rw [← hm]; exact hrow)
            have c0 := hcell _ HBW.out
            have hc12 := HCS.out c (List.mem_of_getElem? hrow)
            have HROW := Lib.hid hrow2
            have q3 := Q3.out
            have q4 := Q4.out
            clear hm hc hrow hcell hrow2 Q4
            by_cases hc0 : c = 0
            · subst hc0
              have HN : Hid (S = str (ahead D ++ (gapAt r.pieces row (x + 1)).1) ∧ g + 1 = (gapAt r.pieces row (x + 1)).2) := Lib.hid (by rw [gapAt_gap HROW.out]; exact ⟨hS.out.1, by rw [hS.out.2]⟩)
              have hg1 : g + 1 ≤ 8 := by have h1 := gapAt_len r.pieces row (x + 1); rw [← HN.out.2, HRL.out] at h1; omega
              clear x0 x3 x4 x5 x6 x7 x8 x9 x10 l1 l2 l3 l4
              go_wp2_with fail
              go_roundw
              case rel => exact ⟨x + 1, g + 1, S, by omega, by go_num, rfl, by go_num, hS9, hg1, HN, hbel⟩
              case measure => simp [intOf]; omega
            · have hcn : (c == 0) = false := by simpa using hc0
              have hcp : 0 < c := by omega
              obtain ⟨b, hb⟩ : ∃ b, b = cellB r.pieces c := ⟨_, rfl⟩
              have HL : Hid (∀ V, Below w.heap.size w V → Calls Tryd.prog 23 #[.agg #[.string r.name, .int .i64 (W : Int), .int .i64 (H : Int), .slice ap n cp, vs, .bool r.falls, .bool r.keeps, ve, .int .i64 r.blocked, .int .i64 r.quiet, .int .i64 r.rep], .int .i64 c] V fun e w' => e = .returned (.string (str [b])) ∧ Below V.heap.size V w') := Lib.hid (fun V hV => by rw [hb]; exact HLT.out c V hcp hc12.2 hV)
              have z1 : (str [b]).size ≤ 1 := size_one b
              by_cases hg0 : g = 0
              · subst hg0
                have HN : Hid (S ++ str [b] = str (ahead D ++ (gapAt r.pieces row (x + 1)).1) ∧ 0 = (gapAt r.pieces row (x + 1)).2) := Lib.hid (by
                  rw [gapAt_piece HROW.out hc0, ← hS.out.2, hS.out.1, str_app, hb]
                  exact ⟨by simp [dig], rfl⟩)
                have hs1 : (S ++ str [b]).size ≤ 90 := by rw [HN.out.1, str_size]; exact HLE.out (x + 1)
                clear hb hc0 l1 l2 l3 l4
                go_wp2_with fail
                go_at_call 23; refine (HL.out _ HBW.out).mono ?_; rintro e w3 ⟨rfl, hb3⟩
                have HB3 : Hid (Below w1.heap.size w1 w3) := Lib.hid (hbel.out.trans (hb3.mono hbel.out.size))
                clear hb3 x0 x1 x2 x3 x4 x5 x6 x7 x8 x9 x10 l0
                go_wp2_with fail
                go_roundw
                case rel => exact ⟨x + 1, 0, S ++ str [b], by omega, by go_num, rfl, rfl, hs1, by omega, HN, HB3⟩
                case measure => simp [intOf]; omega
              · have HD1 : Hid (∀ V, Calls Tryd.prog 22 #[.int .i64 (g : Int)] V fun e w' => e = .returned (.string (numS g)) ∧ V = w') := Lib.hid (fun V => turned (dec_all g (by omega) (by omega) V))
                have hgp : (0 : Int) < (g : Int) := by omega
                have z2 : (numS (g : Int)).size ≤ 4 := numS_len4 (by omega) (by omega)
                have HN : Hid (S ++ numS g ++ str [b] = str (ahead D ++ (gapAt r.pieces row (x + 1)).1) ∧ 0 = (gapAt r.pieces row (x + 1)).2) := Lib.hid (by
                  rw [gapAt_piece HROW.out hc0, ← hS.out.2, dig_num hg0 (by omega), hS.out.1, numS, str_app, str_app, hb]
                  exact ⟨by simp, rfl⟩)
                have hs1 : (S ++ numS g ++ str [b]).size ≤ 90 := by rw [HN.out.1, str_size]; exact HLE.out (x + 1)
                have hs2 : (S ++ numS g).size ≤ 94 := by rw [ByteArray.size_append]; omega
                clear hb hc0 hg0 l1 l2 l3 l4
                go_wp2_with fail
                go_at_call 22; refine (HD1.out _).mono ?_; rintro e w' ⟨rfl, rfl⟩
                go_wp2_with fail
                go_at_call 23; refine (HL.out _ HBW.out).mono ?_; rintro e w3 ⟨rfl, hb3⟩
                have HB3 : Hid (Below w1.heap.size w1 w3) := Lib.hid (hbel.out.trans (hb3.mono hbel.out.size))
                clear hb3 x0 x1 x2 x3 x4 x5 x6 x7 x8 x9 x10 l0
                go_wp2_with fail
                go_roundw
                case rel => exact ⟨x + 1, 0, S ++ numS g ++ str [b], by omega, by go_num, rfl, rfl, hs1, by omega, HN, HB3⟩
                case measure => simp [intOf]; omega
          · by_cases hxe : x = W
            · subst hxe
              have HEN : Hid (gapAt r.pieces row (x + 1) = ((gapAt r.pieces row x).1 ++ dig (gapAt r.pieces row x).2, 0)) := Lib.hid (by have h1 := gapAt_end r.pieces row; rw [HRL.out] at h1; exact h1)
              clear x0 x3 x4 x5 x6 x7 x8 x9 x10 l0 l1 l2 l3 l4
              by_cases hg0 : g = 0
              · subst hg0
                have HN : Hid (S = str (ahead D ++ (gapAt r.pieces row (x + 1)).1) ∧ 0 = (gapAt r.pieces row (x + 1)).2) := Lib.hid (by
                  rw [HEN.out, ← hS.out.2]
                  exact ⟨by simpa [dig] using hS.out.1, rfl⟩)
                go_wp2_with fail
                go_roundw
                case rel => exact ⟨x + 1, 0, S, by omega, by go_num, rfl, rfl, hS9, by omega, HN, hbel⟩
                case measure => simp [intOf]
              · have HD1 : Hid (∀ V, Calls Tryd.prog 22 #[.int .i64 (g : Int)] V fun e w' => e = .returned (.string (numS g)) ∧ V = w') := Lib.hid (fun V => turned (dec_all g (by omega) (by omega) V))
                have hgp : (0 : Int) < (g : Int) := by omega
                have z2 : (numS (g : Int)).size ≤ 4 := numS_len4 (by omega) (by omega)
                have HN : Hid (S ++ numS g = str (ahead D ++ (gapAt r.pieces row (x + 1)).1) ∧ 0 = (gapAt r.pieces row (x + 1)).2) := Lib.hid (by
                  rw [HEN.out, ← hS.out.2, dig_num hg0 (by omega), hS.out.1, numS, str_app]
                  exact ⟨by simp, rfl⟩)
                have hs1 : (S ++ numS g).size ≤ 90 := by rw [HN.out.1, str_size]; exact HLE.out (x + 1)
                clear hg0
                go_wp2_with fail
                go_at_call 22; refine (HD1.out _).mono ?_; rintro e w' ⟨rfl, rfl⟩
                go_wp2_with fail
                go_roundw
                case rel => exact ⟨x + 1, 0, S ++ numS g, by omega, by go_num, rfl, rfl, hs1, by omega, HN, hbel⟩
                case measure => simp [intOf]
            · obtain rfl : x = W + 1 := by omega
              have HN : Hid (S = str (Lib.join (D ++ [rowT r.pieces W p.cells y]) [47]) ∧ (D ++ [rowT r.pieces W p.cells y]) ++ rowsT r.pieces W p.cells y = rowsT r.pieces W p.cells H ∧ (D ++ [rowT r.pieces W p.cells y]).length + y = H) := Lib.hid ⟨by
                  have h1 := hS.out.1
                  rw [gapAt, if_neg (by rw [HRL.out]; omega)] at h1
                  rw [join_snoc, h1, rowT, HRO.out], rowsT_split2 hD.out.2.1, by have := hD.out.2.2; rw [List.length_append]; simp; omega⟩
              have hs1 : S.size ≤ 80 := by rw [HN.out.1, str_size]; exact HJL.out _ y HN.out.2.1
              clear x0 x3 x4 x5 x6 x7 x8 x9 x10 l0 l1 l2 l3 l4
              go_wp2_with fail
              go_roundw
              case rel => exact ⟨y, D ++ [rowT r.pieces W p.cells y], S, by omega, by go_num, rfl, hs1, HN, hbel⟩
              case measure => simp [intOf]

end Go.Proofs.YtakekeljndofcaaDoor
