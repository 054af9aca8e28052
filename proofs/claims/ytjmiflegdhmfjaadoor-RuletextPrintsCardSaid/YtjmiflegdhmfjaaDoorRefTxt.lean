/- The reference's RulesText: the text of rules, as strings put together. -/
import Derived.Test.YtjmiflegdhmfjaaDoorRefLet
import Derived.Test.YtjmiflegdhmfjaaDoorEndT
import Derived.Test.YtjmiflegdhmfjaaDoorPrint
set_option maxRecDepth 100000
namespace Go.Proofs.YtjmiflegdhmfjaaDoor
open Go.ChangeShapes Go.WideShapes Go.ChangeAt Go.RowKit

theorem str_of (s : ByteArray) : s = str s.data.toList := rfl
theorem head_str (r : RulesD) : (⟨#[103, 97, 109, 101, 32]⟩ ++ r.name ++ ⟨#[32]⟩ ++ numS r.width ++ ⟨#[32]⟩ ++ numS r.height ++ ⟨#[10]⟩ : ByteArray) = str (gameL r) := by
  have h : (str [103, 97, 109, 101, 32] ++ str r.name.data.toList ++ str [32] ++ str (num r.width) ++ str [32] ++ str (num r.height) ++ str [10] : ByteArray) = str (gameL r) := by
    simp only [str_app]
    congr 1
    simp [gameL, lineB_cons, lineB_one]
  exact h
/-- A type's line, up to the letter into which it changes. -/
def preL (x : PieceD) : List UInt8 := [112, 105, 101, 99, 101, 32] ++ lettB x ++ [32] ++ num x.hand ++ [32]
theorem headL_pre (ps : List PieceD) (x : PieceD) : headL ps x = preL x ++ toB ps x ++ [10] := by simp [headL, preL, lineB_cons, lineB_one]
theorem preL_le {n : Nat} {x : PieceD} (h : POk n x) : (preL x).length ≤ 20 := by
  obtain ⟨_, ⟨h0, h1⟩, _⟩ := h
  have := num_le (n := x.hand) (by omega) (by omega)
  simp only [preL, List.length_append, List.length_cons, List.length_nil, lettB_le]; omega
theorem pre_str (x : PieceD) (c : ByteArray) (hc : c = str (lettB x)) : (⟨#[112, 105, 101, 99, 101, 32]⟩ ++ c ++ ⟨#[32]⟩ ++ numS x.hand ++ ⟨#[32]⟩ : ByteArray) = str (preL x) := by
  subst hc
  have h : (str [112, 105, 101, 99, 101, 32] ++ str (lettB x) ++ str [32] ++ str (num x.hand) ++ str [32] : ByteArray) = str (preL x) := by
    simp only [str_app]
    rfl
  exact h
theorem way_str (y : WayD) : (⟨#[119, 97, 121, 32]⟩ ++ numS y.dx ++ ⟨#[32]⟩ ++ numS y.dy ++ ⟨#[32]⟩ ++ numS y.most ++ ⟨#[32]⟩ ++ str (takeB y.take) ++ ⟨#[10]⟩ : ByteArray) = str (wayL y) := by
  have h : (str [119, 97, 121, 32] ++ str (num y.dx) ++ str [32] ++ str (num y.dy) ++ str [32] ++ str (num y.most) ++ str [32] ++ str (takeB y.take) ++ str [10] : ByteArray) = str (wayL y) := by
    simp only [str_app]
    congr 1
    simp [wayL, lineB_cons, lineB_one]
  exact h
theorem rowB_take {ps : List PieceD} {st : List Int} {W y j : Nat} {c : Int} (hj : j < W) (h : st[y * W + j]? = some c) : (rowB ps st W y).take (j + 1) = (rowB ps st W y).take j ++ [cellB ps c] := by
  have h1 : (rowB ps st W y)[j]? = some (cellB ps c) := by simp [rowB, hj, h]
  rw [List.take_add_one, h1]; rfl
theorem row_str (T : ByteArray) (S : ByteArray) (ps : List PieceD) (st : List Int) (W y : Nat) (hT : T = S ++ str ([114, 111, 119, 32] ++ (rowB ps st W y).take W)) : T ++ ⟨#[10]⟩ = S ++ str (rowL ps st W y) := by
  have h1 : (rowB ps st W y).take W = rowB ps st W y := List.take_of_length_le (by rw [rowB_len]; exact Nat.le_refl _)
  rw [hT, h1, ByteArray.append_assoc, show (⟨#[10]⟩ : ByteArray) = str [10] from rfl, str_app]
  congr 2
  simp [rowL, lineB_cons, lineB_one]
/-- A condition's line, up to how it ends. -/
def endH (ps : List PieceD) (x : EndD) : List UInt8 := [101, 110, 100, 32] ++ (if x.kind = 0 then [108, 105, 110, 101, 32] ++ num x.count else if x.kind = 1 then [114, 101, 97, 99, 104, 32] ++ pieceOf ps x.piece else [116, 97, 107, 101, 32] ++ pieceOf ps x.piece ++ [32] ++ num x.count)
theorem endL_h (ps : List PieceD) (x : EndD) : endL ps x = endH ps x ++ ([32] ++ howB x.loses ++ [10]) := by
  unfold endL endH
  split
  · simp [lineB_cons, lineB_one]
  · split <;> simp [lineB_cons, lineB_one]
theorem end_line (ps : List PieceD) (x : EndD) (h : x.kind = 0) : (⟨#[101, 110, 100, 32]⟩ ++ (⟨#[108, 105, 110, 101, 32]⟩ ++ numS x.count) : ByteArray) = str (endH ps x) := by
  have h1 : (str [101, 110, 100, 32] ++ (str [108, 105, 110, 101, 32] ++ str (num x.count)) : ByteArray) = str (endH ps x) := by
    simp only [str_app]
    rw [endH, if_pos h]
  exact h1
theorem end_reach (ps : List PieceD) (x : EndD) (c : ByteArray) (h : x.kind = 1) (hc : c = str (pieceOf ps x.piece)) : (⟨#[101, 110, 100, 32]⟩ ++ (⟨#[114, 101, 97, 99, 104, 32]⟩ ++ c) : ByteArray) = str (endH ps x) := by
  subst hc
  have h1 : (str [101, 110, 100, 32] ++ (str [114, 101, 97, 99, 104, 32] ++ str (pieceOf ps x.piece)) : ByteArray) = str (endH ps x) := by
    simp only [str_app]
    rw [endH, if_neg (by omega), if_pos h]
  exact h1
theorem end_take (ps : List PieceD) (x : EndD) (c : ByteArray) (h : x.kind = 2) (hc : c = str (pieceOf ps x.piece)) : (⟨#[101, 110, 100, 32]⟩ ++ (⟨#[116, 97, 107, 101, 32]⟩ ++ c ++ ⟨#[32]⟩ ++ numS x.count) : ByteArray) = str (endH ps x) := by
  subst hc
  have h1 : (str [101, 110, 100, 32] ++ (str [116, 97, 107, 101, 32] ++ str (pieceOf ps x.piece) ++ str [32] ++ str (num x.count)) : ByteArray) = str (endH ps x) := by
    simp only [str_app]
    rw [endH, if_neg (by omega), if_neg (by omega)]
  exact h1
theorem endH_le {n : Nat} (ps : List PieceD) {x : EndD} (h : EOk n x) : (endH ps x).length ≤ 30 := by
  have h1 := endL_le ps h
  rw [endL_h, List.length_append] at h1
  omega
theorem how_str (b : Bool) : (if b then ⟨#[32, 108, 111, 115, 101, 115, 10]⟩ else ⟨#[32, 119, 105, 110, 115, 10]⟩ : ByteArray) = str ([32] ++ howB b ++ [10]) := by cases b <;> rfl
theorem tail_str (r : RulesD) (L : List UInt8) : (str L ++ ⟨#[98, 108, 111, 99, 107, 101, 100, 32]⟩ ++ str (blockB r.blocked) ++ ⟨#[10, 113, 117, 105, 101, 116, 32]⟩ ++ numS r.quiet ++ ⟨#[10, 114, 101, 112, 101, 97, 116, 32]⟩ ++ numS r.rep ++ ⟨#[10]⟩ : ByteArray) = str (L ++ blockL r.blocked ++ quietL r.quiet ++ repL r.rep) := by
  have h : (str L ++ str [98, 108, 111, 99, 107, 101, 100, 32] ++ str (blockB r.blocked) ++ str [10, 113, 117, 105, 101, 116, 32] ++ str (num r.quiet) ++ str [10, 114, 101, 112, 101, 97, 116, 32] ++ str (num r.rep) ++ str [10] : ByteArray) = str (L ++ blockL r.blocked ++ quietL r.quiet ++ repL r.rep) := by
    simp only [str_app]
    congr 1
    simp [blockL, quietL, repL, lineB_cons, lineB_one]
  exact h
theorem waysL_succ {l : List WayD} {k : Nat} {x : WayD} (h : l[k]? = some x) : waysL (l.take (k + 1)) = waysL (l.take k) ++ wayL x := flat_succ h
theorem piecesL_succ {ps l : List PieceD} {k : Nat} {x : PieceD} (h : l[k]? = some x) : piecesL ps (l.take (k + 1)) = piecesL ps (l.take k) ++ pieceL ps x := flat_succ h
theorem endsL_succ {ps : List PieceD} {l : List EndD} {k : Nat} {x : EndD} (h : l[k]? = some x) : endsL ps (l.take (k + 1)) = endsL ps (l.take k) ++ endL ps x := flat_succ h
theorem game_pieces_le {r : RulesD} (h : ROk r) (k : Nat) : (gameL r ++ piecesL r.pieces (r.pieces.take k)).length ≤ 3700 := by
  have h1 := gameL_le h
  have h2 := piecesL_le r.pieces (l := r.pieces.take k) (fun y hy => h.ps y (List.mem_of_mem_take hy))
  have h3 : (r.pieces.take k).length * 600 ≤ 6 * 600 := Nat.mul_le_mul_right 600 (by have := h.p6; rw [List.length_take]; omega)
  rw [List.length_append]; omega
set_option maxHeartbeats 8000000 in
theorem rulesText_any (r : RulesD) (vp vs ve : Value) (w : World) (hr : IsRules w r vp vs ve) (hk : ROk r) :
    Calls Tryd.prog 6 #[RulesV r vp vs ve] w fun e w' => e = .returned (.string (str (textB r))) ∧ Below w.heap.size w w' := by
  obtain ⟨n, hn⟩ : ∃ n, n = r.pieces.length := ⟨_, rfl⟩
  obtain ⟨m, hm⟩ : ∃ m, m = r.ends.length := ⟨_, rfl⟩
  have hn6 : n ≤ 6 := by rw [hn]; exact hk.p6
  have hm6 : m ≤ 6 := by rw [hm]; exact hk.e6
  obtain ⟨ap, cp, rfl, hcp, -⟩ := hr.1.shape hn
  obtain ⟨W, hW⟩ := Int.eq_ofNat_of_zero_le (show 0 ≤ r.width by have := hk.w1; omega)
  obtain ⟨H, hH⟩ := Int.eq_ofNat_of_zero_le (show 0 ≤ r.height by have := hk.h1; omega)
  obtain ⟨hW1, hW8⟩ : 1 ≤ W ∧ W ≤ 8 := by have := hk.w1; have := hk.w2; omega
  obtain ⟨hH1, hH8⟩ : 1 ≤ H ∧ H ≤ 8 := by have := hk.h1; have := hk.h2; omega
  obtain ⟨A, hA⟩ : ∃ A : Nat, A = r.start.length := ⟨_, rfl⟩
  have HAA : Hid (A = W * H) := Lib.hid (by have := hk.sl; rw [hW, hH, ← hA, ← Int.natCast_mul] at this; exact Int.ofNat_inj.1 this)
  have HWE := Lib.hid hW
  have HHE := Lib.hid hH
  have HLA := Lib.hid hA
  obtain ⟨sa, cs, rfl, hcs, -⟩ := hr.2.1.shape hA
  obtain ⟨ae, ce, rfl, hce, -⟩ := hr.2.2.shape hm
  have HX : Hid (RBox (w.alloc (.cells #[.string r.name, .int .i64 r.width, .int .i64 r.height, .slice ap n cp, .slice sa A cs, .bool r.falls, .bool r.keeps, .slice ae m ce, .int .i64 r.blocked, .int .i64 r.quiet, .int .i64 r.rep] 26)) w.heap.size 26 r (.slice ap n cp) (.slice sa A cs) (.slice ae m ce)) := Lib.hid (RBox.new w _ r _ _ _)
  have hba := (Below.refl w.heap.size w).alloc (Nat.le_refl _) (.cells #[.string r.name, .int .i64 r.width, .int .i64 r.height, .slice ap n cp, .slice sa A cs, .bool r.falls, .bool r.keeps, .slice ae m ce, .int .i64 r.blocked, .int .i64 r.quiet, .int .i64 r.rep] 26)
  have HB := Lib.hid hba
  have HR := Lib.hid (hr.below hba (Nat.le_refl _))
  have HK := Lib.hid hk
  have HN := Lib.hid hn
  have HM := Lib.hid hm
  have hsn : r.name.size ≤ 8 := hk.name
  have z1 : (numS r.width).size ≤ 3 := numS_size (by have := hk.w1; omega) (by have := hk.w2; omega)
  have z2 : (numS r.height).size ≤ 3 := numS_size (by have := hk.h1; omega) (by have := hk.h2; omega)
  unfold RulesV
  clear hr hk hn hm hba hW hH hA
  go_enter Tryd.func6, Tryd.ntmps6
  go_wp2_with fail
  generalize w.alloc (.cells #[.string r.name, .int .i64 r.width, .int .i64 r.height, .slice ap n cp, .slice sa A cs, .bool r.falls, .bool r.keeps, .slice ae m ce, .int .i64 r.blocked, .int .i64 r.quiet, .int .i64 r.rep] 26) = w1 at HX HB HR ⊢
  obtain ⟨⟨b0, b1, b2, b3, -⟩, -⟩ := HX.out.facts
  have HPC : Hid _ := Lib.hid (fun (j : Nat) (hj : j < n) => pcs_kept HR.out.1 HN.out rfl (Below.refl _ w1) hj)
  have HST : Hid (∀ k, k < A → ∃ g0 o0 x, sa = some ⟨g0, o0, none⟩ ∧ r.start[k]? = some x ∧ ∀ V, Below w1.heap.size w1 V → V.cell? ⟨g0, o0 + k * 1, none⟩ = some (.int .i64 x)) := Lib.hid (fun k hk => by
    obtain ⟨g0, o0, x, e, hx, hc⟩ := HR.out.2.1.at2 HLA.out hk
    exact ⟨g0, o0, x, e, hx, fun V hV => cell_keeps hV (Nat.le_refl _) hc⟩)
  have HEN : Hid (∀ k, k < m → ∃ g0 o0 x, ae = some ⟨g0, o0, none⟩ ∧ r.ends[k]? = some x ∧ ∀ V, Below w1.heap.size w1 V → EndAt V g0 (o0 + k * 4) x) := Lib.hid (fun k hk => by
    obtain ⟨g0, o0, x, e, hx, hc⟩ := HR.out.2.2.at2 HM.out hk
    exact ⟨g0, o0, x, e, hx, fun V hV => end_keeps _ _ _ _ _ _ hV (Nat.le_refl _) hc⟩)
  refine wp_region_held_drew (S := fun w' => w'.cell? ⟨w.heap.size, 0, none⟩ = some (.string r.name) ∧ w'.cell? ⟨w.heap.size, 1, none⟩ = some (.int .i64 r.width) ∧ w'.cell? ⟨w.heap.size, 2, none⟩ = some (.int .i64 r.height)) (by kernel_rfl) ?_ (fun hHeld => ?_)
  · go_keep
  refine wpAnyH_take (i := 0) (v := ?_) rfl (by kernel_rfl) (by kernel_rfl) (by kernel_rfl) (fun _ _ _ h => h) (Or.inl ⟨by rfl, ?_⟩) (by assumption) ?_
  rotate_left
  · intro w hSw
    (try dsimp only at hSw)
    go_simp
    all_goals first | with_reducible rfl | rw [if_neg (by omega)]
  simp only [Act.put, List.setIfInBounds_toArray, List.set_cons_zero, List.set_cons_succ, List.getElem_toArray, List.getElem_cons_zero]
  refine wpAnyH_take (i := 1) (v := ?_) rfl (by kernel_rfl) (by kernel_rfl) (by kernel_rfl) (fun _ _ _ h => h) (Or.inl ⟨by rfl, ?_⟩) (by assumption) ?_
  rotate_left
  · intro w hSw
    (try dsimp only at hSw)
    go_simp
    all_goals first | with_reducible rfl | rw [if_neg (by omega)]
  simp only [Act.put, List.setIfInBounds_toArray, List.set_cons_zero, List.set_cons_succ, List.getElem_toArray, List.getElem_cons_zero, List.getElem_cons_succ]
  refine wpAnyH_take (i := 2) (v := ?_) rfl (by kernel_rfl) (by kernel_rfl) (by kernel_rfl) (fun _ _ _ h => h) (Or.inl ⟨by rfl, ?_⟩) (by assumption) ?_
  rotate_left
  · intro w hSw
    (try dsimp only at hSw)
    go_simp
    all_goals first | with_reducible rfl | rw [if_neg (by omega)]
  simp only [Act.put, List.setIfInBounds_toArray, List.set_cons_zero, List.set_cons_succ, List.getElem_toArray, List.getElem_cons_zero, List.getElem_cons_succ]
  refine wpAnyH_take (i := 3) (v := ?_) rfl (by kernel_rfl) (by kernel_rfl) (by kernel_rfl) (fun _ _ _ h => h) (Or.inl ⟨by rfl, ?_⟩) (by assumption) ?_
  rotate_left
  · intro w hSw
    (try dsimp only at hSw)
    go_simp
    all_goals first | with_reducible rfl | rw [if_neg (by omega)]
  simp only [Act.put, List.setIfInBounds_toArray, List.set_cons_zero, List.set_cons_succ, List.getElem_toArray, List.getElem_cons_zero, List.getElem_cons_succ]
  refine wpAnyH_take (i := 4) (v := ?_) rfl (by kernel_rfl) (by kernel_rfl) (by kernel_rfl) (fun _ _ _ h => h) (Or.inl ⟨by rfl, ?_⟩) (by assumption) ?_
  rotate_left
  · intro w hSw
    (try dsimp only at hSw)
    go_simp
    all_goals first | with_reducible rfl | rw [if_neg (by omega)]
  simp only [Act.put, List.setIfInBounds_toArray, List.set_cons_zero, List.set_cons_succ, List.getElem_toArray, List.getElem_cons_zero, List.getElem_cons_succ]
  refine wpAnyH_take (i := 5) (v := ?_) rfl (by kernel_rfl) (by kernel_rfl) (by kernel_rfl) (fun _ _ _ h => h) (Or.inl ⟨by rfl, ?_⟩) (by assumption) ?_
  rotate_left
  · intro w hSw
    (try dsimp only at hSw)
    go_simp
    all_goals first | with_reducible rfl | rw [if_neg (by omega)]
  simp only [Act.put, List.setIfInBounds_toArray, List.set_cons_zero, List.set_cons_succ, List.getElem_toArray, List.getElem_cons_zero, List.getElem_cons_succ]
  refine wpAnyH_take (i := 9) (v := ?_) rfl (by kernel_rfl) (by kernel_rfl) (by kernel_rfl) (fun _ _ _ h => h) (Or.inl ⟨by rfl, ?_⟩) (by assumption) ?_
  rotate_left
  · intro w hSw
    (try dsimp only at hSw)
    go_simp
    all_goals first | with_reducible rfl | rw [if_neg (by omega)]
  simp only [Act.put, List.setIfInBounds_toArray, List.set_cons_zero, List.set_cons_succ, List.getElem_toArray, List.getElem_cons_zero, List.getElem_cons_succ]
  refine wpAnyH_take (i := 10) (v := ?_) rfl (by kernel_rfl) (by kernel_rfl) (by kernel_rfl) (fun _ _ _ h => h) (Or.inl ⟨by rfl, ?_⟩) (by assumption) ?_
  rotate_left
  · intro w hSw
    (try dsimp only at hSw)
    go_simp
    all_goals first | with_reducible rfl | rw [if_neg (by omega)]
  simp only [Act.put, List.setIfInBounds_toArray, List.set_cons_zero, List.set_cons_succ, List.getElem_toArray, List.getElem_cons_zero, List.getElem_cons_succ]
  refine wpAnyH_ready (rs := [6]) (by kernel_rfl) (by simp) (AllReadyH.cons rfl (fun K hK => ?_) AllReadyH.nil)
  go_simp
  go_at_call 16; refine (turned (dec_any r.width (by have := HK.out.w1; omega) (by have := HK.out.w2; omega) _)).mono ?_; rintro e w' ⟨rfl, rfl⟩
  refine hK.out _ _ ?_ (fun hHeld => ?_)
  · first | exact hHeld | go_keep
  clear hK K
  try simp only [Act.put, List.setIfInBounds_toArray, List.set_cons_zero, List.set_cons_succ, List.getElem_toArray, List.getElem_cons_zero, List.getElem_cons_succ]
  refine wpAnyH_take (i := 7) (v := ?_) rfl (by kernel_rfl) (by kernel_rfl) (by kernel_rfl) (fun _ _ _ h => h) (Or.inl ⟨by rfl, ?_⟩) (by assumption) ?_
  rotate_left
  · intro w hSw
    (try dsimp only at hSw)
    go_simp
    all_goals first | with_reducible rfl | rw [if_neg (by omega)]
  simp only [Act.put, List.setIfInBounds_toArray, List.set_cons_zero, List.set_cons_succ, List.getElem_toArray, List.getElem_cons_zero, List.getElem_cons_succ]
  refine wpAnyH_take (i := 8) (v := ?_) rfl (by kernel_rfl) (by kernel_rfl) (by kernel_rfl) (fun _ _ _ h => h) (Or.inl ⟨by rfl, ?_⟩) (by assumption) ?_
  rotate_left
  · intro w hSw
    (try dsimp only at hSw)
    go_simp
    all_goals first | with_reducible rfl | rw [if_neg (by omega)]
  simp only [Act.put, List.setIfInBounds_toArray, List.set_cons_zero, List.set_cons_succ, List.getElem_toArray, List.getElem_cons_zero, List.getElem_cons_succ]
  refine wpAnyH_ready (rs := [11]) (by kernel_rfl) (by simp) (AllReadyH.cons rfl (fun K hK => ?_) AllReadyH.nil)
  go_simp
  go_at_call 16; refine (turned (dec_any r.height (by have := HK.out.h1; omega) (by have := HK.out.h2; omega) _)).mono ?_; rintro e w' ⟨rfl, rfl⟩
  refine hK.out _ _ ?_ (fun hHeld => ?_)
  · first | exact hHeld | go_keep
  clear hK K
  try simp only [Act.put, List.setIfInBounds_toArray, List.set_cons_zero, List.set_cons_succ, List.getElem_toArray, List.getElem_cons_zero, List.getElem_cons_succ]
  refine wpAnyH_take (i := 12) (v := ?_) rfl (by kernel_rfl) (by kernel_rfl) (by kernel_rfl) (fun _ _ _ h => h) (Or.inl ⟨by rfl, ?_⟩) (by assumption) ?_
  rotate_left
  · intro w hSw
    (try dsimp only at hSw)
    go_simp
    all_goals first | with_reducible rfl | rw [if_neg (by omega)]
  simp only [Act.put, List.setIfInBounds_toArray, List.set_cons_zero, List.set_cons_succ, List.getElem_toArray, List.getElem_cons_zero, List.getElem_cons_succ]
  refine wpAnyH_take (i := 13) (v := ?_) rfl (by kernel_rfl) (by kernel_rfl) (by kernel_rfl) (fun _ _ _ h => h) (Or.inl ⟨by rfl, ?_⟩) (by assumption) ?_
  rotate_left
  · intro w hSw
    (try dsimp only at hSw)
    go_simp
    all_goals first | with_reducible rfl | rw [if_neg (by omega)]
  simp only [Act.put, List.setIfInBounds_toArray, List.set_cons_zero, List.set_cons_succ, List.getElem_toArray, List.getElem_cons_zero, List.getElem_cons_succ]
  refine wpAnyH_take (i := 14) (v := ?_) rfl (by kernel_rfl) (by kernel_rfl) (by kernel_rfl) (fun _ _ _ h => h) (Or.inl ⟨by rfl, ?_⟩) (by assumption) ?_
  rotate_left
  · intro w hSw
    (try dsimp only at hSw)
    go_simp
    all_goals first | with_reducible rfl | rw [if_neg (by omega)]
  simp only [Act.put, List.setIfInBounds_toArray, List.set_cons_zero, List.set_cons_succ, List.getElem_toArray, List.getElem_cons_zero, List.getElem_cons_succ]
  refine wpAnyH_done (by kernel_rfl) ?_ _
  have HBD : Hid (Below w1.heap.size w1 w1.drew) := Lib.hid (Below.refl _ _).drew
  have b3 : w1.drew.cell? ⟨w.heap.size, 3, none⟩ = some (.slice ap n cp) := b3
  generalize w1.drew = w2 at b3 HBD ⊢
  clear b0 b1 b2
  go_wp2_with fail
  clear b3 hsn z1 z2
  go_loopw [3, 5, 7, 31] (fun s _ _ i wr => ∃ (k : Nat) (S : ByteArray), k ≤ n ∧ i = .int .i64 (k : Int) ∧ s = .string S ∧ S.size ≤ 3700 ∧ Hid (S = str (gameL r ++ piecesL r.pieces (r.pieces.take k))) ∧ Hid (Below w1.heap.size w1 wr)) (fun _ _ _ i _ => n - (intOf i).toNat)
  case atStart => exact ⟨0, _, by omega, rfl, rfl, by rw [head_str, str_size]; have := gameL_le HK.out; omega, Lib.hid (by rw [head_str]; simp [piecesL]), HBD⟩
  case round =>
    clear HBD
    obtain ⟨k, S, hk, rfl, rfl, hS, HS, hbel⟩ := hrel
    by_cases hlt : k < n
    · obtain ⟨g, off, x, u, rfl, hx, hat⟩ := HPC.out k hlt
      obtain ⟨c0, c1, c2, c3, hu⟩ := hat wr hbel.out
      obtain ⟨mw, hmw⟩ : ∃ mw : Nat, mw = x.ways.length := ⟨_, rfl⟩
      obtain ⟨au, cu, rfl, hmcu, -⟩ := hu.shape hmw
      have HXK := Lib.hid hx
      have HMW := Lib.hid hmw
      have HXO := Lib.hid (HK.out.ps x (List.mem_of_getElem? hx))
      have HU : Hid (∀ W, Below w1.heap.size w1 W → IsSl WayAt 4 W (.slice au mw cu) x.ways) := Lib.hid (fun W h => (hat W h).2.2.2.2)
      have hm16 : mw ≤ 16 := by rw [hmw]; exact HXO.out.2.2.2.1
      have hkc : k < cp := by omega
      clear hx hmw hu hat
      have hba := (Below.refl wr.heap.size wr).alloc (Nat.le_refl _) (.cells #[.int .u8 x.letter, .int .i64 x.hand, .int .i64 x.promote, .slice au mw cu] 49)
      have HPB : Hid (PBox (wr.alloc (.cells #[.int .u8 x.letter, .int .i64 x.hand, .int .i64 x.promote, .slice au mw cu] 49)) wr.heap.size x (.slice au mw cu)) := Lib.hid (heap_alloc_new wr _)
      have HBA : Hid (Below w1.heap.size w1 (wr.alloc (.cells #[.int .u8 x.letter, .int .i64 x.hand, .int .i64 x.promote, .slice au mw cu] 49))) := Lib.hid (hbel.out.trans (hba.mono hbel.out.size))
      go_wp2_with fail
      clear hba hbel c0 c1 c2 c3
      generalize wr.alloc (.cells #[.int .u8 x.letter, .int .i64 x.hand, .int .i64 x.promote, .slice au mw cu] 49) = wa at HPB HBA ⊢
      obtain ⟨pb, hpb⟩ : ∃ pb, pb = wr.heap.size := ⟨_, rfl⟩
      rw [← hpb] at HPB ⊢
      clear hpb
      obtain ⟨⟨l0, l1⟩, ⟨h0, h1⟩, ⟨p0, p1⟩, -⟩ := HXO.out
      go_cut [3] from 32 to 47 (fun t wx => ∃ T : ByteArray, t = .string T ∧ T.size ≤ 3800 ∧ Hid (T = S ++ str (preL x)) ∧ Hid (Below w1.heap.size w1 wx) ∧ Hid (PBox wx pb x (.slice au mw cu)))
      case first =>
        obtain ⟨c0, c1, c2, c3⟩ := HPB.out.cells
        have hcv := @conv_one x.letter (by omega) (by omega)
        have zl : (str [UInt8.ofNat x.letter.toNat]).size = 1 := by rw [str_size]; rfl
        have zh : (numS x.hand).size ≤ 3 := numS_size (by omega) (by omega)
        refine wp_region_held_drew (S := fun w' => w'.cell? ⟨pb, 0, none⟩ = some (.int .u8 x.letter) ∧ w'.cell? ⟨pb, 1, none⟩ = some (.int .i64 x.hand)) (by kernel_rfl) ?_ (fun hHeld => ?_)
        · go_keep
        refine wpAnyH_take (i := 0) (v := ?_) rfl (by kernel_rfl) (by kernel_rfl) (by kernel_rfl) (fun _ _ _ h => h) (Or.inl ⟨by rfl, ?_⟩) (by assumption) ?_
        rotate_left
        · intro w hSw
          (try dsimp only at hSw)
          go_simp
          all_goals first | with_reducible rfl | rw [if_neg (by omega)]
        simp only [Act.put, List.setIfInBounds_toArray, List.set_cons_zero, List.set_cons_succ, List.getElem_toArray, List.getElem_cons_zero]
        refine wpAnyH_take (i := 1) (v := ?_) rfl (by kernel_rfl) (by kernel_rfl) (by kernel_rfl) (fun _ _ _ h => h) (Or.inl ⟨by rfl, ?_⟩) (by assumption) ?_
        rotate_left
        · intro w hSw
          (try dsimp only at hSw)
          go_simp
          all_goals first | with_reducible rfl | rw [if_neg (by omega)]
        simp only [Act.put, List.setIfInBounds_toArray, List.set_cons_zero, List.set_cons_succ, List.getElem_toArray, List.getElem_cons_zero, List.getElem_cons_succ]
        refine wpAnyH_take (i := 2) (v := ?_) rfl (by kernel_rfl) (by kernel_rfl) (by kernel_rfl) (fun _ _ _ h => h) (Or.inl ⟨by rfl, ?_⟩) (by assumption) ?_
        rotate_left
        · intro w hSw
          (try dsimp only at hSw)
          go_simp
          all_goals first | with_reducible rfl | rw [if_neg (by omega)]
        simp only [Act.put, List.setIfInBounds_toArray, List.set_cons_zero, List.set_cons_succ, List.getElem_toArray, List.getElem_cons_zero, List.getElem_cons_succ]
        refine wpAnyH_take (i := 7) (v := ?_) rfl (by kernel_rfl) (by kernel_rfl) (by kernel_rfl) (fun _ _ _ h => h) (Or.inl ⟨by rfl, ?_⟩) (by assumption) ?_
        rotate_left
        · intro w hSw
          (try dsimp only at hSw)
          go_simp
          all_goals first | with_reducible rfl | rw [if_neg (by omega)]
        simp only [Act.put, List.setIfInBounds_toArray, List.set_cons_zero, List.set_cons_succ, List.getElem_toArray, List.getElem_cons_zero, List.getElem_cons_succ]
        refine wpAnyH_take (i := 8) (v := ?_) rfl (by kernel_rfl) (by kernel_rfl) (by kernel_rfl) (fun _ _ _ h => h) (Or.inl ⟨by rfl, ?_⟩) (by assumption) ?_
        rotate_left
        · intro w hSw
          (try dsimp only at hSw)
          go_simp
          all_goals first | with_reducible rfl | rw [if_neg (by omega)]
        simp only [Act.put, List.setIfInBounds_toArray, List.set_cons_zero, List.set_cons_succ, List.getElem_toArray, List.getElem_cons_zero, List.getElem_cons_succ]
        refine wpAnyH_ready (rs := [3, 9]) (by kernel_rfl) (by simp) (AllReadyH.cons rfl (fun K hK => ?_) (AllReadyH.cons rfl (fun K hK => ?_) AllReadyH.nil))
        · go_simp
          skip
          refine hK.out _ _ ?_ (fun hHeld => ?_)
          · first | exact hHeld | go_keep
          clear hK K
          try simp only [Act.put, List.setIfInBounds_toArray, List.set_cons_zero, List.set_cons_succ, List.getElem_toArray, List.getElem_cons_zero, List.getElem_cons_succ]
          have hnew : ((wa.drew).alloc (.cells #[.int .u8 x.letter] 5)).cell? ⟨wa.heap.size, 0, none⟩ = some (.int .u8 x.letter) := by simp [go_sem]
          refine held_weaken (S' := fun w' => (w'.cell? ⟨pb, 0, none⟩ = some (.int .u8 x.letter) ∧ w'.cell? ⟨pb, 1, none⟩ = some (.int .i64 x.hand)) ∧ w'.cell? ⟨wa.heap.size, 0, none⟩ = some (.int .u8 x.letter)) (fun _ h => h.1) _ _ _ _ ?_
          have hHeld := And.intro hHeld hnew
          refine wpAnyH_take (i := 4) (v := ?_) rfl (by kernel_rfl) (by kernel_rfl) (by kernel_rfl) (fun _ _ _ h => h) (Or.inl ⟨by rfl, ?_⟩) (by assumption) ?_
          rotate_left
          · intro w hSw
            (try dsimp only at hSw)
            go_simp
            all_goals first | with_reducible rfl | rw [if_neg (by omega)]
          simp only [Act.put, List.setIfInBounds_toArray, List.set_cons_zero, List.set_cons_succ, List.getElem_toArray, List.getElem_cons_zero, List.getElem_cons_succ]
          refine wpAnyH_take (i := 5) (v := ?_) rfl (by kernel_rfl) (by kernel_rfl) (by kernel_rfl) (fun _ _ _ h => h) (Or.inl ⟨by rfl, ?_⟩) (by assumption) ?_
          rotate_left
          · intro w hSw
            (try dsimp only at hSw)
            go_simp
            all_goals first | with_reducible rfl | rw [if_neg (by omega)]
          simp only [Act.put, List.setIfInBounds_toArray, List.set_cons_zero, List.set_cons_succ, List.getElem_toArray, List.getElem_cons_zero, List.getElem_cons_succ]
          refine wpAnyH_take (i := 6) (v := ?_) rfl (by kernel_rfl) (by kernel_rfl) (by kernel_rfl) (fun _ _ _ h => h) (Or.inl ⟨by rfl, ?_⟩) (by assumption) ?_
          rotate_left
          · intro w hSw
            (try dsimp only at hSw)
            go_simp
            all_goals first | with_reducible rfl | rw [if_neg (by omega)]
          simp only [Act.put, List.setIfInBounds_toArray, List.set_cons_zero, List.set_cons_succ, List.getElem_toArray, List.getElem_cons_zero, List.getElem_cons_succ]
          refine wpAnyH_ready (rs := [9]) (by kernel_rfl) (by simp) (AllReadyH.cons rfl (fun K hK => ?_) AllReadyH.nil)
          go_simp
          go_at_call 16; refine (turned (dec_any x.hand (by omega) (by omega) _)).mono ?_; rintro e w' ⟨rfl, rfl⟩
          refine hK.out _ _ ?_ (fun hHeld => ?_)
          · first | exact hHeld | go_keep
          clear hK K
          try simp only [Act.put, List.setIfInBounds_toArray, List.set_cons_zero, List.set_cons_succ, List.getElem_toArray, List.getElem_cons_zero, List.getElem_cons_succ]
          refine wpAnyH_take (i := 10) (v := ?_) rfl (by kernel_rfl) (by kernel_rfl) (by kernel_rfl) (fun _ _ _ h => h) (Or.inl ⟨by rfl, ?_⟩) (by assumption) ?_
          rotate_left
          · intro w hSw
            (try dsimp only at hSw)
            go_simp
            all_goals first | with_reducible rfl | rw [if_neg (by omega)]
          simp only [Act.put, List.setIfInBounds_toArray, List.set_cons_zero, List.set_cons_succ, List.getElem_toArray, List.getElem_cons_zero, List.getElem_cons_succ]
          refine wpAnyH_take (i := 11) (v := ?_) rfl (by kernel_rfl) (by kernel_rfl) (by kernel_rfl) (fun _ _ _ h => h) (Or.inl ⟨by rfl, ?_⟩) (by assumption) ?_
          rotate_left
          · intro w hSw
            (try dsimp only at hSw)
            go_simp
            all_goals first | with_reducible rfl | rw [if_neg (by omega)]
          simp only [Act.put, List.setIfInBounds_toArray, List.set_cons_zero, List.set_cons_succ, List.getElem_toArray, List.getElem_cons_zero, List.getElem_cons_succ]
          refine wpAnyH_take (i := 12) (v := ?_) rfl (by kernel_rfl) (by kernel_rfl) (by kernel_rfl) (fun _ _ _ h => h) (Or.inl ⟨by rfl, ?_⟩) (by assumption) ?_
          rotate_left
          · intro w hSw
            (try dsimp only at hSw)
            go_simp
            all_goals first | with_reducible rfl | rw [if_neg (by omega)]
          simp only [Act.put, List.setIfInBounds_toArray, List.set_cons_zero, List.set_cons_succ, List.getElem_toArray, List.getElem_cons_zero, List.getElem_cons_succ]
          refine wpAnyH_take (i := 13) (v := ?_) rfl (by kernel_rfl) (by kernel_rfl) (by kernel_rfl) (fun _ _ _ h => h) (Or.inl ⟨by rfl, ?_⟩) (by assumption) ?_
          rotate_left
          · intro w hSw
            (try dsimp only at hSw)
            go_simp
            all_goals first | with_reducible rfl | rw [if_neg (by omega)]
          simp only [Act.put, List.setIfInBounds_toArray, List.set_cons_zero, List.set_cons_succ, List.getElem_toArray, List.getElem_cons_zero, List.getElem_cons_succ]
          refine wpAnyH_done (by kernel_rfl) ?_ _
          go_wp2_with fail
          go_meet
          case rel => exact ⟨_, rfl, by rw [ByteArray.size_append, pre_str x (str [UInt8.ofNat x.letter.toNat]) rfl, str_size]; have := preL_le HXO.out; omega, Lib.hid (by rw [pre_str x (str [UInt8.ofNat x.letter.toNat]) rfl]), Lib.hid ((HBA.out.drew).alloc (Below.size (HBA.out.drew)) _), Lib.hid (HPB.out.below ((Below.refl _ _).drew.alloc (Nat.le_refl _) _))⟩
        · go_simp
          go_at_call 16; refine (turned (dec_any x.hand (by omega) (by omega) _)).mono ?_; rintro e w' ⟨rfl, rfl⟩
          refine hK.out _ _ ?_ (fun hHeld => ?_)
          · first | exact hHeld | go_keep
          clear hK K
          try simp only [Act.put, List.setIfInBounds_toArray, List.set_cons_zero, List.set_cons_succ, List.getElem_toArray, List.getElem_cons_zero, List.getElem_cons_succ]
          refine wpAnyH_ready (rs := [3]) (by kernel_rfl) (by simp) (AllReadyH.cons rfl (fun K hK => ?_) AllReadyH.nil)
          go_simp
          skip
          refine hK.out _ _ ?_ (fun hHeld => ?_)
          · first | exact hHeld | go_keep
          clear hK K
          try simp only [Act.put, List.setIfInBounds_toArray, List.set_cons_zero, List.set_cons_succ, List.getElem_toArray, List.getElem_cons_zero, List.getElem_cons_succ]
          have hnew : ((wa.drew).alloc (.cells #[.int .u8 x.letter] 5)).cell? ⟨wa.heap.size, 0, none⟩ = some (.int .u8 x.letter) := by simp [go_sem]
          refine held_weaken (S' := fun w' => (w'.cell? ⟨pb, 0, none⟩ = some (.int .u8 x.letter) ∧ w'.cell? ⟨pb, 1, none⟩ = some (.int .i64 x.hand)) ∧ w'.cell? ⟨wa.heap.size, 0, none⟩ = some (.int .u8 x.letter)) (fun _ h => h.1) _ _ _ _ ?_
          have hHeld := And.intro hHeld hnew
          refine wpAnyH_take (i := 4) (v := ?_) rfl (by kernel_rfl) (by kernel_rfl) (by kernel_rfl) (fun _ _ _ h => h) (Or.inl ⟨by rfl, ?_⟩) (by assumption) ?_
          rotate_left
          · intro w hSw
            (try dsimp only at hSw)
            go_simp
            all_goals first | with_reducible rfl | rw [if_neg (by omega)]
          simp only [Act.put, List.setIfInBounds_toArray, List.set_cons_zero, List.set_cons_succ, List.getElem_toArray, List.getElem_cons_zero, List.getElem_cons_succ]
          refine wpAnyH_take (i := 5) (v := ?_) rfl (by kernel_rfl) (by kernel_rfl) (by kernel_rfl) (fun _ _ _ h => h) (Or.inl ⟨by rfl, ?_⟩) (by assumption) ?_
          rotate_left
          · intro w hSw
            (try dsimp only at hSw)
            go_simp
            all_goals first | with_reducible rfl | rw [if_neg (by omega)]
          simp only [Act.put, List.setIfInBounds_toArray, List.set_cons_zero, List.set_cons_succ, List.getElem_toArray, List.getElem_cons_zero, List.getElem_cons_succ]
          refine wpAnyH_take (i := 6) (v := ?_) rfl (by kernel_rfl) (by kernel_rfl) (by kernel_rfl) (fun _ _ _ h => h) (Or.inl ⟨by rfl, ?_⟩) (by assumption) ?_
          rotate_left
          · intro w hSw
            (try dsimp only at hSw)
            go_simp
            all_goals first | with_reducible rfl | rw [if_neg (by omega)]
          simp only [Act.put, List.setIfInBounds_toArray, List.set_cons_zero, List.set_cons_succ, List.getElem_toArray, List.getElem_cons_zero, List.getElem_cons_succ]
          refine wpAnyH_take (i := 10) (v := ?_) rfl (by kernel_rfl) (by kernel_rfl) (by kernel_rfl) (fun _ _ _ h => h) (Or.inl ⟨by rfl, ?_⟩) (by assumption) ?_
          rotate_left
          · intro w hSw
            (try dsimp only at hSw)
            go_simp
            all_goals first | with_reducible rfl | rw [if_neg (by omega)]
          simp only [Act.put, List.setIfInBounds_toArray, List.set_cons_zero, List.set_cons_succ, List.getElem_toArray, List.getElem_cons_zero, List.getElem_cons_succ]
          refine wpAnyH_take (i := 11) (v := ?_) rfl (by kernel_rfl) (by kernel_rfl) (by kernel_rfl) (fun _ _ _ h => h) (Or.inl ⟨by rfl, ?_⟩) (by assumption) ?_
          rotate_left
          · intro w hSw
            (try dsimp only at hSw)
            go_simp
            all_goals first | with_reducible rfl | rw [if_neg (by omega)]
          simp only [Act.put, List.setIfInBounds_toArray, List.set_cons_zero, List.set_cons_succ, List.getElem_toArray, List.getElem_cons_zero, List.getElem_cons_succ]
          refine wpAnyH_take (i := 12) (v := ?_) rfl (by kernel_rfl) (by kernel_rfl) (by kernel_rfl) (fun _ _ _ h => h) (Or.inl ⟨by rfl, ?_⟩) (by assumption) ?_
          rotate_left
          · intro w hSw
            (try dsimp only at hSw)
            go_simp
            all_goals first | with_reducible rfl | rw [if_neg (by omega)]
          simp only [Act.put, List.setIfInBounds_toArray, List.set_cons_zero, List.set_cons_succ, List.getElem_toArray, List.getElem_cons_zero, List.getElem_cons_succ]
          refine wpAnyH_take (i := 13) (v := ?_) rfl (by kernel_rfl) (by kernel_rfl) (by kernel_rfl) (fun _ _ _ h => h) (Or.inl ⟨by rfl, ?_⟩) (by assumption) ?_
          rotate_left
          · intro w hSw
            (try dsimp only at hSw)
            go_simp
            all_goals first | with_reducible rfl | rw [if_neg (by omega)]
          simp only [Act.put, List.setIfInBounds_toArray, List.set_cons_zero, List.set_cons_succ, List.getElem_toArray, List.getElem_cons_zero, List.getElem_cons_succ]
          refine wpAnyH_done (by kernel_rfl) ?_ _
          go_wp2_with fail
          go_meet
          case rel => exact ⟨_, rfl, by rw [ByteArray.size_append, pre_str x (str [UInt8.ofNat x.letter.toNat]) rfl, str_size]; have := preL_le HXO.out; omega, Lib.hid (by rw [pre_str x (str [UInt8.ofNat x.letter.toNat]) rfl]), Lib.hid ((HBA.out.drew).alloc (Below.size (HBA.out.drew)) _), Lib.hid (HPB.out.below ((Below.refl _ _).drew.alloc (Nat.le_refl _) _))⟩
      case rest =>
        clear HPB HBA
        obtain ⟨T, rfl, hT, HT, HBC, HPB⟩ := hcut
        obtain ⟨pr, hpr⟩ : ∃ pr : Int, pr = x.promote := ⟨_, rfl⟩
        have HPR := Lib.hid hpr
        obtain ⟨c0, c1, c2, c3⟩ := HPB.out.cells
        rw [← hpr] at c2 p0 p1
        rw [← HN.out] at p1
        clear hpr c0 c1
        have b3 := cell_keeps HBC.out (Nat.le_refl _) HX.out.facts.1.2.2.2.1
        go_upto_if 50 with fail
        go_cut [3] from 32 to 65 (fun t wx => ∃ T : ByteArray, t = .string T ∧ T.size ≤ 3800 ∧ Hid (T = S ++ str (headL r.pieces x)) ∧ Hid (Below w1.heap.size w1 wx) ∧ Hid (PBox wx pb x (.slice au mw cu)))
        case first =>
          by_cases hpos : pr = 0
          · subst hpos
            have HTO : Hid (toB r.pieces x = [45]) := Lib.hid (by rw [toB, if_neg (by rw [← HPR.out]; omega)])
            go_wp2_with fail
            go_meet
            case rel => exact ⟨_, rfl, by rw [ByteArray.size_append]; have : (⟨#[45, 10]⟩ : ByteArray).size = 2 := rfl; have h2 := hT; rw [HT.out, ByteArray.size_append, str_size] at h2 ⊢; have := preL_le HXO.out; omega, Lib.hid (by rw [HT.out, headL_pre, HTO.out, ByteArray.append_assoc]; exact congrArg _ (by rw [List.append_assoc, ← str_app]; rfl)), HBC, HPB⟩
          · obtain ⟨q, hq⟩ := Int.eq_ofNat_of_zero_le (show 0 ≤ pr - 1 by omega)
            obtain rfl : pr = (q : Int) + 1 := by omega
            have hqn : q < n := by omega
            obtain ⟨g', off', y, uy, e, hy, haty⟩ := HPC.out q hqn
            obtain ⟨y0, -⟩ := haty wc HBC.out
            obtain ⟨rfl, rfl⟩ : g = g' ∧ off = off' := by simpa using e
            obtain ⟨⟨ly0, ly1⟩, -⟩ := HK.out.ps y (List.mem_of_getElem? hy)
            have HTO : Hid (toB r.pieces x = lettB y) := Lib.hid (by
              rw [toB, if_pos (by rw [← HPR.out]; omega), ← HPR.out, show ((q : Int) + 1 - 1).toNat = q by omega, hy])
            have hqc : q < cp := by omega
            have hcv := @conv_one y.letter (by omega) (by omega)
            have zl : (str [UInt8.ofNat y.letter.toNat]).size = 1 := by rw [str_size]; rfl
            clear hy hq e haty
            go_wp2_with fail
            go_meet
            case rel => exact ⟨_, rfl, by rw [ByteArray.size_append, ByteArray.size_append]; have : (⟨#[10]⟩ : ByteArray).size = 1 := rfl; have h2 := hT; rw [HT.out, ByteArray.size_append, str_size] at h2 ⊢; have := preL_le HXO.out; omega, Lib.hid (by rw [HT.out, headL_pre, HTO.out, ByteArray.append_assoc]; exact congrArg _ (by rw [List.append_assoc, ← str_app, ← str_app]; rfl)), Lib.hid (HBC.out.alloc (Below.size HBC.out) _), Lib.hid (HPB.out.below ((Below.refl _ _).alloc (Nat.le_refl _) _))⟩
        case rest =>
          clear b3 c2 c3 HT hT HPB HBC
          obtain ⟨T2, rfl, hT2, HT2, HBC, HPB⟩ := hcut
          obtain ⟨-, -, -, c3⟩ := HPB.out.cells
          go_wp2_with fail
          clear c3 HPB
          go_loopw [3, 7, 69] (fun s _ i wr => ∃ (j : Nat) (T : ByteArray), j ≤ mw ∧ i = .int .i64 (j : Int) ∧ s = .string T ∧ T.size ≤ 4300 ∧ Hid (T = S ++ str (headL r.pieces x ++ waysL (x.ways.take j))) ∧ Hid (Below w1.heap.size w1 wr)) (fun _ _ i _ => mw - (intOf i).toNat)
          case atStart => exact ⟨0, T2, by omega, rfl, rfl, by omega, Lib.hid (by rw [HT2.out]; simp [waysL]), HBC⟩
          case round =>
            clear HBC HT2 hT2
            obtain ⟨j, T, hj, rfl, rfl, hT, HT, hbel⟩ := hrel
            by_cases hlt2 : j < mw
            · obtain ⟨gw, offw, y, rfl, hy, c0, c1, c2, c3⟩ := (HU.out wr hbel.out).at2 HMW.out hlt2
              have HYO : Hid _ := Lib.hid (HXO.out.2.2.2.2 y (List.mem_of_getElem? hy))
              have HY : Hid _ := Lib.hid hy
              have hjc : j < cu := by omega
              clear hy
              go_wp2_with fail
              have hba := (Below.refl wr.heap.size wr).alloc (Nat.le_refl _) (.cells #[.int .i64 y.dx, .int .i64 y.dy, .int .i64 y.most, .int .i64 y.take] 53)
              have HWB : Hid (WBox (wr.alloc (.cells #[.int .i64 y.dx, .int .i64 y.dy, .int .i64 y.most, .int .i64 y.take] 53)) wr.heap.size y) := Lib.hid (heap_alloc_new wr _)
              have HBA : Hid (Below w1.heap.size w1 (wr.alloc (.cells #[.int .i64 y.dx, .int .i64 y.dy, .int .i64 y.most, .int .i64 y.take] 53))) := Lib.hid (hbel.out.trans (hba.mono hbel.out.size))
              clear hba hbel c0 c1 c2 c3
              generalize wr.alloc (.cells #[.int .i64 y.dx, .int .i64 y.dy, .int .i64 y.most, .int .i64 y.take] 53) = wa at HWB HBA ⊢
              obtain ⟨wb, hwb⟩ : ∃ wb, wb = wr.heap.size := ⟨_, rfl⟩
              rw [← hwb] at HWB ⊢
              clear hwb
              obtain ⟨⟨x0, x1⟩, ⟨y0, y1⟩, ⟨m0, m1⟩, t0, t1⟩ := HYO.out
              obtain ⟨tk, htk⟩ := Int.eq_ofNat_of_zero_le t0
              have htk4 : (tk : Int) < 3 := by omega
              have htk5 : (0 : Int) ≤ (tk : Int) := by omega
              have HTK : Hid ([[110, 101, 118, 101, 114], [109, 97, 121], [109, 117, 115, 116]][tk]? = some (takeB y.take)) := Lib.hid (by have h1 := take_word t0 t1; rw [htk, Int.toNat_natCast] at h1; rw [htk]; exact h1)
              obtain ⟨c0, c1, c2, c3⟩ := HWB.out.cells
              rw [htk] at c3
              have zx : (numS y.dx).size ≤ 3 := numS_size (by omega) (by omega)
              have zy : (numS y.dy).size ≤ 3 := numS_size (by omega) (by omega)
              have zm : (numS y.most).size ≤ 3 := numS_size (by omega) (by omega)
              have zt : (str (takeB y.take)).size ≤ 5 := by rw [str_size]; exact takeB_le _
              have HHL : Hid (S.size + (headL r.pieces x ++ waysL (x.ways.take j) ++ wayL y).length ≤ 4300) := Lib.hid (by
                have h1 := headL_le r.pieces HXO.out
                have h4 := waysL_le (l := x.ways.take j) (k := 16) (by have := HXO.out.2.2.2.1; rw [List.length_take]; omega) (fun y hy => HXO.out.2.2.2.2 y (List.mem_of_mem_take hy))
                have h5 := wayL_le HYO.out
                rw [List.length_append, List.length_append]; omega)
              clear t0 t1 htk
              refine wp_region_held_drew (S := fun w' => w'.cell? ⟨wb, 0, none⟩ = some (.int .i64 y.dx) ∧ w'.cell? ⟨wb, 1, none⟩ = some (.int .i64 y.dy) ∧ w'.cell? ⟨wb, 2, none⟩ = some (.int .i64 y.most) ∧ w'.cell? ⟨wb, 3, none⟩ = some (.int .i64 (tk : Int))) (by kernel_rfl) ?_ (fun hHeld => ?_)
              · go_keep
              refine wpAnyH_take (i := 0) (v := ?_) rfl (by kernel_rfl) (by kernel_rfl) (by kernel_rfl) (fun _ _ _ h => h) (Or.inl ⟨by rfl, ?_⟩) (by assumption) ?_
              rotate_left
              · intro w hSw
                (try dsimp only at hSw)
                go_simp
                all_goals first | with_reducible rfl | rw [if_neg (by omega)]
              simp only [Act.put, List.setIfInBounds_toArray, List.set_cons_zero, List.set_cons_succ, List.getElem_toArray, List.getElem_cons_zero]
              refine wpAnyH_take (i := 1) (v := ?_) rfl (by kernel_rfl) (by kernel_rfl) (by kernel_rfl) (fun _ _ _ h => h) (Or.inl ⟨by rfl, ?_⟩) (by assumption) ?_
              rotate_left
              · intro w hSw
                (try dsimp only at hSw)
                go_simp
                all_goals first | with_reducible rfl | rw [if_neg (by omega)]
              simp only [Act.put, List.setIfInBounds_toArray, List.set_cons_zero, List.set_cons_succ, List.getElem_toArray, List.getElem_cons_zero, List.getElem_cons_succ]
              refine wpAnyH_take (i := 2) (v := ?_) rfl (by kernel_rfl) (by kernel_rfl) (by kernel_rfl) (fun _ _ _ h => h) (Or.inl ⟨by rfl, ?_⟩) (by assumption) ?_
              rotate_left
              · intro w hSw
                (try dsimp only at hSw)
                go_simp
                all_goals first | with_reducible rfl | rw [if_neg (by omega)]
              simp only [Act.put, List.setIfInBounds_toArray, List.set_cons_zero, List.set_cons_succ, List.getElem_toArray, List.getElem_cons_zero, List.getElem_cons_succ]
              refine wpAnyH_take (i := 6) (v := ?_) rfl (by kernel_rfl) (by kernel_rfl) (by kernel_rfl) (fun _ _ _ h => h) (Or.inl ⟨by rfl, ?_⟩) (by assumption) ?_
              rotate_left
              · intro w hSw
                (try dsimp only at hSw)
                go_simp
                all_goals first | with_reducible rfl | rw [if_neg (by omega)]
              simp only [Act.put, List.setIfInBounds_toArray, List.set_cons_zero, List.set_cons_succ, List.getElem_toArray, List.getElem_cons_zero, List.getElem_cons_succ]
              refine wpAnyH_take (i := 7) (v := ?_) rfl (by kernel_rfl) (by kernel_rfl) (by kernel_rfl) (fun _ _ _ h => h) (Or.inl ⟨by rfl, ?_⟩) (by assumption) ?_
              rotate_left
              · intro w hSw
                (try dsimp only at hSw)
                go_simp
                all_goals first | with_reducible rfl | rw [if_neg (by omega)]
              simp only [Act.put, List.setIfInBounds_toArray, List.set_cons_zero, List.set_cons_succ, List.getElem_toArray, List.getElem_cons_zero, List.getElem_cons_succ]
              refine wpAnyH_take (i := 11) (v := ?_) rfl (by kernel_rfl) (by kernel_rfl) (by kernel_rfl) (fun _ _ _ h => h) (Or.inl ⟨by rfl, ?_⟩) (by assumption) ?_
              rotate_left
              · intro w hSw
                (try dsimp only at hSw)
                go_simp
                all_goals first | with_reducible rfl | rw [if_neg (by omega)]
              simp only [Act.put, List.setIfInBounds_toArray, List.set_cons_zero, List.set_cons_succ, List.getElem_toArray, List.getElem_cons_zero, List.getElem_cons_succ]
              refine wpAnyH_take (i := 12) (v := ?_) rfl (by kernel_rfl) (by kernel_rfl) (by kernel_rfl) (fun _ _ _ h => h) (Or.inl ⟨by rfl, ?_⟩) (by assumption) ?_
              rotate_left
              · intro w hSw
                (try dsimp only at hSw)
                go_simp
                all_goals first | with_reducible rfl | rw [if_neg (by omega)]
              simp only [Act.put, List.setIfInBounds_toArray, List.set_cons_zero, List.set_cons_succ, List.getElem_toArray, List.getElem_cons_zero, List.getElem_cons_succ]
              refine wpAnyH_take (i := 17) (v := ?_) rfl (by kernel_rfl) (by kernel_rfl) (by kernel_rfl) (fun _ _ _ h => h) (Or.inl ⟨by rfl, ?_⟩) (by assumption) ?_
              rotate_left
              · intro w hSw
                (try dsimp only at hSw)
                go_simp
                all_goals first | with_reducible rfl | rw [if_neg (by omega)]
              simp only [Act.put, List.setIfInBounds_toArray, List.set_cons_zero, List.set_cons_succ, List.getElem_toArray, List.getElem_cons_zero, List.getElem_cons_succ]
              refine wpAnyH_take (i := 18) (v := ?_) rfl (by kernel_rfl) (by kernel_rfl) (by kernel_rfl) (fun _ _ _ h => h) (Or.inl ⟨by rfl, ?_⟩) (by assumption) ?_
              rotate_left
              · intro w hSw
                (try dsimp only at hSw)
                go_simp
                all_goals first | with_reducible rfl | rw [if_neg (by omega)]
              simp only [Act.put, List.setIfInBounds_toArray, List.set_cons_zero, List.set_cons_succ, List.getElem_toArray, List.getElem_cons_zero, List.getElem_cons_succ]
              refine wpAnyH_ready (rs := [3, 16]) (by kernel_rfl) (by simp) (AllReadyH.cons rfl (fun K hK => ?_) (AllReadyH.cons rfl (fun K hK => ?_) AllReadyH.nil))
              · go_simp
                go_at_call 16; refine (turned (dec_any y.dx (by omega) (by omega) _)).mono ?_; rintro e w' ⟨rfl, rfl⟩
                refine hK.out _ _ ?_ (fun hHeld => ?_)
                · first | exact hHeld | go_keep
                clear hK K
                try simp only [Act.put, List.setIfInBounds_toArray, List.set_cons_zero, List.set_cons_succ, List.getElem_toArray, List.getElem_cons_zero, List.getElem_cons_succ]
                refine wpAnyH_take (i := 4) (v := ?_) rfl (by kernel_rfl) (by kernel_rfl) (by kernel_rfl) (fun _ _ _ h => h) (Or.inl ⟨by rfl, ?_⟩) (by assumption) ?_
                rotate_left
                · intro w hSw
                  (try dsimp only at hSw)
                  go_simp
                  all_goals first | with_reducible rfl | rw [if_neg (by omega)]
                simp only [Act.put, List.setIfInBounds_toArray, List.set_cons_zero, List.set_cons_succ, List.getElem_toArray, List.getElem_cons_zero, List.getElem_cons_succ]
                refine wpAnyH_take (i := 5) (v := ?_) rfl (by kernel_rfl) (by kernel_rfl) (by kernel_rfl) (fun _ _ _ h => h) (Or.inl ⟨by rfl, ?_⟩) (by assumption) ?_
                rotate_left
                · intro w hSw
                  (try dsimp only at hSw)
                  go_simp
                  all_goals first | with_reducible rfl | rw [if_neg (by omega)]
                simp only [Act.put, List.setIfInBounds_toArray, List.set_cons_zero, List.set_cons_succ, List.getElem_toArray, List.getElem_cons_zero, List.getElem_cons_succ]
                refine wpAnyH_ready (rs := [8, 16]) (by kernel_rfl) (by simp) (AllReadyH.cons rfl (fun K hK => ?_) (AllReadyH.cons rfl (fun K hK => ?_) AllReadyH.nil))
                · go_simp
                  go_at_call 16; refine (turned (dec_any y.dy (by omega) (by omega) _)).mono ?_; rintro e w' ⟨rfl, rfl⟩
                  refine hK.out _ _ ?_ (fun hHeld => ?_)
                  · first | exact hHeld | go_keep
                  clear hK K
                  try simp only [Act.put, List.setIfInBounds_toArray, List.set_cons_zero, List.set_cons_succ, List.getElem_toArray, List.getElem_cons_zero, List.getElem_cons_succ]
                  refine wpAnyH_take (i := 9) (v := ?_) rfl (by kernel_rfl) (by kernel_rfl) (by kernel_rfl) (fun _ _ _ h => h) (Or.inl ⟨by rfl, ?_⟩) (by assumption) ?_
                  rotate_left
                  · intro w hSw
                    (try dsimp only at hSw)
                    go_simp
                    all_goals first | with_reducible rfl | rw [if_neg (by omega)]
                  simp only [Act.put, List.setIfInBounds_toArray, List.set_cons_zero, List.set_cons_succ, List.getElem_toArray, List.getElem_cons_zero, List.getElem_cons_succ]
                  refine wpAnyH_take (i := 10) (v := ?_) rfl (by kernel_rfl) (by kernel_rfl) (by kernel_rfl) (fun _ _ _ h => h) (Or.inl ⟨by rfl, ?_⟩) (by assumption) ?_
                  rotate_left
                  · intro w hSw
                    (try dsimp only at hSw)
                    go_simp
                    all_goals first | with_reducible rfl | rw [if_neg (by omega)]
                  simp only [Act.put, List.setIfInBounds_toArray, List.set_cons_zero, List.set_cons_succ, List.getElem_toArray, List.getElem_cons_zero, List.getElem_cons_succ]
                  refine wpAnyH_ready (rs := [13, 16]) (by kernel_rfl) (by simp) (AllReadyH.cons rfl (fun K hK => ?_) (AllReadyH.cons rfl (fun K hK => ?_) AllReadyH.nil))
                  · go_simp
                    go_at_call 16; refine (turned (dec_any y.most (by omega) (by omega) _)).mono ?_; rintro e w' ⟨rfl, rfl⟩
                    refine hK.out _ _ ?_ (fun hHeld => ?_)
                    · first | exact hHeld | go_keep
                    clear hK K
                    try simp only [Act.put, List.setIfInBounds_toArray, List.set_cons_zero, List.set_cons_succ, List.getElem_toArray, List.getElem_cons_zero, List.getElem_cons_succ]
                    refine wpAnyH_take (i := 14) (v := ?_) rfl (by kernel_rfl) (by kernel_rfl) (by kernel_rfl) (fun _ _ _ h => h) (Or.inl ⟨by rfl, ?_⟩) (by assumption) ?_
                    rotate_left
                    · intro w hSw
                      (try dsimp only at hSw)
                      go_simp
                      all_goals first | with_reducible rfl | rw [if_neg (by omega)]
                    simp only [Act.put, List.setIfInBounds_toArray, List.set_cons_zero, List.set_cons_succ, List.getElem_toArray, List.getElem_cons_zero, List.getElem_cons_succ]
                    refine wpAnyH_take (i := 15) (v := ?_) rfl (by kernel_rfl) (by kernel_rfl) (by kernel_rfl) (fun _ _ _ h => h) (Or.inl ⟨by rfl, ?_⟩) (by assumption) ?_
                    rotate_left
                    · intro w hSw
                      (try dsimp only at hSw)
                      go_simp
                      all_goals first | with_reducible rfl | rw [if_neg (by omega)]
                    simp only [Act.put, List.setIfInBounds_toArray, List.set_cons_zero, List.set_cons_succ, List.getElem_toArray, List.getElem_cons_zero, List.getElem_cons_succ]
                    refine wpAnyH_ready (rs := [16]) (by kernel_rfl) (by simp) (AllReadyH.cons rfl (fun K hK => ?_) AllReadyH.nil)
                    go_simp
                    skip
                    refine hK.out _ _ ?_ (fun hHeld => ?_)
                    · first | exact hHeld | go_keep
                    clear hK K
                    try simp only [Act.put, List.setIfInBounds_toArray, List.set_cons_zero, List.set_cons_succ, List.getElem_toArray, List.getElem_cons_zero, List.getElem_cons_succ]
                    have hwt : ((wa.drew).alloc (.cells #[.string ⟨#[110, 101, 118, 101, 114]⟩, .string ⟨#[109, 97, 121]⟩, .string ⟨#[109, 117, 115, 116]⟩] 9)).cell? ⟨wa.heap.size, tk, none⟩ = some (.string (str (takeB y.take))) := (wblk_new wa.drew _ [[110, 101, 118, 101, 114], [109, 97, 121], [109, 117, 115, 116]] rfl).words tk _ HTK.out
                    refine held_weaken (S' := fun w' => (w'.cell? ⟨wb, 0, none⟩ = some (.int .i64 y.dx) ∧ w'.cell? ⟨wb, 1, none⟩ = some (.int .i64 y.dy) ∧ w'.cell? ⟨wb, 2, none⟩ = some (.int .i64 y.most) ∧ w'.cell? ⟨wb, 3, none⟩ = some (.int .i64 (tk : Int))) ∧ w'.cell? ⟨wa.heap.size, tk, none⟩ = some (.string (str (takeB y.take)))) (fun _ h => h.1) _ _ _ _ ?_
                    have hHeld := And.intro hHeld hwt
                    refine wpAnyH_take (i := 19) (v := ?_) rfl (by kernel_rfl) (by kernel_rfl) (by kernel_rfl) (fun _ _ _ h => h) (Or.inl ⟨by rfl, ?_⟩) (by assumption) ?_
                    rotate_left
                    · intro w hSw
                      (try dsimp only at hSw)
                      go_simp
                      all_goals first | with_reducible rfl | rw [if_neg (by omega)]
                    simp only [Act.put, List.setIfInBounds_toArray, List.set_cons_zero, List.set_cons_succ, List.getElem_toArray, List.getElem_cons_zero, List.getElem_cons_succ]
                    refine wpAnyH_take (i := 20) (v := ?_) rfl (by kernel_rfl) (by kernel_rfl) (by kernel_rfl) (fun _ _ _ h => h) (Or.inl ⟨by rfl, ?_⟩) (by assumption) ?_
                    rotate_left
                    · intro w hSw
                      (try dsimp only at hSw)
                      go_simp
                      all_goals first | with_reducible rfl | rw [if_neg (by omega)]
                    simp only [Act.put, List.setIfInBounds_toArray, List.set_cons_zero, List.set_cons_succ, List.getElem_toArray, List.getElem_cons_zero, List.getElem_cons_succ]
                    refine wpAnyH_take (i := 21) (v := ?_) rfl (by kernel_rfl) (by kernel_rfl) (by kernel_rfl) (fun _ _ _ h => h) (Or.inl ⟨by rfl, ?_⟩) (by assumption) ?_
                    rotate_left
                    · intro w hSw
                      (try dsimp only at hSw)
                      go_simp
                      all_goals first | with_reducible rfl | rw [if_neg (by omega)]
                    simp only [Act.put, List.setIfInBounds_toArray, List.set_cons_zero, List.set_cons_succ, List.getElem_toArray, List.getElem_cons_zero, List.getElem_cons_succ]
                    refine wpAnyH_take (i := 22) (v := ?_) rfl (by kernel_rfl) (by kernel_rfl) (by kernel_rfl) (fun _ _ _ h => h) (Or.inl ⟨by rfl, ?_⟩) (by assumption) ?_
                    rotate_left
                    · intro w hSw
                      (try dsimp only at hSw)
                      go_simp
                      all_goals first | with_reducible rfl | rw [if_neg (by omega)]
                    simp only [Act.put, List.setIfInBounds_toArray, List.set_cons_zero, List.set_cons_succ, List.getElem_toArray, List.getElem_cons_zero, List.getElem_cons_succ]
                    refine wpAnyH_take (i := 23) (v := ?_) rfl (by kernel_rfl) (by kernel_rfl) (by kernel_rfl) (fun _ _ _ h => h) (Or.inl ⟨by rfl, ?_⟩) (by assumption) ?_
                    rotate_left
                    · intro w hSw
                      (try dsimp only at hSw)
                      go_simp
                      all_goals first | with_reducible rfl | rw [if_neg (by omega)]
                    simp only [Act.put, List.setIfInBounds_toArray, List.set_cons_zero, List.set_cons_succ, List.getElem_toArray, List.getElem_cons_zero, List.getElem_cons_succ]
                    refine wpAnyH_take (i := 24) (v := ?_) rfl (by kernel_rfl) (by kernel_rfl) (by kernel_rfl) (fun _ _ _ h => h) (Or.inl ⟨by rfl, ?_⟩) (by assumption) ?_
                    rotate_left
                    · intro w hSw
                      (try dsimp only at hSw)
                      go_simp
                      all_goals first | with_reducible rfl | rw [if_neg (by omega)]
                    simp only [Act.put, List.setIfInBounds_toArray, List.set_cons_zero, List.set_cons_succ, List.getElem_toArray, List.getElem_cons_zero, List.getElem_cons_succ]
                    refine wpAnyH_done (by kernel_rfl) ?_ _
                    have HN : Hid (T ++ (⟨#[119, 97, 121, 32]⟩ ++ numS y.dx ++ ⟨#[32]⟩ ++ numS y.dy ++ ⟨#[32]⟩ ++ numS y.most ++ ⟨#[32]⟩ ++ str (takeB y.take) ++ ⟨#[10]⟩) = S ++ str (headL r.pieces x ++ waysL (x.ways.take (j + 1)))) := Lib.hid (by rw [way_str, HT.out, waysL_succ HY.out, ByteArray.append_assoc, str_app, List.append_assoc])
                    have HZ : Hid ((T ++ (⟨#[119, 97, 121, 32]⟩ ++ numS y.dx ++ ⟨#[32]⟩ ++ numS y.dy ++ ⟨#[32]⟩ ++ numS y.most ++ ⟨#[32]⟩ ++ str (takeB y.take) ++ ⟨#[10]⟩) : ByteArray).size ≤ 4300) := Lib.hid (by rw [way_str, HT.out, ByteArray.size_append, ByteArray.size_append, str_size, str_size]; have h := HHL.out; rw [List.length_append] at h; omega)
                    have HBN : Hid (Below w1.heap.size w1 (wa.drew.alloc (.cells #[.string ⟨#[110, 101, 118, 101, 114]⟩, .string ⟨#[109, 97, 121]⟩, .string ⟨#[109, 117, 115, 116]⟩] 9))) := Lib.hid ((HBA.out.drew).alloc (Below.size (HBA.out.drew)) _)
                    go_wp2_with fail
                    go_roundw
                    case rel => exact ⟨j + 1, _, by omega, by go_num, rfl, HZ.out, HN, HBN⟩
                    case measure => simp [intOf]; omega
                  · go_simp
                    skip
                    refine hK.out _ _ ?_ (fun hHeld => ?_)
                    · first | exact hHeld | go_keep
                    clear hK K
                    try simp only [Act.put, List.setIfInBounds_toArray, List.set_cons_zero, List.set_cons_succ, List.getElem_toArray, List.getElem_cons_zero, List.getElem_cons_succ]
                    have hwt : ((wa.drew).alloc (.cells #[.string ⟨#[110, 101, 118, 101, 114]⟩, .string ⟨#[109, 97, 121]⟩, .string ⟨#[109, 117, 115, 116]⟩] 9)).cell? ⟨wa.heap.size, tk, none⟩ = some (.string (str (takeB y.take))) := (wblk_new wa.drew _ [[110, 101, 118, 101, 114], [109, 97, 121], [109, 117, 115, 116]] rfl).words tk _ HTK.out
                    refine held_weaken (S' := fun w' => (w'.cell? ⟨wb, 0, none⟩ = some (.int .i64 y.dx) ∧ w'.cell? ⟨wb, 1, none⟩ = some (.int .i64 y.dy) ∧ w'.cell? ⟨wb, 2, none⟩ = some (.int .i64 y.most) ∧ w'.cell? ⟨wb, 3, none⟩ = some (.int .i64 (tk : Int))) ∧ w'.cell? ⟨wa.heap.size, tk, none⟩ = some (.string (str (takeB y.take)))) (fun _ h => h.1) _ _ _ _ ?_
                    have hHeld := And.intro hHeld hwt
                    refine wpAnyH_take (i := 19) (v := ?_) rfl (by kernel_rfl) (by kernel_rfl) (by kernel_rfl) (fun _ _ _ h => h) (Or.inl ⟨by rfl, ?_⟩) (by assumption) ?_
                    rotate_left
                    · intro w hSw
                      (try dsimp only at hSw)
                      go_simp
                      all_goals first | with_reducible rfl | rw [if_neg (by omega)]
                    simp only [Act.put, List.setIfInBounds_toArray, List.set_cons_zero, List.set_cons_succ, List.getElem_toArray, List.getElem_cons_zero, List.getElem_cons_succ]
                    refine wpAnyH_take (i := 20) (v := ?_) rfl (by kernel_rfl) (by kernel_rfl) (by kernel_rfl) (fun _ _ _ h => h) (Or.inl ⟨by rfl, ?_⟩) (by assumption) ?_
                    rotate_left
                    · intro w hSw
                      (try dsimp only at hSw)
                      go_simp
                      all_goals first | with_reducible rfl | rw [if_neg (by omega)]
                    simp only [Act.put, List.setIfInBounds_toArray, List.set_cons_zero, List.set_cons_succ, List.getElem_toArray, List.getElem_cons_zero, List.getElem_cons_succ]
                    refine wpAnyH_ready (rs := [13]) (by kernel_rfl) (by simp) (AllReadyH.cons rfl (fun K hK => ?_) AllReadyH.nil)
                    go_simp
                    go_at_call 16; refine (turned (dec_any y.most (by omega) (by omega) _)).mono ?_; rintro e w' ⟨rfl, rfl⟩
                    refine hK.out _ _ ?_ (fun hHeld => ?_)
                    · first | exact hHeld | go_keep
                    clear hK K
                    try simp only [Act.put, List.setIfInBounds_toArray, List.set_cons_zero, List.set_cons_succ, List.getElem_toArray, List.getElem_cons_zero, List.getElem_cons_succ]
                    refine wpAnyH_take (i := 14) (v := ?_) rfl (by kernel_rfl) (by kernel_rfl) (by kernel_rfl) (fun _ _ _ h => h) (Or.inl ⟨by rfl, ?_⟩) (by assumption) ?_
                    rotate_left
                    · intro w hSw
                      (try dsimp only at hSw)
                      go_simp
                      all_goals first | with_reducible rfl | rw [if_neg (by omega)]
                    simp only [Act.put, List.setIfInBounds_toArray, List.set_cons_zero, List.set_cons_succ, List.getElem_toArray, List.getElem_cons_zero, List.getElem_cons_succ]
                    refine wpAnyH_take (i := 15) (v := ?_) rfl (by kernel_rfl) (by kernel_rfl) (by kernel_rfl) (fun _ _ _ h => h) (Or.inl ⟨by rfl, ?_⟩) (by assumption) ?_
                    rotate_left
                    · intro w hSw
                      (try dsimp only at hSw)
                      go_simp
                      all_goals first | with_reducible rfl | rw [if_neg (by omega)]
                    simp only [Act.put, List.setIfInBounds_toArray, List.set_cons_zero, List.set_cons_succ, List.getElem_toArray, List.getElem_cons_zero, List.getElem_cons_succ]
                    refine wpAnyH_take (i := 21) (v := ?_) rfl (by kernel_rfl) (by kernel_rfl) (by kernel_rfl) (fun _ _ _ h => h) (Or.inl ⟨by rfl, ?_⟩) (by assumption) ?_
                    rotate_left
                    · intro w hSw
                      (try dsimp only at hSw)
                      go_simp
                      all_goals first | with_reducible rfl | rw [if_neg (by omega)]
                    simp only [Act.put, List.setIfInBounds_toArray, List.set_cons_zero, List.set_cons_succ, List.getElem_toArray, List.getElem_cons_zero, List.getElem_cons_succ]
                    refine wpAnyH_take (i := 22) (v := ?_) rfl (by kernel_rfl) (by kernel_rfl) (by kernel_rfl) (fun _ _ _ h => h) (Or.inl ⟨by rfl, ?_⟩) (by assumption) ?_
                    rotate_left
                    · intro w hSw
                      (try dsimp only at hSw)
                      go_simp
                      all_goals first | with_reducible rfl | rw [if_neg (by omega)]
                    simp only [Act.put, List.setIfInBounds_toArray, List.set_cons_zero, List.set_cons_succ, List.getElem_toArray, List.getElem_cons_zero, List.getElem_cons_succ]
                    refine wpAnyH_take (i := 23) (v := ?_) rfl (by kernel_rfl) (by kernel_rfl) (by kernel_rfl) (fun _ _ _ h => h) (Or.inl ⟨by rfl, ?_⟩) (by assumption) ?_
                    rotate_left
                    · intro w hSw
                      (try dsimp only at hSw)
                      go_simp
                      all_goals first | with_reducible rfl | rw [if_neg (by omega)]
                    simp only [Act.put, List.setIfInBounds_toArray, List.set_cons_zero, List.set_cons_succ, List.getElem_toArray, List.getElem_cons_zero, List.getElem_cons_succ]
                    refine wpAnyH_take (i := 24) (v := ?_) rfl (by kernel_rfl) (by kernel_rfl) (by kernel_rfl) (fun _ _ _ h => h) (Or.inl ⟨by rfl, ?_⟩) (by assumption) ?_
                    rotate_left
                    · intro w hSw
                      (try dsimp only at hSw)
                      go_simp
                      all_goals first | with_reducible rfl | rw [if_neg (by omega)]
                    simp only [Act.put, List.setIfInBounds_toArray, List.set_cons_zero, List.set_cons_succ, List.getElem_toArray, List.getElem_cons_zero, List.getElem_cons_succ]
                    refine wpAnyH_done (by kernel_rfl) ?_ _
                    have HN : Hid (T ++ (⟨#[119, 97, 121, 32]⟩ ++ numS y.dx ++ ⟨#[32]⟩ ++ numS y.dy ++ ⟨#[32]⟩ ++ numS y.most ++ ⟨#[32]⟩ ++ str (takeB y.take) ++ ⟨#[10]⟩) = S ++ str (headL r.pieces x ++ waysL (x.ways.take (j + 1)))) := Lib.hid (by rw [way_str, HT.out, waysL_succ HY.out, ByteArray.append_assoc, str_app, List.append_assoc])
                    have HZ : Hid ((T ++ (⟨#[119, 97, 121, 32]⟩ ++ numS y.dx ++ ⟨#[32]⟩ ++ numS y.dy ++ ⟨#[32]⟩ ++ numS y.most ++ ⟨#[32]⟩ ++ str (takeB y.take) ++ ⟨#[10]⟩) : ByteArray).size ≤ 4300) := Lib.hid (by rw [way_str, HT.out, ByteArray.size_append, ByteArray.size_append, str_size, str_size]; have h := HHL.out; rw [List.length_append] at h; omega)
                    have HBN : Hid (Below w1.heap.size w1 (wa.drew.alloc (.cells #[.string ⟨#[110, 101, 118, 101, 114]⟩, .string ⟨#[109, 97, 121]⟩, .string ⟨#[109, 117, 115, 116]⟩] 9))) := Lib.hid ((HBA.out.drew).alloc (Below.size (HBA.out.drew)) _)
                    go_wp2_with fail
                    go_roundw
                    case rel => exact ⟨j + 1, _, by omega, by go_num, rfl, HZ.out, HN, HBN⟩
                    case measure => simp [intOf]; omega
                · go_simp
                  skip
                  refine hK.out _ _ ?_ (fun hHeld => ?_)
                  · first | exact hHeld | go_keep
                  clear hK K
                  try simp only [Act.put, List.setIfInBounds_toArray, List.set_cons_zero, List.set_cons_succ, List.getElem_toArray, List.getElem_cons_zero, List.getElem_cons_succ]
                  have hwt : ((wa.drew).alloc (.cells #[.string ⟨#[110, 101, 118, 101, 114]⟩, .string ⟨#[109, 97, 121]⟩, .string ⟨#[109, 117, 115, 116]⟩] 9)).cell? ⟨wa.heap.size, tk, none⟩ = some (.string (str (takeB y.take))) := (wblk_new wa.drew _ [[110, 101, 118, 101, 114], [109, 97, 121], [109, 117, 115, 116]] rfl).words tk _ HTK.out
                  refine held_weaken (S' := fun w' => (w'.cell? ⟨wb, 0, none⟩ = some (.int .i64 y.dx) ∧ w'.cell? ⟨wb, 1, none⟩ = some (.int .i64 y.dy) ∧ w'.cell? ⟨wb, 2, none⟩ = some (.int .i64 y.most) ∧ w'.cell? ⟨wb, 3, none⟩ = some (.int .i64 (tk : Int))) ∧ w'.cell? ⟨wa.heap.size, tk, none⟩ = some (.string (str (takeB y.take)))) (fun _ h => h.1) _ _ _ _ ?_
                  have hHeld := And.intro hHeld hwt
                  refine wpAnyH_take (i := 19) (v := ?_) rfl (by kernel_rfl) (by kernel_rfl) (by kernel_rfl) (fun _ _ _ h => h) (Or.inl ⟨by rfl, ?_⟩) (by assumption) ?_
                  rotate_left
                  · intro w hSw
                    (try dsimp only at hSw)
                    go_simp
                    all_goals first | with_reducible rfl | rw [if_neg (by omega)]
                  simp only [Act.put, List.setIfInBounds_toArray, List.set_cons_zero, List.set_cons_succ, List.getElem_toArray, List.getElem_cons_zero, List.getElem_cons_succ]
                  refine wpAnyH_take (i := 20) (v := ?_) rfl (by kernel_rfl) (by kernel_rfl) (by kernel_rfl) (fun _ _ _ h => h) (Or.inl ⟨by rfl, ?_⟩) (by assumption) ?_
                  rotate_left
                  · intro w hSw
                    (try dsimp only at hSw)
                    go_simp
                    all_goals first | with_reducible rfl | rw [if_neg (by omega)]
                  simp only [Act.put, List.setIfInBounds_toArray, List.set_cons_zero, List.set_cons_succ, List.getElem_toArray, List.getElem_cons_zero, List.getElem_cons_succ]
                  refine wpAnyH_ready (rs := [8]) (by kernel_rfl) (by simp) (AllReadyH.cons rfl (fun K hK => ?_) AllReadyH.nil)
                  go_simp
                  go_at_call 16; refine (turned (dec_any y.dy (by omega) (by omega) _)).mono ?_; rintro e w' ⟨rfl, rfl⟩
                  refine hK.out _ _ ?_ (fun hHeld => ?_)
                  · first | exact hHeld | go_keep
                  clear hK K
                  try simp only [Act.put, List.setIfInBounds_toArray, List.set_cons_zero, List.set_cons_succ, List.getElem_toArray, List.getElem_cons_zero, List.getElem_cons_succ]
                  refine wpAnyH_take (i := 9) (v := ?_) rfl (by kernel_rfl) (by kernel_rfl) (by kernel_rfl) (fun _ _ _ h => h) (Or.inl ⟨by rfl, ?_⟩) (by assumption) ?_
                  rotate_left
                  · intro w hSw
                    (try dsimp only at hSw)
                    go_simp
                    all_goals first | with_reducible rfl | rw [if_neg (by omega)]
                  simp only [Act.put, List.setIfInBounds_toArray, List.set_cons_zero, List.set_cons_succ, List.getElem_toArray, List.getElem_cons_zero, List.getElem_cons_succ]
                  refine wpAnyH_take (i := 10) (v := ?_) rfl (by kernel_rfl) (by kernel_rfl) (by kernel_rfl) (fun _ _ _ h => h) (Or.inl ⟨by rfl, ?_⟩) (by assumption) ?_
                  rotate_left
                  · intro w hSw
                    (try dsimp only at hSw)
                    go_simp
                    all_goals first | with_reducible rfl | rw [if_neg (by omega)]
                  simp only [Act.put, List.setIfInBounds_toArray, List.set_cons_zero, List.set_cons_succ, List.getElem_toArray, List.getElem_cons_zero, List.getElem_cons_succ]
                  refine wpAnyH_ready (rs := [13]) (by kernel_rfl) (by simp) (AllReadyH.cons rfl (fun K hK => ?_) AllReadyH.nil)
                  go_simp
                  go_at_call 16; refine (turned (dec_any y.most (by omega) (by omega) _)).mono ?_; rintro e w' ⟨rfl, rfl⟩
                  refine hK.out _ _ ?_ (fun hHeld => ?_)
                  · first | exact hHeld | go_keep
                  clear hK K
                  try simp only [Act.put, List.setIfInBounds_toArray, List.set_cons_zero, List.set_cons_succ, List.getElem_toArray, List.getElem_cons_zero, List.getElem_cons_succ]
                  refine wpAnyH_take (i := 14) (v := ?_) rfl (by kernel_rfl) (by kernel_rfl) (by kernel_rfl) (fun _ _ _ h => h) (Or.inl ⟨by rfl, ?_⟩) (by assumption) ?_
                  rotate_left
                  · intro w hSw
                    (try dsimp only at hSw)
                    go_simp
                    all_goals first | with_reducible rfl | rw [if_neg (by omega)]
                  simp only [Act.put, List.setIfInBounds_toArray, List.set_cons_zero, List.set_cons_succ, List.getElem_toArray, List.getElem_cons_zero, List.getElem_cons_succ]
                  refine wpAnyH_take (i := 15) (v := ?_) rfl (by kernel_rfl) (by kernel_rfl) (by kernel_rfl) (fun _ _ _ h => h) (Or.inl ⟨by rfl, ?_⟩) (by assumption) ?_
                  rotate_left
                  · intro w hSw
                    (try dsimp only at hSw)
                    go_simp
                    all_goals first | with_reducible rfl | rw [if_neg (by omega)]
                  simp only [Act.put, List.setIfInBounds_toArray, List.set_cons_zero, List.set_cons_succ, List.getElem_toArray, List.getElem_cons_zero, List.getElem_cons_succ]
                  refine wpAnyH_take (i := 21) (v := ?_) rfl (by kernel_rfl) (by kernel_rfl) (by kernel_rfl) (fun _ _ _ h => h) (Or.inl ⟨by rfl, ?_⟩) (by assumption) ?_
                  rotate_left
                  · intro w hSw
                    (try dsimp only at hSw)
                    go_simp
                    all_goals first | with_reducible rfl | rw [if_neg (by omega)]
                  simp only [Act.put, List.setIfInBounds_toArray, List.set_cons_zero, List.set_cons_succ, List.getElem_toArray, List.getElem_cons_zero, List.getElem_cons_succ]
                  refine wpAnyH_take (i := 22) (v := ?_) rfl (by kernel_rfl) (by kernel_rfl) (by kernel_rfl) (fun _ _ _ h => h) (Or.inl ⟨by rfl, ?_⟩) (by assumption) ?_
                  rotate_left
                  · intro w hSw
                    (try dsimp only at hSw)
                    go_simp
                    all_goals first | with_reducible rfl | rw [if_neg (by omega)]
                  simp only [Act.put, List.setIfInBounds_toArray, List.set_cons_zero, List.set_cons_succ, List.getElem_toArray, List.getElem_cons_zero, List.getElem_cons_succ]
                  refine wpAnyH_take (i := 23) (v := ?_) rfl (by kernel_rfl) (by kernel_rfl) (by kernel_rfl) (fun _ _ _ h => h) (Or.inl ⟨by rfl, ?_⟩) (by assumption) ?_
                  rotate_left
                  · intro w hSw
                    (try dsimp only at hSw)
                    go_simp
                    all_goals first | with_reducible rfl | rw [if_neg (by omega)]
                  simp only [Act.put, List.setIfInBounds_toArray, List.set_cons_zero, List.set_cons_succ, List.getElem_toArray, List.getElem_cons_zero, List.getElem_cons_succ]
                  refine wpAnyH_take (i := 24) (v := ?_) rfl (by kernel_rfl) (by kernel_rfl) (by kernel_rfl) (fun _ _ _ h => h) (Or.inl ⟨by rfl, ?_⟩) (by assumption) ?_
                  rotate_left
                  · intro w hSw
                    (try dsimp only at hSw)
                    go_simp
                    all_goals first | with_reducible rfl | rw [if_neg (by omega)]
                  simp only [Act.put, List.setIfInBounds_toArray, List.set_cons_zero, List.set_cons_succ, List.getElem_toArray, List.getElem_cons_zero, List.getElem_cons_succ]
                  refine wpAnyH_done (by kernel_rfl) ?_ _
                  have HN : Hid (T ++ (⟨#[119, 97, 121, 32]⟩ ++ numS y.dx ++ ⟨#[32]⟩ ++ numS y.dy ++ ⟨#[32]⟩ ++ numS y.most ++ ⟨#[32]⟩ ++ str (takeB y.take) ++ ⟨#[10]⟩) = S ++ str (headL r.pieces x ++ waysL (x.ways.take (j + 1)))) := Lib.hid (by rw [way_str, HT.out, waysL_succ HY.out, ByteArray.append_assoc, str_app, List.append_assoc])
                  have HZ : Hid ((T ++ (⟨#[119, 97, 121, 32]⟩ ++ numS y.dx ++ ⟨#[32]⟩ ++ numS y.dy ++ ⟨#[32]⟩ ++ numS y.most ++ ⟨#[32]⟩ ++ str (takeB y.take) ++ ⟨#[10]⟩) : ByteArray).size ≤ 4300) := Lib.hid (by rw [way_str, HT.out, ByteArray.size_append, ByteArray.size_append, str_size, str_size]; have h := HHL.out; rw [List.length_append] at h; omega)
                  have HBN : Hid (Below w1.heap.size w1 (wa.drew.alloc (.cells #[.string ⟨#[110, 101, 118, 101, 114]⟩, .string ⟨#[109, 97, 121]⟩, .string ⟨#[109, 117, 115, 116]⟩] 9))) := Lib.hid ((HBA.out.drew).alloc (Below.size (HBA.out.drew)) _)
                  go_wp2_with fail
                  go_roundw
                  case rel => exact ⟨j + 1, _, by omega, by go_num, rfl, HZ.out, HN, HBN⟩
                  case measure => simp [intOf]; omega
              · go_simp
                skip
                refine hK.out _ _ ?_ (fun hHeld => ?_)
                · first | exact hHeld | go_keep
                clear hK K
                try simp only [Act.put, List.setIfInBounds_toArray, List.set_cons_zero, List.set_cons_succ, List.getElem_toArray, List.getElem_cons_zero, List.getElem_cons_succ]
                have hwt : ((wa.drew).alloc (.cells #[.string ⟨#[110, 101, 118, 101, 114]⟩, .string ⟨#[109, 97, 121]⟩, .string ⟨#[109, 117, 115, 116]⟩] 9)).cell? ⟨wa.heap.size, tk, none⟩ = some (.string (str (takeB y.take))) := (wblk_new wa.drew _ [[110, 101, 118, 101, 114], [109, 97, 121], [109, 117, 115, 116]] rfl).words tk _ HTK.out
                refine held_weaken (S' := fun w' => (w'.cell? ⟨wb, 0, none⟩ = some (.int .i64 y.dx) ∧ w'.cell? ⟨wb, 1, none⟩ = some (.int .i64 y.dy) ∧ w'.cell? ⟨wb, 2, none⟩ = some (.int .i64 y.most) ∧ w'.cell? ⟨wb, 3, none⟩ = some (.int .i64 (tk : Int))) ∧ w'.cell? ⟨wa.heap.size, tk, none⟩ = some (.string (str (takeB y.take)))) (fun _ h => h.1) _ _ _ _ ?_
                have hHeld := And.intro hHeld hwt
                refine wpAnyH_take (i := 19) (v := ?_) rfl (by kernel_rfl) (by kernel_rfl) (by kernel_rfl) (fun _ _ _ h => h) (Or.inl ⟨by rfl, ?_⟩) (by assumption) ?_
                rotate_left
                · intro w hSw
                  (try dsimp only at hSw)
                  go_simp
                  all_goals first | with_reducible rfl | rw [if_neg (by omega)]
                simp only [Act.put, List.setIfInBounds_toArray, List.set_cons_zero, List.set_cons_succ, List.getElem_toArray, List.getElem_cons_zero, List.getElem_cons_succ]
                refine wpAnyH_take (i := 20) (v := ?_) rfl (by kernel_rfl) (by kernel_rfl) (by kernel_rfl) (fun _ _ _ h => h) (Or.inl ⟨by rfl, ?_⟩) (by assumption) ?_
                rotate_left
                · intro w hSw
                  (try dsimp only at hSw)
                  go_simp
                  all_goals first | with_reducible rfl | rw [if_neg (by omega)]
                simp only [Act.put, List.setIfInBounds_toArray, List.set_cons_zero, List.set_cons_succ, List.getElem_toArray, List.getElem_cons_zero, List.getElem_cons_succ]
                refine wpAnyH_ready (rs := [3]) (by kernel_rfl) (by simp) (AllReadyH.cons rfl (fun K hK => ?_) AllReadyH.nil)
                go_simp
                go_at_call 16; refine (turned (dec_any y.dx (by omega) (by omega) _)).mono ?_; rintro e w' ⟨rfl, rfl⟩
                refine hK.out _ _ ?_ (fun hHeld => ?_)
                · first | exact hHeld | go_keep
                clear hK K
                try simp only [Act.put, List.setIfInBounds_toArray, List.set_cons_zero, List.set_cons_succ, List.getElem_toArray, List.getElem_cons_zero, List.getElem_cons_succ]
                refine wpAnyH_take (i := 4) (v := ?_) rfl (by kernel_rfl) (by kernel_rfl) (by kernel_rfl) (fun _ _ _ h => h) (Or.inl ⟨by rfl, ?_⟩) (by assumption) ?_
                rotate_left
                · intro w hSw
                  (try dsimp only at hSw)
                  go_simp
                  all_goals first | with_reducible rfl | rw [if_neg (by omega)]
                simp only [Act.put, List.setIfInBounds_toArray, List.set_cons_zero, List.set_cons_succ, List.getElem_toArray, List.getElem_cons_zero, List.getElem_cons_succ]
                refine wpAnyH_take (i := 5) (v := ?_) rfl (by kernel_rfl) (by kernel_rfl) (by kernel_rfl) (fun _ _ _ h => h) (Or.inl ⟨by rfl, ?_⟩) (by assumption) ?_
                rotate_left
                · intro w hSw
                  (try dsimp only at hSw)
                  go_simp
                  all_goals first | with_reducible rfl | rw [if_neg (by omega)]
                simp only [Act.put, List.setIfInBounds_toArray, List.set_cons_zero, List.set_cons_succ, List.getElem_toArray, List.getElem_cons_zero, List.getElem_cons_succ]
                refine wpAnyH_ready (rs := [8]) (by kernel_rfl) (by simp) (AllReadyH.cons rfl (fun K hK => ?_) AllReadyH.nil)
                go_simp
                go_at_call 16; refine (turned (dec_any y.dy (by omega) (by omega) _)).mono ?_; rintro e w' ⟨rfl, rfl⟩
                refine hK.out _ _ ?_ (fun hHeld => ?_)
                · first | exact hHeld | go_keep
                clear hK K
                try simp only [Act.put, List.setIfInBounds_toArray, List.set_cons_zero, List.set_cons_succ, List.getElem_toArray, List.getElem_cons_zero, List.getElem_cons_succ]
                refine wpAnyH_take (i := 9) (v := ?_) rfl (by kernel_rfl) (by kernel_rfl) (by kernel_rfl) (fun _ _ _ h => h) (Or.inl ⟨by rfl, ?_⟩) (by assumption) ?_
                rotate_left
                · intro w hSw
                  (try dsimp only at hSw)
                  go_simp
                  all_goals first | with_reducible rfl | rw [if_neg (by omega)]
                simp only [Act.put, List.setIfInBounds_toArray, List.set_cons_zero, List.set_cons_succ, List.getElem_toArray, List.getElem_cons_zero, List.getElem_cons_succ]
                refine wpAnyH_take (i := 10) (v := ?_) rfl (by kernel_rfl) (by kernel_rfl) (by kernel_rfl) (fun _ _ _ h => h) (Or.inl ⟨by rfl, ?_⟩) (by assumption) ?_
                rotate_left
                · intro w hSw
                  (try dsimp only at hSw)
                  go_simp
                  all_goals first | with_reducible rfl | rw [if_neg (by omega)]
                simp only [Act.put, List.setIfInBounds_toArray, List.set_cons_zero, List.set_cons_succ, List.getElem_toArray, List.getElem_cons_zero, List.getElem_cons_succ]
                refine wpAnyH_ready (rs := [13]) (by kernel_rfl) (by simp) (AllReadyH.cons rfl (fun K hK => ?_) AllReadyH.nil)
                go_simp
                go_at_call 16; refine (turned (dec_any y.most (by omega) (by omega) _)).mono ?_; rintro e w' ⟨rfl, rfl⟩
                refine hK.out _ _ ?_ (fun hHeld => ?_)
                · first | exact hHeld | go_keep
                clear hK K
                try simp only [Act.put, List.setIfInBounds_toArray, List.set_cons_zero, List.set_cons_succ, List.getElem_toArray, List.getElem_cons_zero, List.getElem_cons_succ]
                refine wpAnyH_take (i := 14) (v := ?_) rfl (by kernel_rfl) (by kernel_rfl) (by kernel_rfl) (fun _ _ _ h => h) (Or.inl ⟨by rfl, ?_⟩) (by assumption) ?_
                rotate_left
                · intro w hSw
                  (try dsimp only at hSw)
                  go_simp
                  all_goals first | with_reducible rfl | rw [if_neg (by omega)]
                simp only [Act.put, List.setIfInBounds_toArray, List.set_cons_zero, List.set_cons_succ, List.getElem_toArray, List.getElem_cons_zero, List.getElem_cons_succ]
                refine wpAnyH_take (i := 15) (v := ?_) rfl (by kernel_rfl) (by kernel_rfl) (by kernel_rfl) (fun _ _ _ h => h) (Or.inl ⟨by rfl, ?_⟩) (by assumption) ?_
                rotate_left
                · intro w hSw
                  (try dsimp only at hSw)
                  go_simp
                  all_goals first | with_reducible rfl | rw [if_neg (by omega)]
                simp only [Act.put, List.setIfInBounds_toArray, List.set_cons_zero, List.set_cons_succ, List.getElem_toArray, List.getElem_cons_zero, List.getElem_cons_succ]
                refine wpAnyH_take (i := 21) (v := ?_) rfl (by kernel_rfl) (by kernel_rfl) (by kernel_rfl) (fun _ _ _ h => h) (Or.inl ⟨by rfl, ?_⟩) (by assumption) ?_
                rotate_left
                · intro w hSw
                  (try dsimp only at hSw)
                  go_simp
                  all_goals first | with_reducible rfl | rw [if_neg (by omega)]
                simp only [Act.put, List.setIfInBounds_toArray, List.set_cons_zero, List.set_cons_succ, List.getElem_toArray, List.getElem_cons_zero, List.getElem_cons_succ]
                refine wpAnyH_take (i := 22) (v := ?_) rfl (by kernel_rfl) (by kernel_rfl) (by kernel_rfl) (fun _ _ _ h => h) (Or.inl ⟨by rfl, ?_⟩) (by assumption) ?_
                rotate_left
                · intro w hSw
                  (try dsimp only at hSw)
                  go_simp
                  all_goals first | with_reducible rfl | rw [if_neg (by omega)]
                simp only [Act.put, List.setIfInBounds_toArray, List.set_cons_zero, List.set_cons_succ, List.getElem_toArray, List.getElem_cons_zero, List.getElem_cons_succ]
                refine wpAnyH_take (i := 23) (v := ?_) rfl (by kernel_rfl) (by kernel_rfl) (by kernel_rfl) (fun _ _ _ h => h) (Or.inl ⟨by rfl, ?_⟩) (by assumption) ?_
                rotate_left
                · intro w hSw
                  (try dsimp only at hSw)
                  go_simp
                  all_goals first | with_reducible rfl | rw [if_neg (by omega)]
                simp only [Act.put, List.setIfInBounds_toArray, List.set_cons_zero, List.set_cons_succ, List.getElem_toArray, List.getElem_cons_zero, List.getElem_cons_succ]
                refine wpAnyH_take (i := 24) (v := ?_) rfl (by kernel_rfl) (by kernel_rfl) (by kernel_rfl) (fun _ _ _ h => h) (Or.inl ⟨by rfl, ?_⟩) (by assumption) ?_
                rotate_left
                · intro w hSw
                  (try dsimp only at hSw)
                  go_simp
                  all_goals first | with_reducible rfl | rw [if_neg (by omega)]
                simp only [Act.put, List.setIfInBounds_toArray, List.set_cons_zero, List.set_cons_succ, List.getElem_toArray, List.getElem_cons_zero, List.getElem_cons_succ]
                refine wpAnyH_done (by kernel_rfl) ?_ _
                have HN : Hid (T ++ (⟨#[119, 97, 121, 32]⟩ ++ numS y.dx ++ ⟨#[32]⟩ ++ numS y.dy ++ ⟨#[32]⟩ ++ numS y.most ++ ⟨#[32]⟩ ++ str (takeB y.take) ++ ⟨#[10]⟩) = S ++ str (headL r.pieces x ++ waysL (x.ways.take (j + 1)))) := Lib.hid (by rw [way_str, HT.out, waysL_succ HY.out, ByteArray.append_assoc, str_app, List.append_assoc])
                have HZ : Hid ((T ++ (⟨#[119, 97, 121, 32]⟩ ++ numS y.dx ++ ⟨#[32]⟩ ++ numS y.dy ++ ⟨#[32]⟩ ++ numS y.most ++ ⟨#[32]⟩ ++ str (takeB y.take) ++ ⟨#[10]⟩) : ByteArray).size ≤ 4300) := Lib.hid (by rw [way_str, HT.out, ByteArray.size_append, ByteArray.size_append, str_size, str_size]; have h := HHL.out; rw [List.length_append] at h; omega)
                have HBN : Hid (Below w1.heap.size w1 (wa.drew.alloc (.cells #[.string ⟨#[110, 101, 118, 101, 114]⟩, .string ⟨#[109, 97, 121]⟩, .string ⟨#[109, 117, 115, 116]⟩] 9))) := Lib.hid ((HBA.out.drew).alloc (Below.size (HBA.out.drew)) _)
                go_wp2_with fail
                go_roundw
                case rel => exact ⟨j + 1, _, by omega, by go_num, rfl, HZ.out, HN, HBN⟩
                case measure => simp [intOf]; omega
            · obtain rfl : mw = j := by omega
              have HNX : Hid (T = str (gameL r ++ piecesL r.pieces (r.pieces.take (k + 1)))) := Lib.hid (by
                rw [HT.out, HS.out, piecesL_succ HXK.out, pieceL, HMW.out, List.take_length, str_app, List.append_assoc])
              have HZ : Hid (T.size ≤ 3700) := Lib.hid (by rw [HNX.out, str_size]; exact game_pieces_le HK.out _)
              clear HT HS
              go_wp2_with fail
              go_roundw
              case rel => exact ⟨k + 1, T, by omega, by go_num, rfl, HZ.out, HNX, hbel⟩
              case measure => simp [intOf]; omega
    · obtain rfl : n = k := by omega
      obtain ⟨L2, hL2⟩ : ∃ L2, L2 = gameL r ++ piecesL r.pieces r.pieces := ⟨_, rfl⟩
      have HL2 := Lib.hid hL2
      have H2 : Hid (S = str L2) := Lib.hid (by rw [HS.out, HN.out, List.take_length, ← hL2])
      clear hL2 HS
      obtain ⟨⟨b0, b1, b2, b3, b4, -⟩, -⟩ := HX.out.facts
      have b2 := cell_keeps hbel.out (Nat.le_refl _) b2
      rw [HHE.out] at b2
      clear b0 b1 b3 b4
      go_wp2_with fail
      clear b2
      go_loopw [3, 8, 9, 10] (fun s y _ _ wr => ∃ (k : Nat) (S : ByteArray), k ≤ H ∧ y = .int .i64 ((k : Int) - 1) ∧ s = .string S ∧ S.size ≤ 3900 ∧ Hid (∃ D, Done r.pieces r.start W H k D ∧ S = str (L2 ++ D)) ∧ Hid (Below w1.heap.size w1 wr)) (fun _ y _ _ _ => (intOf y + 1).toNat)
      case atStart => exact ⟨H, S, Nat.le_refl _, rfl, rfl, by omega, Lib.hid ⟨[], by simp [Done], by rw [H2.out, List.append_nil]⟩, hbel⟩
      case round =>
        clear H2 hS hbel
        obtain ⟨k, S, hk, rfl, rfl, hS, HS, hbel⟩ := hrel
        rcases k with _ | y
        · obtain ⟨L3, hL3⟩ : ∃ L3, L3 = L2 ++ rowsL r.pieces r.start W H := ⟨_, rfl⟩
          have HL3 := Lib.hid hL3
          have H3 : Hid (S = str L3) := Lib.hid (by
            obtain ⟨D, hD, hSD⟩ := HS.out
            unfold Done at hD
            rw [rowsL, List.append_nil] at hD
            rw [hSD, hD, ← hL3])
          clear hL3 HS
          rw [show (((0 : Nat) : Int) - 1) = -1 from rfl]
          have b5 := cell_keeps hbel.out (Nat.le_refl _) HX.out.facts.1.2.2.2.2.2.1
          obtain ⟨fl, hfl⟩ : ∃ fl, fl = r.falls := ⟨_, rfl⟩
          have HFL := Lib.hid hfl
          rw [← hfl] at b5
          clear hfl
          go_upto_if 136 with fail
          go_cut [3] from 135 to 138 (fun t wx => ∃ T : ByteArray, t = .string T ∧ T.size ≤ 3906 ∧ Hid (T = str (L3 ++ fallsL r.falls)) ∧ Hid (Below w1.heap.size w1 wx))
          case first =>
            rcases fl with _ | _
            · go_wp2_with fail
              go_meet
              case rel => exact ⟨_, rfl, by omega, Lib.hid (by rw [← HFL.out, H3.out]; simp [fallsL]), hbel⟩
            · go_wp2_with fail
              go_meet
              case rel => exact ⟨_, rfl, by rw [ByteArray.size_append]; have : (⟨#[102, 97, 108, 108, 115, 10]⟩ : ByteArray).size = 6 := rfl; omega, Lib.hid (by rw [← HFL.out, H3.out, ← str_app]; rfl), hbel⟩
          case rest =>
            clear H3 HFL b5 hbel hS
            obtain ⟨S, rfl, hS, H3, hbel⟩ := hcut
            have b6 := cell_keeps hbel.out (Nat.le_refl _) HX.out.facts.1.2.2.2.2.2.2.1
            obtain ⟨fl, hfl⟩ : ∃ fl, fl = r.keeps := ⟨_, rfl⟩
            have HFL := Lib.hid hfl
            rw [← hfl] at b6
            clear hfl
            go_upto_if 140 with fail
            go_cut [3] from 139 to 142 (fun t wx => ∃ T : ByteArray, t = .string T ∧ T.size ≤ 3912 ∧ Hid (T = str (L3 ++ fallsL r.falls ++ keepsL r.keeps)) ∧ Hid (Below w1.heap.size w1 wx))
            case first =>
              rcases fl with _ | _
              · go_wp2_with fail
                go_meet
                case rel => exact ⟨_, rfl, by omega, Lib.hid (by rw [← HFL.out, H3.out]; simp [keepsL]), hbel⟩
              · go_wp2_with fail
                go_meet
                case rel => exact ⟨_, rfl, by rw [ByteArray.size_append]; have : (⟨#[107, 101, 101, 112, 115, 10]⟩ : ByteArray).size = 6 := rfl; omega, Lib.hid (by rw [← HFL.out, H3.out, ← str_app]; rfl), hbel⟩
            case rest =>
              clear H3 HFL b6 hbel hS
              obtain ⟨S, rfl, hS, H3, hbel⟩ := hcut
              obtain ⟨L5, hL5⟩ : ∃ L5, L5 = L3 ++ fallsL r.falls ++ keepsL r.keeps := ⟨_, rfl⟩
              have HL5 := Lib.hid hL5
              rw [← hL5] at H3
              clear hL5
              have b7 := cell_keeps hbel.out (Nat.le_refl _) HX.out.facts.1.2.2.2.2.2.2.2.1
              go_wp2_with fail
              clear b7
              have HLL : Hid (L5.length ≤ 3912) := Lib.hid (by have h := hS; rw [H3.out, str_size] at h; exact h)
              go_loopw [3, 12, 13, 146] (fun s _ _ i wr => ∃ (k : Nat) (S : ByteArray), k ≤ m ∧ i = .int .i64 (k : Int) ∧ s = .string S ∧ S.size ≤ 4200 ∧ Hid (S = str (L5 ++ endsL r.pieces (r.ends.take k))) ∧ Hid (Below w1.heap.size w1 wr)) (fun _ _ _ i _ => m - (intOf i).toNat)
              case atStart => exact ⟨0, S, by omega, rfl, rfl, by omega, Lib.hid (by rw [H3.out]; simp [endsL]), hbel⟩
              case round =>
                clear H3 hS hbel
                obtain ⟨k, S, hk, rfl, rfl, hS, HS, hbel⟩ := hrel
                by_cases hlt : k < m
                · obtain ⟨g0, o0, x, rfl, hx, hat⟩ := HEN.out k hlt
                  obtain ⟨c0, c1, c2, c3⟩ := hat wr hbel.out
                  have HXK := Lib.hid hx
                  have HXO := Lib.hid (HK.out.es x (List.mem_of_getElem? hx))
                  have hkc : k < ce := by omega
                  obtain ⟨⟨kd0, kd2⟩, ⟨p0, p1⟩, ct0, ct1⟩ := HXO.out
                  obtain ⟨q, hq⟩ := Int.eq_ofNat_of_zero_le p0
                  have hqn : q < n := by rw [HN.out]; omega
                  obtain ⟨gp, op, y, u, rfl, hy, haty⟩ := HPC.out q hqn
                  have hqc : q < cp := by omega
                  have HPO : Hid (pieceOf r.pieces x.piece = lettB y) := Lib.hid (by rw [pieceOf, hq, Int.toNat_natCast, hy])
                  obtain ⟨⟨l0, l1⟩, -⟩ := HK.out.ps y (List.mem_of_getElem? hy)
                  rw [hq] at c1
                  have hba := (Below.refl wr.heap.size wr).alloc (Nat.le_refl _) (.cells #[.int .i64 x.kind, .int .i64 (q : Int), .int .i64 x.count, .bool x.loses] 51)
                  have hbb := (Below.refl (wr.alloc (.cells #[.int .i64 x.kind, .int .i64 (q : Int), .int .i64 x.count, .bool x.loses] 51)).heap.size (wr.alloc (.cells #[.int .i64 x.kind, .int .i64 (q : Int), .int .i64 x.count, .bool x.loses] 51))).alloc (Nat.le_refl _) (.cells #[.int .u8 y.letter] 5)
                  have HEB : Hid (EBox ((wr.alloc (.cells #[.int .i64 x.kind, .int .i64 (q : Int), .int .i64 x.count, .bool x.loses] 51)).alloc (.cells #[.int .u8 y.letter] 5)) wr.heap.size x) := Lib.hid (EBox.below (by have h1 := heap_alloc_new wr (.cells #[.int .i64 x.kind, .int .i64 (q : Int), .int .i64 x.count, .bool x.loses] 51); rw [← hq] at h1; unfold EBox; rw [hq]; rw [hq] at h1; exact h1) hbb)
                  have HBA : Hid (Below w1.heap.size w1 ((wr.alloc (.cells #[.int .i64 x.kind, .int .i64 (q : Int), .int .i64 x.count, .bool x.loses] 51)).alloc (.cells #[.int .u8 y.letter] 5))) := Lib.hid ((hbel.out.trans (hba.mono hbel.out.size)).trans (hbb.mono (by have h1 := hbel.out.size; have h2 := hba.size; omega)))
                  have b3 := cell_keeps hba (Nat.le_refl _) (cell_keeps hbel.out (Nat.le_refl _) HX.out.facts.1.2.2.2.1)
                  have y0 := cell_keeps hba (Nat.le_refl _) (haty wr hbel.out).1
                  have hcv := @conv_one y.letter (by omega) (by omega)
                  go_wp2_with fail
                  clear hbel c0 c1 c2 c3 hba hbb b3 y0 hcv
                  generalize (wr.alloc (.cells #[.int .i64 x.kind, .int .i64 (q : Int), .int .i64 x.count, .bool x.loses] 51)).alloc (.cells #[.int .u8 y.letter] 5) = wa at HEB HBA ⊢
                  obtain ⟨eb, heb⟩ : ∃ eb, eb = wr.heap.size := ⟨_, rfl⟩
                  rw [← heb] at HEB ⊢
                  clear heb hq hx hy hat haty p0 p1
                  go_cut [3] from 147 to 179 (fun t wx => ∃ T : ByteArray, t = .string T ∧ T.size ≤ 4250 ∧ Hid (T = S ++ str (endH r.pieces x)) ∧ Hid (Below w1.heap.size w1 wx) ∧ Hid (EBox wx eb x))
                  case first =>
                    obtain ⟨c0, c1, c2, c3⟩ := HEB.out.cells
                    have zc : (numS x.count).size ≤ 3 := numS_size (by omega) (by omega)
                    have zl : (str [UInt8.ofNat y.letter.toNat]).size = 1 := by rw [str_size]; rfl
                    have HZ : Hid (S.size + (endH r.pieces x).length ≤ 4250) := Lib.hid (by have := endH_le r.pieces HXO.out; omega)
                    obtain hk0 | hk0 | hk0 : x.kind = 0 ∨ x.kind = 1 ∨ x.kind = 2 := by omega
                    · have HEQ := Lib.hid (end_line r.pieces x hk0)
                      rw [hk0] at c0
                      clear hk0
                      refine wp_region_held_drew (S := fun w' => w'.cell? ⟨eb, 0, none⟩ = some (.int .i64 0) ∧ w'.cell? ⟨eb, 2, none⟩ = some (.int .i64 x.count)) (by kernel_rfl) ?_ (fun hHeld => ?_)
                      · go_keep
                      refine wpAnyH_take (i := 0) (v := ?_) rfl (by kernel_rfl) (by kernel_rfl) (by kernel_rfl) (fun _ _ _ h => h) (Or.inl ⟨by rfl, ?_⟩) (by assumption) ?_
                      rotate_left
                      · intro w hSw
                        (try dsimp only at hSw)
                        go_simp
                        all_goals first | with_reducible rfl | rw [if_neg (by omega)]
                      simp only [Act.put, List.setIfInBounds_toArray, List.set_cons_zero, List.set_cons_succ, List.getElem_toArray, List.getElem_cons_zero]
                      refine wpAnyH_take (i := 1) (v := ?_) rfl (by kernel_rfl) (by kernel_rfl) (by kernel_rfl) (fun _ _ _ h => h) (Or.inl ⟨by rfl, ?_⟩) (by assumption) ?_
                      rotate_left
                      · intro w hSw
                        (try dsimp only at hSw)
                        go_simp
                        all_goals first | with_reducible rfl | rw [if_neg (by omega)]
                      simp only [Act.put, List.setIfInBounds_toArray, List.set_cons_zero, List.set_cons_succ, List.getElem_toArray, List.getElem_cons_zero, List.getElem_cons_succ]
                      refine wpAnyH_take (i := 2) (v := ?_) rfl (by kernel_rfl) (by kernel_rfl) (by kernel_rfl) (fun _ _ _ h => h) (Or.inl ⟨by rfl, ?_⟩) (by assumption) ?_
                      rotate_left
                      · intro w hSw
                        (try dsimp only at hSw)
                        go_simp
                        all_goals first | with_reducible rfl | rw [if_neg (by omega)]
                      simp only [Act.put, List.setIfInBounds_toArray, List.set_cons_zero, List.set_cons_succ, List.getElem_toArray, List.getElem_cons_zero, List.getElem_cons_succ]
                      refine wpAnyH_take (i := 5) (v := ?_) rfl (by kernel_rfl) (by kernel_rfl) (by kernel_rfl) (fun _ _ _ h => h) (Or.inl ⟨by rfl, ?_⟩) (by assumption) ?_
                      rotate_left
                      · intro w hSw
                        (try dsimp only at hSw)
                        go_simp
                        all_goals first | with_reducible rfl | rw [if_neg (by omega)]
                      simp only [Act.put, List.setIfInBounds_toArray, List.set_cons_zero, List.set_cons_succ, List.getElem_toArray, List.getElem_cons_zero, List.getElem_cons_succ]
                      refine wpAnyH_take (i := 6) (v := ?_) rfl (by kernel_rfl) (by kernel_rfl) (by kernel_rfl) (fun _ _ _ h => h) (Or.inl ⟨by rfl, ?_⟩) (by assumption) ?_
                      rotate_left
                      · intro w hSw
                        (try dsimp only at hSw)
                        go_simp
                        all_goals first | with_reducible rfl | rw [if_neg (by omega)]
                      simp only [Act.put, List.setIfInBounds_toArray, List.set_cons_zero, List.set_cons_succ, List.getElem_toArray, List.getElem_cons_zero, List.getElem_cons_succ]
                      refine wpAnyH_take (i := 7) (v := ?_) rfl (by kernel_rfl) (by kernel_rfl) (by kernel_rfl) (fun _ _ _ h => h) (Or.inl ⟨by rfl, ?_⟩) (by assumption) ?_
                      rotate_left
                      · intro w hSw
                        (try dsimp only at hSw)
                        go_simp
                        all_goals first | with_reducible rfl | rw [if_neg (by omega)]
                      simp only [Act.put, List.setIfInBounds_toArray, List.set_cons_zero, List.set_cons_succ, List.getElem_toArray, List.getElem_cons_zero, List.getElem_cons_succ]
                      refine wpAnyH_take (i := 8) (v := ?_) rfl (by kernel_rfl) (by kernel_rfl) (by kernel_rfl) (fun _ _ _ h => h) (Or.inl ⟨by rfl, ?_⟩) (by assumption) ?_
                      rotate_left
                      · intro w hSw
                        (try dsimp only at hSw)
                        go_simp
                        all_goals first | with_reducible rfl | rw [if_neg (by omega)]
                      simp only [Act.put, List.setIfInBounds_toArray, List.set_cons_zero, List.set_cons_succ, List.getElem_toArray, List.getElem_cons_zero, List.getElem_cons_succ]
                      refine wpAnyH_take (i := 9) (v := ?_) rfl (by kernel_rfl) (by kernel_rfl) (by kernel_rfl) (fun _ _ _ h => h) (Or.inl ⟨by rfl, ?_⟩) (by assumption) ?_
                      rotate_left
                      · intro w hSw
                        (try dsimp only at hSw)
                        go_simp
                        all_goals first | with_reducible rfl | rw [if_neg (by omega)]
                      simp only [Act.put, List.setIfInBounds_toArray, List.set_cons_zero, List.set_cons_succ, List.getElem_toArray, List.getElem_cons_zero, List.getElem_cons_succ]
                      refine wpAnyH_take (i := 10) (v := ?_) rfl (by kernel_rfl) (by kernel_rfl) (by kernel_rfl) (fun _ _ _ h => h) (Or.inl ⟨by rfl, ?_⟩) (by assumption) ?_
                      rotate_left
                      · intro w hSw
                        (try dsimp only at hSw)
                        go_simp
                        all_goals first | with_reducible rfl | rw [if_neg (by omega)]
                      simp only [Act.put, List.setIfInBounds_toArray, List.set_cons_zero, List.set_cons_succ, List.getElem_toArray, List.getElem_cons_zero, List.getElem_cons_succ]
                      refine wpAnyH_take (i := 11) (v := ?_) rfl (by kernel_rfl) (by kernel_rfl) (by kernel_rfl) (fun _ _ _ h => h) (Or.inl ⟨by rfl, ?_⟩) (by assumption) ?_
                      rotate_left
                      · intro w hSw
                        (try dsimp only at hSw)
                        go_simp
                        all_goals first | with_reducible rfl | rw [if_neg (by omega)]
                      simp only [Act.put, List.setIfInBounds_toArray, List.set_cons_zero, List.set_cons_succ, List.getElem_toArray, List.getElem_cons_zero, List.getElem_cons_succ]
                      refine wpAnyH_take (i := 15) (v := ?_) rfl (by kernel_rfl) (by kernel_rfl) (by kernel_rfl) (fun _ _ _ h => h) (Or.inl ⟨by rfl, ?_⟩) (by assumption) ?_
                      rotate_left
                      · intro w hSw
                        (try dsimp only at hSw)
                        go_simp
                        all_goals first | with_reducible rfl | rw [if_neg (by omega)]
                      simp only [Act.put, List.setIfInBounds_toArray, List.set_cons_zero, List.set_cons_succ, List.getElem_toArray, List.getElem_cons_zero, List.getElem_cons_succ]
                      refine wpAnyH_take (i := 16) (v := ?_) rfl (by kernel_rfl) (by kernel_rfl) (by kernel_rfl) (fun _ _ _ h => h) (Or.inl ⟨by rfl, ?_⟩) (by assumption) ?_
                      rotate_left
                      · intro w hSw
                        (try dsimp only at hSw)
                        go_simp
                        all_goals first | with_reducible rfl | rw [if_neg (by omega)]
                      simp only [Act.put, List.setIfInBounds_toArray, List.set_cons_zero, List.set_cons_succ, List.getElem_toArray, List.getElem_cons_zero, List.getElem_cons_succ]
                      refine wpAnyH_ready (rs := [3]) (by kernel_rfl) (by simp) (AllReadyH.cons rfl (fun K hK => ?_) AllReadyH.nil)
                      go_simp
                      go_at_call 16; refine (turned (dec_any x.count (by omega) (by omega) _)).mono ?_; rintro e w' ⟨rfl, rfl⟩
                      refine hK.out _ _ ?_ (fun hHeld => ?_)
                      · first | exact hHeld | go_keep
                      clear hK K
                      try simp only [Act.put, List.setIfInBounds_toArray, List.set_cons_zero, List.set_cons_succ, List.getElem_toArray, List.getElem_cons_zero, List.getElem_cons_succ]
                      refine wpAnyH_take (i := 4) (v := ?_) rfl (by kernel_rfl) (by kernel_rfl) (by kernel_rfl) (fun _ _ _ h => h) (Or.inl ⟨by rfl, ?_⟩) (by assumption) ?_
                      rotate_left
                      · intro w hSw
                        (try dsimp only at hSw)
                        go_simp
                        all_goals first | with_reducible rfl | rw [if_neg (by omega)]
                      simp only [Act.put, List.setIfInBounds_toArray, List.set_cons_zero, List.set_cons_succ, List.getElem_toArray, List.getElem_cons_zero, List.getElem_cons_succ]
                      refine wpAnyH_ready (rs := [12]) (by kernel_rfl) (by simp) (AllReadyH.cons rfl (fun K hK => ?_) AllReadyH.nil)
                      go_simp
                      go_at_call 16; refine (turned (dec_any x.count (by omega) (by omega) _)).mono ?_; rintro e w' ⟨rfl, rfl⟩
                      refine hK.out _ _ ?_ (fun hHeld => ?_)
                      · first | exact hHeld | go_keep
                      clear hK K
                      try simp only [Act.put, List.setIfInBounds_toArray, List.set_cons_zero, List.set_cons_succ, List.getElem_toArray, List.getElem_cons_zero, List.getElem_cons_succ]
                      refine wpAnyH_take (i := 13) (v := ?_) rfl (by kernel_rfl) (by kernel_rfl) (by kernel_rfl) (fun _ _ _ h => h) (Or.inl ⟨by rfl, ?_⟩) (by assumption) ?_
                      rotate_left
                      · intro w hSw
                        (try dsimp only at hSw)
                        go_simp
                        all_goals first | with_reducible rfl | rw [if_neg (by omega)]
                      simp only [Act.put, List.setIfInBounds_toArray, List.set_cons_zero, List.set_cons_succ, List.getElem_toArray, List.getElem_cons_zero, List.getElem_cons_succ]
                      refine wpAnyH_ready (rs := [14]) (by kernel_rfl) (by simp) (AllReadyH.cons rfl (fun K hK => ?_) AllReadyH.nil)
                      go_simp
                      skip
                      refine hK.out _ _ ?_ (fun hHeld => ?_)
                      · first | exact hHeld | go_keep
                      clear hK K
                      try simp only [Act.put, List.setIfInBounds_toArray, List.set_cons_zero, List.set_cons_succ, List.getElem_toArray, List.getElem_cons_zero, List.getElem_cons_succ]
                      have hwt : ((wa.drew).alloc (.cells #[.string (⟨#[108, 105, 110, 101, 32]⟩ ++ numS x.count), .string (⟨#[114, 101, 97, 99, 104, 32]⟩ ++ str [UInt8.ofNat y.letter.toNat]), .string (⟨#[116, 97, 107, 101, 32]⟩ ++ str [UInt8.ofNat y.letter.toNat] ++ ⟨#[32]⟩ ++ numS x.count)] 9)).cell? ⟨wa.heap.size, 0, none⟩ = some (.string (⟨#[108, 105, 110, 101, 32]⟩ ++ numS x.count)) := by simp [go_sem]
                      refine held_weaken (S' := fun w' => (w'.cell? ⟨eb, 0, none⟩ = some (.int .i64 0) ∧ w'.cell? ⟨eb, 2, none⟩ = some (.int .i64 x.count)) ∧ w'.cell? ⟨wa.heap.size, 0, none⟩ = some (.string (⟨#[108, 105, 110, 101, 32]⟩ ++ numS x.count))) (fun _ h => h.1) _ _ _ _ ?_
                      have hHeld := And.intro hHeld hwt
                      refine wpAnyH_take (i := 17) (v := ?_) rfl (by kernel_rfl) (by kernel_rfl) (by kernel_rfl) (fun _ _ _ h => h) (Or.inl ⟨by rfl, ?_⟩) (by assumption) ?_
                      rotate_left
                      · intro w hSw
                        (try dsimp only at hSw)
                        go_simp
                        all_goals first | with_reducible rfl | rw [if_neg (by omega)]
                      simp only [Act.put, List.setIfInBounds_toArray, List.set_cons_zero, List.set_cons_succ, List.getElem_toArray, List.getElem_cons_zero, List.getElem_cons_succ]
                      refine wpAnyH_take (i := 18) (v := ?_) rfl (by kernel_rfl) (by kernel_rfl) (by kernel_rfl) (fun _ _ _ h => h) (Or.inl ⟨by rfl, ?_⟩) (by assumption) ?_
                      rotate_left
                      · intro w hSw
                        (try dsimp only at hSw)
                        go_simp
                        all_goals first | with_reducible rfl | rw [if_neg (by omega)]
                      simp only [Act.put, List.setIfInBounds_toArray, List.set_cons_zero, List.set_cons_succ, List.getElem_toArray, List.getElem_cons_zero, List.getElem_cons_succ]
                      refine wpAnyH_take (i := 19) (v := ?_) rfl (by kernel_rfl) (by kernel_rfl) (by kernel_rfl) (fun _ _ _ h => h) (Or.inl ⟨by rfl, ?_⟩) (by assumption) ?_
                      rotate_left
                      · intro w hSw
                        (try dsimp only at hSw)
                        go_simp
                        all_goals first | with_reducible rfl | rw [if_neg (by omega)]
                      simp only [Act.put, List.setIfInBounds_toArray, List.set_cons_zero, List.set_cons_succ, List.getElem_toArray, List.getElem_cons_zero, List.getElem_cons_succ]
                      refine wpAnyH_take (i := 20) (v := ?_) rfl (by kernel_rfl) (by kernel_rfl) (by kernel_rfl) (fun _ _ _ h => h) (Or.inl ⟨by rfl, ?_⟩) (by assumption) ?_
                      rotate_left
                      · intro w hSw
                        (try dsimp only at hSw)
                        go_simp
                        all_goals first | with_reducible rfl | rw [if_neg (by omega)]
                      simp only [Act.put, List.setIfInBounds_toArray, List.set_cons_zero, List.set_cons_succ, List.getElem_toArray, List.getElem_cons_zero, List.getElem_cons_succ]
                      refine wpAnyH_take (i := 21) (v := ?_) rfl (by kernel_rfl) (by kernel_rfl) (by kernel_rfl) (fun _ _ _ h => h) (Or.inl ⟨by rfl, ?_⟩) (by assumption) ?_
                      rotate_left
                      · intro w hSw
                        (try dsimp only at hSw)
                        go_simp
                        all_goals first | with_reducible rfl | rw [if_neg (by omega)]
                      simp only [Act.put, List.setIfInBounds_toArray, List.set_cons_zero, List.set_cons_succ, List.getElem_toArray, List.getElem_cons_zero, List.getElem_cons_succ]
                      refine wpAnyH_done (by kernel_rfl) ?_ _
                      go_wp2_with fail
                      go_meet
                      case rel => exact ⟨_, rfl, by rw [HEQ.out, ByteArray.size_append, str_size]; exact HZ.out, Lib.hid (by rw [HEQ.out]), Lib.hid ((HBA.out.drew).alloc (Below.size (HBA.out.drew)) _), Lib.hid (HEB.out.below ((Below.refl _ _).drew.alloc (Nat.le_refl _) _))⟩
                    · have HEQ := Lib.hid (end_reach r.pieces x (str [UInt8.ofNat y.letter.toNat]) hk0 (by rw [HPO.out]; rfl))
                      rw [hk0] at c0
                      clear hk0
                      refine wp_region_held_drew (S := fun w' => w'.cell? ⟨eb, 0, none⟩ = some (.int .i64 1) ∧ w'.cell? ⟨eb, 2, none⟩ = some (.int .i64 x.count)) (by kernel_rfl) ?_ (fun hHeld => ?_)
                      · go_keep
                      refine wpAnyH_take (i := 0) (v := ?_) rfl (by kernel_rfl) (by kernel_rfl) (by kernel_rfl) (fun _ _ _ h => h) (Or.inl ⟨by rfl, ?_⟩) (by assumption) ?_
                      rotate_left
                      · intro w hSw
                        (try dsimp only at hSw)
                        go_simp
                        all_goals first | with_reducible rfl | rw [if_neg (by omega)]
                      simp only [Act.put, List.setIfInBounds_toArray, List.set_cons_zero, List.set_cons_succ, List.getElem_toArray, List.getElem_cons_zero]
                      refine wpAnyH_take (i := 1) (v := ?_) rfl (by kernel_rfl) (by kernel_rfl) (by kernel_rfl) (fun _ _ _ h => h) (Or.inl ⟨by rfl, ?_⟩) (by assumption) ?_
                      rotate_left
                      · intro w hSw
                        (try dsimp only at hSw)
                        go_simp
                        all_goals first | with_reducible rfl | rw [if_neg (by omega)]
                      simp only [Act.put, List.setIfInBounds_toArray, List.set_cons_zero, List.set_cons_succ, List.getElem_toArray, List.getElem_cons_zero, List.getElem_cons_succ]
                      refine wpAnyH_take (i := 2) (v := ?_) rfl (by kernel_rfl) (by kernel_rfl) (by kernel_rfl) (fun _ _ _ h => h) (Or.inl ⟨by rfl, ?_⟩) (by assumption) ?_
                      rotate_left
                      · intro w hSw
                        (try dsimp only at hSw)
                        go_simp
                        all_goals first | with_reducible rfl | rw [if_neg (by omega)]
                      simp only [Act.put, List.setIfInBounds_toArray, List.set_cons_zero, List.set_cons_succ, List.getElem_toArray, List.getElem_cons_zero, List.getElem_cons_succ]
                      refine wpAnyH_take (i := 5) (v := ?_) rfl (by kernel_rfl) (by kernel_rfl) (by kernel_rfl) (fun _ _ _ h => h) (Or.inl ⟨by rfl, ?_⟩) (by assumption) ?_
                      rotate_left
                      · intro w hSw
                        (try dsimp only at hSw)
                        go_simp
                        all_goals first | with_reducible rfl | rw [if_neg (by omega)]
                      simp only [Act.put, List.setIfInBounds_toArray, List.set_cons_zero, List.set_cons_succ, List.getElem_toArray, List.getElem_cons_zero, List.getElem_cons_succ]
                      refine wpAnyH_take (i := 6) (v := ?_) rfl (by kernel_rfl) (by kernel_rfl) (by kernel_rfl) (fun _ _ _ h => h) (Or.inl ⟨by rfl, ?_⟩) (by assumption) ?_
                      rotate_left
                      · intro w hSw
                        (try dsimp only at hSw)
                        go_simp
                        all_goals first | with_reducible rfl | rw [if_neg (by omega)]
                      simp only [Act.put, List.setIfInBounds_toArray, List.set_cons_zero, List.set_cons_succ, List.getElem_toArray, List.getElem_cons_zero, List.getElem_cons_succ]
                      refine wpAnyH_take (i := 7) (v := ?_) rfl (by kernel_rfl) (by kernel_rfl) (by kernel_rfl) (fun _ _ _ h => h) (Or.inl ⟨by rfl, ?_⟩) (by assumption) ?_
                      rotate_left
                      · intro w hSw
                        (try dsimp only at hSw)
                        go_simp
                        all_goals first | with_reducible rfl | rw [if_neg (by omega)]
                      simp only [Act.put, List.setIfInBounds_toArray, List.set_cons_zero, List.set_cons_succ, List.getElem_toArray, List.getElem_cons_zero, List.getElem_cons_succ]
                      refine wpAnyH_take (i := 8) (v := ?_) rfl (by kernel_rfl) (by kernel_rfl) (by kernel_rfl) (fun _ _ _ h => h) (Or.inl ⟨by rfl, ?_⟩) (by assumption) ?_
                      rotate_left
                      · intro w hSw
                        (try dsimp only at hSw)
                        go_simp
                        all_goals first | with_reducible rfl | rw [if_neg (by omega)]
                      simp only [Act.put, List.setIfInBounds_toArray, List.set_cons_zero, List.set_cons_succ, List.getElem_toArray, List.getElem_cons_zero, List.getElem_cons_succ]
                      refine wpAnyH_take (i := 9) (v := ?_) rfl (by kernel_rfl) (by kernel_rfl) (by kernel_rfl) (fun _ _ _ h => h) (Or.inl ⟨by rfl, ?_⟩) (by assumption) ?_
                      rotate_left
                      · intro w hSw
                        (try dsimp only at hSw)
                        go_simp
                        all_goals first | with_reducible rfl | rw [if_neg (by omega)]
                      simp only [Act.put, List.setIfInBounds_toArray, List.set_cons_zero, List.set_cons_succ, List.getElem_toArray, List.getElem_cons_zero, List.getElem_cons_succ]
                      refine wpAnyH_take (i := 10) (v := ?_) rfl (by kernel_rfl) (by kernel_rfl) (by kernel_rfl) (fun _ _ _ h => h) (Or.inl ⟨by rfl, ?_⟩) (by assumption) ?_
                      rotate_left
                      · intro w hSw
                        (try dsimp only at hSw)
                        go_simp
                        all_goals first | with_reducible rfl | rw [if_neg (by omega)]
                      simp only [Act.put, List.setIfInBounds_toArray, List.set_cons_zero, List.set_cons_succ, List.getElem_toArray, List.getElem_cons_zero, List.getElem_cons_succ]
                      refine wpAnyH_take (i := 11) (v := ?_) rfl (by kernel_rfl) (by kernel_rfl) (by kernel_rfl) (fun _ _ _ h => h) (Or.inl ⟨by rfl, ?_⟩) (by assumption) ?_
                      rotate_left
                      · intro w hSw
                        (try dsimp only at hSw)
                        go_simp
                        all_goals first | with_reducible rfl | rw [if_neg (by omega)]
                      simp only [Act.put, List.setIfInBounds_toArray, List.set_cons_zero, List.set_cons_succ, List.getElem_toArray, List.getElem_cons_zero, List.getElem_cons_succ]
                      refine wpAnyH_take (i := 15) (v := ?_) rfl (by kernel_rfl) (by kernel_rfl) (by kernel_rfl) (fun _ _ _ h => h) (Or.inl ⟨by rfl, ?_⟩) (by assumption) ?_
                      rotate_left
                      · intro w hSw
                        (try dsimp only at hSw)
                        go_simp
                        all_goals first | with_reducible rfl | rw [if_neg (by omega)]
                      simp only [Act.put, List.setIfInBounds_toArray, List.set_cons_zero, List.set_cons_succ, List.getElem_toArray, List.getElem_cons_zero, List.getElem_cons_succ]
                      refine wpAnyH_take (i := 16) (v := ?_) rfl (by kernel_rfl) (by kernel_rfl) (by kernel_rfl) (fun _ _ _ h => h) (Or.inl ⟨by rfl, ?_⟩) (by assumption) ?_
                      rotate_left
                      · intro w hSw
                        (try dsimp only at hSw)
                        go_simp
                        all_goals first | with_reducible rfl | rw [if_neg (by omega)]
                      simp only [Act.put, List.setIfInBounds_toArray, List.set_cons_zero, List.set_cons_succ, List.getElem_toArray, List.getElem_cons_zero, List.getElem_cons_succ]
                      refine wpAnyH_ready (rs := [3]) (by kernel_rfl) (by simp) (AllReadyH.cons rfl (fun K hK => ?_) AllReadyH.nil)
                      go_simp
                      go_at_call 16; refine (turned (dec_any x.count (by omega) (by omega) _)).mono ?_; rintro e w' ⟨rfl, rfl⟩
                      refine hK.out _ _ ?_ (fun hHeld => ?_)
                      · first | exact hHeld | go_keep
                      clear hK K
                      try simp only [Act.put, List.setIfInBounds_toArray, List.set_cons_zero, List.set_cons_succ, List.getElem_toArray, List.getElem_cons_zero, List.getElem_cons_succ]
                      refine wpAnyH_take (i := 4) (v := ?_) rfl (by kernel_rfl) (by kernel_rfl) (by kernel_rfl) (fun _ _ _ h => h) (Or.inl ⟨by rfl, ?_⟩) (by assumption) ?_
                      rotate_left
                      · intro w hSw
                        (try dsimp only at hSw)
                        go_simp
                        all_goals first | with_reducible rfl | rw [if_neg (by omega)]
                      simp only [Act.put, List.setIfInBounds_toArray, List.set_cons_zero, List.set_cons_succ, List.getElem_toArray, List.getElem_cons_zero, List.getElem_cons_succ]
                      refine wpAnyH_ready (rs := [12]) (by kernel_rfl) (by simp) (AllReadyH.cons rfl (fun K hK => ?_) AllReadyH.nil)
                      go_simp
                      go_at_call 16; refine (turned (dec_any x.count (by omega) (by omega) _)).mono ?_; rintro e w' ⟨rfl, rfl⟩
                      refine hK.out _ _ ?_ (fun hHeld => ?_)
                      · first | exact hHeld | go_keep
                      clear hK K
                      try simp only [Act.put, List.setIfInBounds_toArray, List.set_cons_zero, List.set_cons_succ, List.getElem_toArray, List.getElem_cons_zero, List.getElem_cons_succ]
                      refine wpAnyH_take (i := 13) (v := ?_) rfl (by kernel_rfl) (by kernel_rfl) (by kernel_rfl) (fun _ _ _ h => h) (Or.inl ⟨by rfl, ?_⟩) (by assumption) ?_
                      rotate_left
                      · intro w hSw
                        (try dsimp only at hSw)
                        go_simp
                        all_goals first | with_reducible rfl | rw [if_neg (by omega)]
                      simp only [Act.put, List.setIfInBounds_toArray, List.set_cons_zero, List.set_cons_succ, List.getElem_toArray, List.getElem_cons_zero, List.getElem_cons_succ]
                      refine wpAnyH_ready (rs := [14]) (by kernel_rfl) (by simp) (AllReadyH.cons rfl (fun K hK => ?_) AllReadyH.nil)
                      go_simp
                      skip
                      refine hK.out _ _ ?_ (fun hHeld => ?_)
                      · first | exact hHeld | go_keep
                      clear hK K
                      try simp only [Act.put, List.setIfInBounds_toArray, List.set_cons_zero, List.set_cons_succ, List.getElem_toArray, List.getElem_cons_zero, List.getElem_cons_succ]
                      have hwt : ((wa.drew).alloc (.cells #[.string (⟨#[108, 105, 110, 101, 32]⟩ ++ numS x.count), .string (⟨#[114, 101, 97, 99, 104, 32]⟩ ++ str [UInt8.ofNat y.letter.toNat]), .string (⟨#[116, 97, 107, 101, 32]⟩ ++ str [UInt8.ofNat y.letter.toNat] ++ ⟨#[32]⟩ ++ numS x.count)] 9)).cell? ⟨wa.heap.size, 1, none⟩ = some (.string (⟨#[114, 101, 97, 99, 104, 32]⟩ ++ str [UInt8.ofNat y.letter.toNat])) := by simp [go_sem]
                      refine held_weaken (S' := fun w' => (w'.cell? ⟨eb, 0, none⟩ = some (.int .i64 1) ∧ w'.cell? ⟨eb, 2, none⟩ = some (.int .i64 x.count)) ∧ w'.cell? ⟨wa.heap.size, 1, none⟩ = some (.string (⟨#[114, 101, 97, 99, 104, 32]⟩ ++ str [UInt8.ofNat y.letter.toNat]))) (fun _ h => h.1) _ _ _ _ ?_
                      have hHeld := And.intro hHeld hwt
                      refine wpAnyH_take (i := 17) (v := ?_) rfl (by kernel_rfl) (by kernel_rfl) (by kernel_rfl) (fun _ _ _ h => h) (Or.inl ⟨by rfl, ?_⟩) (by assumption) ?_
                      rotate_left
                      · intro w hSw
                        (try dsimp only at hSw)
                        go_simp
                        all_goals first | with_reducible rfl | rw [if_neg (by omega)]
                      simp only [Act.put, List.setIfInBounds_toArray, List.set_cons_zero, List.set_cons_succ, List.getElem_toArray, List.getElem_cons_zero, List.getElem_cons_succ]
                      refine wpAnyH_take (i := 18) (v := ?_) rfl (by kernel_rfl) (by kernel_rfl) (by kernel_rfl) (fun _ _ _ h => h) (Or.inl ⟨by rfl, ?_⟩) (by assumption) ?_
                      rotate_left
                      · intro w hSw
                        (try dsimp only at hSw)
                        go_simp
                        all_goals first | with_reducible rfl | rw [if_neg (by omega)]
                      simp only [Act.put, List.setIfInBounds_toArray, List.set_cons_zero, List.set_cons_succ, List.getElem_toArray, List.getElem_cons_zero, List.getElem_cons_succ]
                      refine wpAnyH_take (i := 19) (v := ?_) rfl (by kernel_rfl) (by kernel_rfl) (by kernel_rfl) (fun _ _ _ h => h) (Or.inl ⟨by rfl, ?_⟩) (by assumption) ?_
                      rotate_left
                      · intro w hSw
                        (try dsimp only at hSw)
                        go_simp
                        all_goals first | with_reducible rfl | rw [if_neg (by omega)]
                      simp only [Act.put, List.setIfInBounds_toArray, List.set_cons_zero, List.set_cons_succ, List.getElem_toArray, List.getElem_cons_zero, List.getElem_cons_succ]
                      refine wpAnyH_take (i := 20) (v := ?_) rfl (by kernel_rfl) (by kernel_rfl) (by kernel_rfl) (fun _ _ _ h => h) (Or.inl ⟨by rfl, ?_⟩) (by assumption) ?_
                      rotate_left
                      · intro w hSw
                        (try dsimp only at hSw)
                        go_simp
                        all_goals first | with_reducible rfl | rw [if_neg (by omega)]
                      simp only [Act.put, List.setIfInBounds_toArray, List.set_cons_zero, List.set_cons_succ, List.getElem_toArray, List.getElem_cons_zero, List.getElem_cons_succ]
                      refine wpAnyH_take (i := 21) (v := ?_) rfl (by kernel_rfl) (by kernel_rfl) (by kernel_rfl) (fun _ _ _ h => h) (Or.inl ⟨by rfl, ?_⟩) (by assumption) ?_
                      rotate_left
                      · intro w hSw
                        (try dsimp only at hSw)
                        go_simp
                        all_goals first | with_reducible rfl | rw [if_neg (by omega)]
                      simp only [Act.put, List.setIfInBounds_toArray, List.set_cons_zero, List.set_cons_succ, List.getElem_toArray, List.getElem_cons_zero, List.getElem_cons_succ]
                      refine wpAnyH_done (by kernel_rfl) ?_ _
                      go_wp2_with fail
                      go_meet
                      case rel => exact ⟨_, rfl, by rw [HEQ.out, ByteArray.size_append, str_size]; exact HZ.out, Lib.hid (by rw [HEQ.out]), Lib.hid ((HBA.out.drew).alloc (Below.size (HBA.out.drew)) _), Lib.hid (HEB.out.below ((Below.refl _ _).drew.alloc (Nat.le_refl _) _))⟩
                    · have HEQ := Lib.hid (end_take r.pieces x (str [UInt8.ofNat y.letter.toNat]) hk0 (by rw [HPO.out]; rfl))
                      rw [hk0] at c0
                      clear hk0
                      refine wp_region_held_drew (S := fun w' => w'.cell? ⟨eb, 0, none⟩ = some (.int .i64 2) ∧ w'.cell? ⟨eb, 2, none⟩ = some (.int .i64 x.count)) (by kernel_rfl) ?_ (fun hHeld => ?_)
                      · go_keep
                      refine wpAnyH_take (i := 0) (v := ?_) rfl (by kernel_rfl) (by kernel_rfl) (by kernel_rfl) (fun _ _ _ h => h) (Or.inl ⟨by rfl, ?_⟩) (by assumption) ?_
                      rotate_left
                      · intro w hSw
                        (try dsimp only at hSw)
                        go_simp
                        all_goals first | with_reducible rfl | rw [if_neg (by omega)]
                      simp only [Act.put, List.setIfInBounds_toArray, List.set_cons_zero, List.set_cons_succ, List.getElem_toArray, List.getElem_cons_zero]
                      refine wpAnyH_take (i := 1) (v := ?_) rfl (by kernel_rfl) (by kernel_rfl) (by kernel_rfl) (fun _ _ _ h => h) (Or.inl ⟨by rfl, ?_⟩) (by assumption) ?_
                      rotate_left
                      · intro w hSw
                        (try dsimp only at hSw)
                        go_simp
                        all_goals first | with_reducible rfl | rw [if_neg (by omega)]
                      simp only [Act.put, List.setIfInBounds_toArray, List.set_cons_zero, List.set_cons_succ, List.getElem_toArray, List.getElem_cons_zero, List.getElem_cons_succ]
                      refine wpAnyH_take (i := 2) (v := ?_) rfl (by kernel_rfl) (by kernel_rfl) (by kernel_rfl) (fun _ _ _ h => h) (Or.inl ⟨by rfl, ?_⟩) (by assumption) ?_
                      rotate_left
                      · intro w hSw
                        (try dsimp only at hSw)
                        go_simp
                        all_goals first | with_reducible rfl | rw [if_neg (by omega)]
                      simp only [Act.put, List.setIfInBounds_toArray, List.set_cons_zero, List.set_cons_succ, List.getElem_toArray, List.getElem_cons_zero, List.getElem_cons_succ]
                      refine wpAnyH_take (i := 5) (v := ?_) rfl (by kernel_rfl) (by kernel_rfl) (by kernel_rfl) (fun _ _ _ h => h) (Or.inl ⟨by rfl, ?_⟩) (by assumption) ?_
                      rotate_left
                      · intro w hSw
                        (try dsimp only at hSw)
                        go_simp
                        all_goals first | with_reducible rfl | rw [if_neg (by omega)]
                      simp only [Act.put, List.setIfInBounds_toArray, List.set_cons_zero, List.set_cons_succ, List.getElem_toArray, List.getElem_cons_zero, List.getElem_cons_succ]
                      refine wpAnyH_take (i := 6) (v := ?_) rfl (by kernel_rfl) (by kernel_rfl) (by kernel_rfl) (fun _ _ _ h => h) (Or.inl ⟨by rfl, ?_⟩) (by assumption) ?_
                      rotate_left
                      · intro w hSw
                        (try dsimp only at hSw)
                        go_simp
                        all_goals first | with_reducible rfl | rw [if_neg (by omega)]
                      simp only [Act.put, List.setIfInBounds_toArray, List.set_cons_zero, List.set_cons_succ, List.getElem_toArray, List.getElem_cons_zero, List.getElem_cons_succ]
                      refine wpAnyH_take (i := 7) (v := ?_) rfl (by kernel_rfl) (by kernel_rfl) (by kernel_rfl) (fun _ _ _ h => h) (Or.inl ⟨by rfl, ?_⟩) (by assumption) ?_
                      rotate_left
                      · intro w hSw
                        (try dsimp only at hSw)
                        go_simp
                        all_goals first | with_reducible rfl | rw [if_neg (by omega)]
                      simp only [Act.put, List.setIfInBounds_toArray, List.set_cons_zero, List.set_cons_succ, List.getElem_toArray, List.getElem_cons_zero, List.getElem_cons_succ]
                      refine wpAnyH_take (i := 8) (v := ?_) rfl (by kernel_rfl) (by kernel_rfl) (by kernel_rfl) (fun _ _ _ h => h) (Or.inl ⟨by rfl, ?_⟩) (by assumption) ?_
                      rotate_left
                      · intro w hSw
                        (try dsimp only at hSw)
                        go_simp
                        all_goals first | with_reducible rfl | rw [if_neg (by omega)]
                      simp only [Act.put, List.setIfInBounds_toArray, List.set_cons_zero, List.set_cons_succ, List.getElem_toArray, List.getElem_cons_zero, List.getElem_cons_succ]
                      refine wpAnyH_take (i := 9) (v := ?_) rfl (by kernel_rfl) (by kernel_rfl) (by kernel_rfl) (fun _ _ _ h => h) (Or.inl ⟨by rfl, ?_⟩) (by assumption) ?_
                      rotate_left
                      · intro w hSw
                        (try dsimp only at hSw)
                        go_simp
                        all_goals first | with_reducible rfl | rw [if_neg (by omega)]
                      simp only [Act.put, List.setIfInBounds_toArray, List.set_cons_zero, List.set_cons_succ, List.getElem_toArray, List.getElem_cons_zero, List.getElem_cons_succ]
                      refine wpAnyH_take (i := 10) (v := ?_) rfl (by kernel_rfl) (by kernel_rfl) (by kernel_rfl) (fun _ _ _ h => h) (Or.inl ⟨by rfl, ?_⟩) (by assumption) ?_
                      rotate_left
                      · intro w hSw
                        (try dsimp only at hSw)
                        go_simp
                        all_goals first | with_reducible rfl | rw [if_neg (by omega)]
                      simp only [Act.put, List.setIfInBounds_toArray, List.set_cons_zero, List.set_cons_succ, List.getElem_toArray, List.getElem_cons_zero, List.getElem_cons_succ]
                      refine wpAnyH_take (i := 11) (v := ?_) rfl (by kernel_rfl) (by kernel_rfl) (by kernel_rfl) (fun _ _ _ h => h) (Or.inl ⟨by rfl, ?_⟩) (by assumption) ?_
                      rotate_left
                      · intro w hSw
                        (try dsimp only at hSw)
                        go_simp
                        all_goals first | with_reducible rfl | rw [if_neg (by omega)]
                      simp only [Act.put, List.setIfInBounds_toArray, List.set_cons_zero, List.set_cons_succ, List.getElem_toArray, List.getElem_cons_zero, List.getElem_cons_succ]
                      refine wpAnyH_take (i := 15) (v := ?_) rfl (by kernel_rfl) (by kernel_rfl) (by kernel_rfl) (fun _ _ _ h => h) (Or.inl ⟨by rfl, ?_⟩) (by assumption) ?_
                      rotate_left
                      · intro w hSw
                        (try dsimp only at hSw)
                        go_simp
                        all_goals first | with_reducible rfl | rw [if_neg (by omega)]
                      simp only [Act.put, List.setIfInBounds_toArray, List.set_cons_zero, List.set_cons_succ, List.getElem_toArray, List.getElem_cons_zero, List.getElem_cons_succ]
                      refine wpAnyH_take (i := 16) (v := ?_) rfl (by kernel_rfl) (by kernel_rfl) (by kernel_rfl) (fun _ _ _ h => h) (Or.inl ⟨by rfl, ?_⟩) (by assumption) ?_
                      rotate_left
                      · intro w hSw
                        (try dsimp only at hSw)
                        go_simp
                        all_goals first | with_reducible rfl | rw [if_neg (by omega)]
                      simp only [Act.put, List.setIfInBounds_toArray, List.set_cons_zero, List.set_cons_succ, List.getElem_toArray, List.getElem_cons_zero, List.getElem_cons_succ]
                      refine wpAnyH_ready (rs := [3]) (by kernel_rfl) (by simp) (AllReadyH.cons rfl (fun K hK => ?_) AllReadyH.nil)
                      go_simp
                      go_at_call 16; refine (turned (dec_any x.count (by omega) (by omega) _)).mono ?_; rintro e w' ⟨rfl, rfl⟩
                      refine hK.out _ _ ?_ (fun hHeld => ?_)
                      · first | exact hHeld | go_keep
                      clear hK K
                      try simp only [Act.put, List.setIfInBounds_toArray, List.set_cons_zero, List.set_cons_succ, List.getElem_toArray, List.getElem_cons_zero, List.getElem_cons_succ]
                      refine wpAnyH_take (i := 4) (v := ?_) rfl (by kernel_rfl) (by kernel_rfl) (by kernel_rfl) (fun _ _ _ h => h) (Or.inl ⟨by rfl, ?_⟩) (by assumption) ?_
                      rotate_left
                      · intro w hSw
                        (try dsimp only at hSw)
                        go_simp
                        all_goals first | with_reducible rfl | rw [if_neg (by omega)]
                      simp only [Act.put, List.setIfInBounds_toArray, List.set_cons_zero, List.set_cons_succ, List.getElem_toArray, List.getElem_cons_zero, List.getElem_cons_succ]
                      refine wpAnyH_ready (rs := [12]) (by kernel_rfl) (by simp) (AllReadyH.cons rfl (fun K hK => ?_) AllReadyH.nil)
                      go_simp
                      go_at_call 16; refine (turned (dec_any x.count (by omega) (by omega) _)).mono ?_; rintro e w' ⟨rfl, rfl⟩
                      refine hK.out _ _ ?_ (fun hHeld => ?_)
                      · first | exact hHeld | go_keep
                      clear hK K
                      try simp only [Act.put, List.setIfInBounds_toArray, List.set_cons_zero, List.set_cons_succ, List.getElem_toArray, List.getElem_cons_zero, List.getElem_cons_succ]
                      refine wpAnyH_take (i := 13) (v := ?_) rfl (by kernel_rfl) (by kernel_rfl) (by kernel_rfl) (fun _ _ _ h => h) (Or.inl ⟨by rfl, ?_⟩) (by assumption) ?_
                      rotate_left
                      · intro w hSw
                        (try dsimp only at hSw)
                        go_simp
                        all_goals first | with_reducible rfl | rw [if_neg (by omega)]
                      simp only [Act.put, List.setIfInBounds_toArray, List.set_cons_zero, List.set_cons_succ, List.getElem_toArray, List.getElem_cons_zero, List.getElem_cons_succ]
                      refine wpAnyH_ready (rs := [14]) (by kernel_rfl) (by simp) (AllReadyH.cons rfl (fun K hK => ?_) AllReadyH.nil)
                      go_simp
                      skip
                      refine hK.out _ _ ?_ (fun hHeld => ?_)
                      · first | exact hHeld | go_keep
                      clear hK K
                      try simp only [Act.put, List.setIfInBounds_toArray, List.set_cons_zero, List.set_cons_succ, List.getElem_toArray, List.getElem_cons_zero, List.getElem_cons_succ]
                      have hwt : ((wa.drew).alloc (.cells #[.string (⟨#[108, 105, 110, 101, 32]⟩ ++ numS x.count), .string (⟨#[114, 101, 97, 99, 104, 32]⟩ ++ str [UInt8.ofNat y.letter.toNat]), .string (⟨#[116, 97, 107, 101, 32]⟩ ++ str [UInt8.ofNat y.letter.toNat] ++ ⟨#[32]⟩ ++ numS x.count)] 9)).cell? ⟨wa.heap.size, 2, none⟩ = some (.string (⟨#[116, 97, 107, 101, 32]⟩ ++ str [UInt8.ofNat y.letter.toNat] ++ ⟨#[32]⟩ ++ numS x.count)) := by simp [go_sem]
                      refine held_weaken (S' := fun w' => (w'.cell? ⟨eb, 0, none⟩ = some (.int .i64 2) ∧ w'.cell? ⟨eb, 2, none⟩ = some (.int .i64 x.count)) ∧ w'.cell? ⟨wa.heap.size, 2, none⟩ = some (.string (⟨#[116, 97, 107, 101, 32]⟩ ++ str [UInt8.ofNat y.letter.toNat] ++ ⟨#[32]⟩ ++ numS x.count))) (fun _ h => h.1) _ _ _ _ ?_
                      have hHeld := And.intro hHeld hwt
                      refine wpAnyH_take (i := 17) (v := ?_) rfl (by kernel_rfl) (by kernel_rfl) (by kernel_rfl) (fun _ _ _ h => h) (Or.inl ⟨by rfl, ?_⟩) (by assumption) ?_
                      rotate_left
                      · intro w hSw
                        (try dsimp only at hSw)
                        go_simp
                        all_goals first | with_reducible rfl | rw [if_neg (by omega)]
                      simp only [Act.put, List.setIfInBounds_toArray, List.set_cons_zero, List.set_cons_succ, List.getElem_toArray, List.getElem_cons_zero, List.getElem_cons_succ]
                      refine wpAnyH_take (i := 18) (v := ?_) rfl (by kernel_rfl) (by kernel_rfl) (by kernel_rfl) (fun _ _ _ h => h) (Or.inl ⟨by rfl, ?_⟩) (by assumption) ?_
                      rotate_left
                      · intro w hSw
                        (try dsimp only at hSw)
                        go_simp
                        all_goals first | with_reducible rfl | rw [if_neg (by omega)]
                      simp only [Act.put, List.setIfInBounds_toArray, List.set_cons_zero, List.set_cons_succ, List.getElem_toArray, List.getElem_cons_zero, List.getElem_cons_succ]
                      refine wpAnyH_take (i := 19) (v := ?_) rfl (by kernel_rfl) (by kernel_rfl) (by kernel_rfl) (fun _ _ _ h => h) (Or.inl ⟨by rfl, ?_⟩) (by assumption) ?_
                      rotate_left
                      · intro w hSw
                        (try dsimp only at hSw)
                        go_simp
                        all_goals first | with_reducible rfl | rw [if_neg (by omega)]
                      simp only [Act.put, List.setIfInBounds_toArray, List.set_cons_zero, List.set_cons_succ, List.getElem_toArray, List.getElem_cons_zero, List.getElem_cons_succ]
                      refine wpAnyH_take (i := 20) (v := ?_) rfl (by kernel_rfl) (by kernel_rfl) (by kernel_rfl) (fun _ _ _ h => h) (Or.inl ⟨by rfl, ?_⟩) (by assumption) ?_
                      rotate_left
                      · intro w hSw
                        (try dsimp only at hSw)
                        go_simp
                        all_goals first | with_reducible rfl | rw [if_neg (by omega)]
                      simp only [Act.put, List.setIfInBounds_toArray, List.set_cons_zero, List.set_cons_succ, List.getElem_toArray, List.getElem_cons_zero, List.getElem_cons_succ]
                      refine wpAnyH_take (i := 21) (v := ?_) rfl (by kernel_rfl) (by kernel_rfl) (by kernel_rfl) (fun _ _ _ h => h) (Or.inl ⟨by rfl, ?_⟩) (by assumption) ?_
                      rotate_left
                      · intro w hSw
                        (try dsimp only at hSw)
                        go_simp
                        all_goals first | with_reducible rfl | rw [if_neg (by omega)]
                      simp only [Act.put, List.setIfInBounds_toArray, List.set_cons_zero, List.set_cons_succ, List.getElem_toArray, List.getElem_cons_zero, List.getElem_cons_succ]
                      refine wpAnyH_done (by kernel_rfl) ?_ _
                      go_wp2_with fail
                      go_meet
                      case rel => exact ⟨_, rfl, by rw [HEQ.out, ByteArray.size_append, str_size]; exact HZ.out, Lib.hid (by rw [HEQ.out]), Lib.hid ((HBA.out.drew).alloc (Below.size (HBA.out.drew)) _), Lib.hid (HEB.out.below ((Below.refl _ _).drew.alloc (Nat.le_refl _) _))⟩
                  case rest =>
                    clear HEB HBA
                    obtain ⟨T, rfl, hT, HT, hbel, HEB⟩ := hcut
                    obtain ⟨-, -, -, c3⟩ := HEB.out.cells
                    have HNX : Hid (∀ Z : ByteArray, Z = str ([32] ++ howB x.loses ++ [10]) → T ++ Z = str (L5 ++ endsL r.pieces (r.ends.take (k + 1))) ∧ (T ++ Z).size ≤ 4200) := Lib.hid (by
                      rintro Z rfl
                      have h1 : T ++ str ([32] ++ howB x.loses ++ [10]) = str (L5 ++ endsL r.pieces (r.ends.take (k + 1))) := by
                        rw [HT.out, HS.out, endsL_succ HXK.out, endL_h, ByteArray.append_assoc, str_app, str_app, List.append_assoc]
                      refine ⟨h1, ?_⟩
                      rw [h1, str_size, List.length_append]
                      have h2 := endsL_le r.pieces (l := r.ends.take (k + 1)) (fun y hy => HK.out.es y (List.mem_of_mem_take hy))
                      have h3 : (r.ends.take (k + 1)).length * 30 ≤ 6 * 30 := Nat.mul_le_mul_right 30 (by have := HK.out.e6; rw [List.length_take]; omega)
                      have := HLL.out
                      omega)
                    obtain ⟨lo, hlo⟩ : ∃ lo, lo = x.loses := ⟨_, rfl⟩
                    rw [← hlo] at c3 HNX
                    clear hlo HT HS
                    rcases lo with _ | _
                    · have z6 : (⟨#[32, 119, 105, 110, 115, 10]⟩ : ByteArray).size = 6 := rfl
                      go_wp2_with fail
                      clear c3
                      go_roundw
                      case rel => exact ⟨k + 1, _, by omega, by go_num, rfl, (HNX.out _ (how_str false)).2, Lib.hid (HNX.out _ (how_str false)).1, hbel⟩
                      case measure => simp [intOf]; omega
                    · have z7 : (⟨#[32, 108, 111, 115, 101, 115, 10]⟩ : ByteArray).size = 7 := rfl
                      go_wp2_with fail
                      clear c3
                      go_roundw
                      case rel => exact ⟨k + 1, _, by omega, by go_num, rfl, (HNX.out _ (how_str true)).2, Lib.hid (HNX.out _ (how_str true)).1, hbel⟩
                      case measure => simp [intOf]; omega
                · obtain rfl : m = k := by omega
                  have HFIN : Hid ((S ++ ⟨#[98, 108, 111, 99, 107, 101, 100, 32]⟩ ++ str (blockB r.blocked) ++ ⟨#[10, 113, 117, 105, 101, 116, 32]⟩ ++ numS r.quiet ++ ⟨#[10, 114, 101, 112, 101, 97, 116, 32]⟩ ++ numS r.rep ++ ⟨#[10]⟩ : ByteArray) = str (textB r)) := Lib.hid (by
                    rw [HS.out, HM.out, List.take_length, tail_str, HL5.out, HL3.out, HL2.out, textB, HWE.out, HHE.out, Int.toNat_natCast, Int.toNat_natCast])
                  have hbl0 := HK.out.b1
                  have hbl2 := HK.out.b2
                  obtain ⟨bk, hbk⟩ := Int.eq_ofNat_of_zero_le hbl0
                  have HTK : Hid ([[108, 111, 115, 101, 115], [119, 105, 110, 115], [100, 114, 97, 119, 115]][bk]? = some (blockB r.blocked)) := Lib.hid (by have h1 := block_word hbl0 hbl2; rw [hbk, Int.toNat_natCast] at h1; rw [hbk]; exact h1)
                  have hk4 : (bk : Int) < 3 := by omega
                  have hk5 : (0 : Int) ≤ (bk : Int) := by omega
                  have zb : (str (blockB r.blocked)).size ≤ 5 := by rw [str_size]; exact blockB_le _
                  have zq : (numS r.quiet).size ≤ 3 := numS_size (by have := HK.out.q1; omega) HK.out.q2
                  have zr : (numS r.rep).size ≤ 3 := numS_size (by have := HK.out.r1; omega) (by have := HK.out.r2; omega)
                  obtain ⟨⟨-, -, -, -, -, -, -, -, b8, b9, b10⟩, -⟩ := (HX.out.below hbel.out (Array.getElem?_eq_some_iff.1 HX.out).1).facts
                  rw [hbk] at b8
                  clear hbl0 hbl2 hbk HS
                  go_wp2_with fail
                  refine wp_region_held_drew (S := fun w' => w'.cell? ⟨w.heap.size, 8, none⟩ = some (.int .i64 (bk : Int)) ∧ w'.cell? ⟨w.heap.size, 9, none⟩ = some (.int .i64 r.quiet) ∧ w'.cell? ⟨w.heap.size, 10, none⟩ = some (.int .i64 r.rep)) (by kernel_rfl) ?_ (fun hHeld => ?_)
                  · go_keep
                  refine wpAnyH_take (i := 0) (v := ?_) rfl (by kernel_rfl) (by kernel_rfl) (by kernel_rfl) (fun _ _ _ h => h) (Or.inl ⟨by rfl, ?_⟩) (by assumption) ?_
                  rotate_left
                  · intro w hSw
                    (try dsimp only at hSw)
                    go_simp
                    all_goals first | with_reducible rfl | rw [if_neg (by omega)]
                  simp only [Act.put, List.setIfInBounds_toArray, List.set_cons_zero, List.set_cons_succ, List.getElem_toArray, List.getElem_cons_zero]
                  refine wpAnyH_take (i := 1) (v := ?_) rfl (by kernel_rfl) (by kernel_rfl) (by kernel_rfl) (fun _ _ _ h => h) (Or.inl ⟨by rfl, ?_⟩) (by assumption) ?_
                  rotate_left
                  · intro w hSw
                    (try dsimp only at hSw)
                    go_simp
                    all_goals first | with_reducible rfl | rw [if_neg (by omega)]
                  simp only [Act.put, List.setIfInBounds_toArray, List.set_cons_zero, List.set_cons_succ, List.getElem_toArray, List.getElem_cons_zero, List.getElem_cons_succ]
                  refine wpAnyH_take (i := 3) (v := ?_) rfl (by kernel_rfl) (by kernel_rfl) (by kernel_rfl) (fun _ _ _ h => h) (Or.inl ⟨by rfl, ?_⟩) (by assumption) ?_
                  rotate_left
                  · intro w hSw
                    (try dsimp only at hSw)
                    go_simp
                    all_goals first | with_reducible rfl | rw [if_neg (by omega)]
                  simp only [Act.put, List.setIfInBounds_toArray, List.set_cons_zero, List.set_cons_succ, List.getElem_toArray, List.getElem_cons_zero, List.getElem_cons_succ]
                  refine wpAnyH_take (i := 4) (v := ?_) rfl (by kernel_rfl) (by kernel_rfl) (by kernel_rfl) (fun _ _ _ h => h) (Or.inl ⟨by rfl, ?_⟩) (by assumption) ?_
                  rotate_left
                  · intro w hSw
                    (try dsimp only at hSw)
                    go_simp
                    all_goals first | with_reducible rfl | rw [if_neg (by omega)]
                  simp only [Act.put, List.setIfInBounds_toArray, List.set_cons_zero, List.set_cons_succ, List.getElem_toArray, List.getElem_cons_zero, List.getElem_cons_succ]
                  refine wpAnyH_take (i := 9) (v := ?_) rfl (by kernel_rfl) (by kernel_rfl) (by kernel_rfl) (fun _ _ _ h => h) (Or.inl ⟨by rfl, ?_⟩) (by assumption) ?_
                  rotate_left
                  · intro w hSw
                    (try dsimp only at hSw)
                    go_simp
                    all_goals first | with_reducible rfl | rw [if_neg (by omega)]
                  simp only [Act.put, List.setIfInBounds_toArray, List.set_cons_zero, List.set_cons_succ, List.getElem_toArray, List.getElem_cons_zero, List.getElem_cons_succ]
                  refine wpAnyH_take (i := 10) (v := ?_) rfl (by kernel_rfl) (by kernel_rfl) (by kernel_rfl) (fun _ _ _ h => h) (Or.inl ⟨by rfl, ?_⟩) (by assumption) ?_
                  rotate_left
                  · intro w hSw
                    (try dsimp only at hSw)
                    go_simp
                    all_goals first | with_reducible rfl | rw [if_neg (by omega)]
                  simp only [Act.put, List.setIfInBounds_toArray, List.set_cons_zero, List.set_cons_succ, List.getElem_toArray, List.getElem_cons_zero, List.getElem_cons_succ]
                  refine wpAnyH_take (i := 14) (v := ?_) rfl (by kernel_rfl) (by kernel_rfl) (by kernel_rfl) (fun _ _ _ h => h) (Or.inl ⟨by rfl, ?_⟩) (by assumption) ?_
                  rotate_left
                  · intro w hSw
                    (try dsimp only at hSw)
                    go_simp
                    all_goals first | with_reducible rfl | rw [if_neg (by omega)]
                  simp only [Act.put, List.setIfInBounds_toArray, List.set_cons_zero, List.set_cons_succ, List.getElem_toArray, List.getElem_cons_zero, List.getElem_cons_succ]
                  refine wpAnyH_take (i := 15) (v := ?_) rfl (by kernel_rfl) (by kernel_rfl) (by kernel_rfl) (fun _ _ _ h => h) (Or.inl ⟨by rfl, ?_⟩) (by assumption) ?_
                  rotate_left
                  · intro w hSw
                    (try dsimp only at hSw)
                    go_simp
                    all_goals first | with_reducible rfl | rw [if_neg (by omega)]
                  simp only [Act.put, List.setIfInBounds_toArray, List.set_cons_zero, List.set_cons_succ, List.getElem_toArray, List.getElem_cons_zero, List.getElem_cons_succ]
                  refine wpAnyH_ready (rs := [2, 11]) (by kernel_rfl) (by simp) (AllReadyH.cons rfl (fun K hK => ?_) (AllReadyH.cons rfl (fun K hK => ?_) AllReadyH.nil))
                  · go_simp
                    skip
                    refine hK.out _ _ ?_ (fun hHeld => ?_)
                    · first | exact hHeld | go_keep
                    clear hK K
                    try simp only [Act.put, List.setIfInBounds_toArray, List.set_cons_zero, List.set_cons_succ, List.getElem_toArray, List.getElem_cons_zero, List.getElem_cons_succ]
                    have hwt : ((wr.drew).alloc (.cells #[.string ⟨#[108, 111, 115, 101, 115]⟩, .string ⟨#[119, 105, 110, 115]⟩, .string ⟨#[100, 114, 97, 119, 115]⟩] 9)).cell? ⟨wr.heap.size, bk, none⟩ = some (.string (str (blockB r.blocked))) := (wblk_new wr.drew _ [[108, 111, 115, 101, 115], [119, 105, 110, 115], [100, 114, 97, 119, 115]] rfl).words bk _ HTK.out
                    refine held_weaken (S' := fun w' => (w'.cell? ⟨w.heap.size, 8, none⟩ = some (.int .i64 (bk : Int)) ∧ w'.cell? ⟨w.heap.size, 9, none⟩ = some (.int .i64 r.quiet) ∧ w'.cell? ⟨w.heap.size, 10, none⟩ = some (.int .i64 r.rep)) ∧ w'.cell? ⟨wr.heap.size, bk, none⟩ = some (.string (str (blockB r.blocked)))) (fun _ h => h.1) _ _ _ _ ?_
                    have hHeld := And.intro hHeld hwt
                    refine wpAnyH_take (i := 5) (v := ?_) rfl (by kernel_rfl) (by kernel_rfl) (by kernel_rfl) (fun _ _ _ h => h) (Or.inl ⟨by rfl, ?_⟩) (by assumption) ?_
                    rotate_left
                    · intro w hSw
                      (try dsimp only at hSw)
                      go_simp
                      all_goals first | with_reducible rfl | rw [if_neg (by omega)]
                    simp only [Act.put, List.setIfInBounds_toArray, List.set_cons_zero, List.set_cons_succ, List.getElem_toArray, List.getElem_cons_zero, List.getElem_cons_succ]
                    refine wpAnyH_take (i := 6) (v := ?_) rfl (by kernel_rfl) (by kernel_rfl) (by kernel_rfl) (fun _ _ _ h => h) (Or.inl ⟨by rfl, ?_⟩) (by assumption) ?_
                    rotate_left
                    · intro w hSw
                      (try dsimp only at hSw)
                      go_simp
                      all_goals first | with_reducible rfl | rw [if_neg (by omega)]
                    simp only [Act.put, List.setIfInBounds_toArray, List.set_cons_zero, List.set_cons_succ, List.getElem_toArray, List.getElem_cons_zero, List.getElem_cons_succ]
                    refine wpAnyH_take (i := 7) (v := ?_) rfl (by kernel_rfl) (by kernel_rfl) (by kernel_rfl) (fun _ _ _ h => h) (Or.inl ⟨by rfl, ?_⟩) (by assumption) ?_
                    rotate_left
                    · intro w hSw
                      (try dsimp only at hSw)
                      go_simp
                      all_goals first | with_reducible rfl | rw [if_neg (by omega)]
                    simp only [Act.put, List.setIfInBounds_toArray, List.set_cons_zero, List.set_cons_succ, List.getElem_toArray, List.getElem_cons_zero, List.getElem_cons_succ]
                    refine wpAnyH_take (i := 8) (v := ?_) rfl (by kernel_rfl) (by kernel_rfl) (by kernel_rfl) (fun _ _ _ h => h) (Or.inl ⟨by rfl, ?_⟩) (by assumption) ?_
                    rotate_left
                    · intro w hSw
                      (try dsimp only at hSw)
                      go_simp
                      all_goals first | with_reducible rfl | rw [if_neg (by omega)]
                    simp only [Act.put, List.setIfInBounds_toArray, List.set_cons_zero, List.set_cons_succ, List.getElem_toArray, List.getElem_cons_zero, List.getElem_cons_succ]
                    refine wpAnyH_ready (rs := [11]) (by kernel_rfl) (by simp) (AllReadyH.cons rfl (fun K hK => ?_) AllReadyH.nil)
                    go_simp
                    go_at_call 16; refine (turned (dec_any r.quiet (by have := HK.out.q1; omega) (by exact HK.out.q2) _)).mono ?_; rintro e w' ⟨rfl, rfl⟩
                    refine hK.out _ _ ?_ (fun hHeld => ?_)
                    · first | exact hHeld | go_keep
                    clear hK K
                    try simp only [Act.put, List.setIfInBounds_toArray, List.set_cons_zero, List.set_cons_succ, List.getElem_toArray, List.getElem_cons_zero, List.getElem_cons_succ]
                    refine wpAnyH_take (i := 12) (v := ?_) rfl (by kernel_rfl) (by kernel_rfl) (by kernel_rfl) (fun _ _ _ h => h) (Or.inl ⟨by rfl, ?_⟩) (by assumption) ?_
                    rotate_left
                    · intro w hSw
                      (try dsimp only at hSw)
                      go_simp
                      all_goals first | with_reducible rfl | rw [if_neg (by omega)]
                    simp only [Act.put, List.setIfInBounds_toArray, List.set_cons_zero, List.set_cons_succ, List.getElem_toArray, List.getElem_cons_zero, List.getElem_cons_succ]
                    refine wpAnyH_take (i := 13) (v := ?_) rfl (by kernel_rfl) (by kernel_rfl) (by kernel_rfl) (fun _ _ _ h => h) (Or.inl ⟨by rfl, ?_⟩) (by assumption) ?_
                    rotate_left
                    · intro w hSw
                      (try dsimp only at hSw)
                      go_simp
                      all_goals first | with_reducible rfl | rw [if_neg (by omega)]
                    simp only [Act.put, List.setIfInBounds_toArray, List.set_cons_zero, List.set_cons_succ, List.getElem_toArray, List.getElem_cons_zero, List.getElem_cons_succ]
                    refine wpAnyH_ready (rs := [16]) (by kernel_rfl) (by simp) (AllReadyH.cons rfl (fun K hK => ?_) AllReadyH.nil)
                    go_simp
                    go_at_call 16; refine (turned (dec_any r.rep (by have := HK.out.r1; omega) (by have := HK.out.r2; omega) _)).mono ?_; rintro e w' ⟨rfl, rfl⟩
                    refine hK.out _ _ ?_ (fun hHeld => ?_)
                    · first | exact hHeld | go_keep
                    clear hK K
                    try simp only [Act.put, List.setIfInBounds_toArray, List.set_cons_zero, List.set_cons_succ, List.getElem_toArray, List.getElem_cons_zero, List.getElem_cons_succ]
                    refine wpAnyH_take (i := 17) (v := ?_) rfl (by kernel_rfl) (by kernel_rfl) (by kernel_rfl) (fun _ _ _ h => h) (Or.inl ⟨by rfl, ?_⟩) (by assumption) ?_
                    rotate_left
                    · intro w hSw
                      (try dsimp only at hSw)
                      go_simp
                      all_goals first | with_reducible rfl | rw [if_neg (by omega)]
                    simp only [Act.put, List.setIfInBounds_toArray, List.set_cons_zero, List.set_cons_succ, List.getElem_toArray, List.getElem_cons_zero, List.getElem_cons_succ]
                    refine wpAnyH_take (i := 18) (v := ?_) rfl (by kernel_rfl) (by kernel_rfl) (by kernel_rfl) (fun _ _ _ h => h) (Or.inl ⟨by rfl, ?_⟩) (by assumption) ?_
                    rotate_left
                    · intro w hSw
                      (try dsimp only at hSw)
                      go_simp
                      all_goals first | with_reducible rfl | rw [if_neg (by omega)]
                    simp only [Act.put, List.setIfInBounds_toArray, List.set_cons_zero, List.set_cons_succ, List.getElem_toArray, List.getElem_cons_zero, List.getElem_cons_succ]
                    refine wpAnyH_take (i := 19) (v := ?_) rfl (by kernel_rfl) (by kernel_rfl) (by kernel_rfl) (fun _ _ _ h => h) (Or.inl ⟨by rfl, ?_⟩) (by assumption) ?_
                    rotate_left
                    · intro w hSw
                      (try dsimp only at hSw)
                      go_simp
                      all_goals first | with_reducible rfl | rw [if_neg (by omega)]
                    simp only [Act.put, List.setIfInBounds_toArray, List.set_cons_zero, List.set_cons_succ, List.getElem_toArray, List.getElem_cons_zero, List.getElem_cons_succ]
                    refine wpAnyH_done (by kernel_rfl) ?_ _
                    go_wp2_with fail
                    go_ret
                    exact ⟨by rw [← HFIN.out]; rfl, HB.out.trans (((hbel.out.drew).alloc (Below.size (hbel.out.drew)) _).mono (Below.size HB.out))⟩
                  · go_simp
                    go_at_call 16; refine (turned (dec_any r.quiet (by have := HK.out.q1; omega) (by exact HK.out.q2) _)).mono ?_; rintro e w' ⟨rfl, rfl⟩
                    refine hK.out _ _ ?_ (fun hHeld => ?_)
                    · first | exact hHeld | go_keep
                    clear hK K
                    try simp only [Act.put, List.setIfInBounds_toArray, List.set_cons_zero, List.set_cons_succ, List.getElem_toArray, List.getElem_cons_zero, List.getElem_cons_succ]
                    refine wpAnyH_ready (rs := [2, 16]) (by kernel_rfl) (by simp) (AllReadyH.cons rfl (fun K hK => ?_) (AllReadyH.cons rfl (fun K hK => ?_) AllReadyH.nil))
                    · go_simp
                      skip
                      refine hK.out _ _ ?_ (fun hHeld => ?_)
                      · first | exact hHeld | go_keep
                      clear hK K
                      try simp only [Act.put, List.setIfInBounds_toArray, List.set_cons_zero, List.set_cons_succ, List.getElem_toArray, List.getElem_cons_zero, List.getElem_cons_succ]
                      have hwt : ((wr.drew).alloc (.cells #[.string ⟨#[108, 111, 115, 101, 115]⟩, .string ⟨#[119, 105, 110, 115]⟩, .string ⟨#[100, 114, 97, 119, 115]⟩] 9)).cell? ⟨wr.heap.size, bk, none⟩ = some (.string (str (blockB r.blocked))) := (wblk_new wr.drew _ [[108, 111, 115, 101, 115], [119, 105, 110, 115], [100, 114, 97, 119, 115]] rfl).words bk _ HTK.out
                      refine held_weaken (S' := fun w' => (w'.cell? ⟨w.heap.size, 8, none⟩ = some (.int .i64 (bk : Int)) ∧ w'.cell? ⟨w.heap.size, 9, none⟩ = some (.int .i64 r.quiet) ∧ w'.cell? ⟨w.heap.size, 10, none⟩ = some (.int .i64 r.rep)) ∧ w'.cell? ⟨wr.heap.size, bk, none⟩ = some (.string (str (blockB r.blocked)))) (fun _ h => h.1) _ _ _ _ ?_
                      have hHeld := And.intro hHeld hwt
                      refine wpAnyH_take (i := 5) (v := ?_) rfl (by kernel_rfl) (by kernel_rfl) (by kernel_rfl) (fun _ _ _ h => h) (Or.inl ⟨by rfl, ?_⟩) (by assumption) ?_
                      rotate_left
                      · intro w hSw
                        (try dsimp only at hSw)
                        go_simp
                        all_goals first | with_reducible rfl | rw [if_neg (by omega)]
                      simp only [Act.put, List.setIfInBounds_toArray, List.set_cons_zero, List.set_cons_succ, List.getElem_toArray, List.getElem_cons_zero, List.getElem_cons_succ]
                      refine wpAnyH_take (i := 6) (v := ?_) rfl (by kernel_rfl) (by kernel_rfl) (by kernel_rfl) (fun _ _ _ h => h) (Or.inl ⟨by rfl, ?_⟩) (by assumption) ?_
                      rotate_left
                      · intro w hSw
                        (try dsimp only at hSw)
                        go_simp
                        all_goals first | with_reducible rfl | rw [if_neg (by omega)]
                      simp only [Act.put, List.setIfInBounds_toArray, List.set_cons_zero, List.set_cons_succ, List.getElem_toArray, List.getElem_cons_zero, List.getElem_cons_succ]
                      refine wpAnyH_take (i := 7) (v := ?_) rfl (by kernel_rfl) (by kernel_rfl) (by kernel_rfl) (fun _ _ _ h => h) (Or.inl ⟨by rfl, ?_⟩) (by assumption) ?_
                      rotate_left
                      · intro w hSw
                        (try dsimp only at hSw)
                        go_simp
                        all_goals first | with_reducible rfl | rw [if_neg (by omega)]
                      simp only [Act.put, List.setIfInBounds_toArray, List.set_cons_zero, List.set_cons_succ, List.getElem_toArray, List.getElem_cons_zero, List.getElem_cons_succ]
                      refine wpAnyH_take (i := 8) (v := ?_) rfl (by kernel_rfl) (by kernel_rfl) (by kernel_rfl) (fun _ _ _ h => h) (Or.inl ⟨by rfl, ?_⟩) (by assumption) ?_
                      rotate_left
                      · intro w hSw
                        (try dsimp only at hSw)
                        go_simp
                        all_goals first | with_reducible rfl | rw [if_neg (by omega)]
                      simp only [Act.put, List.setIfInBounds_toArray, List.set_cons_zero, List.set_cons_succ, List.getElem_toArray, List.getElem_cons_zero, List.getElem_cons_succ]
                      refine wpAnyH_take (i := 12) (v := ?_) rfl (by kernel_rfl) (by kernel_rfl) (by kernel_rfl) (fun _ _ _ h => h) (Or.inl ⟨by rfl, ?_⟩) (by assumption) ?_
                      rotate_left
                      · intro w hSw
                        (try dsimp only at hSw)
                        go_simp
                        all_goals first | with_reducible rfl | rw [if_neg (by omega)]
                      simp only [Act.put, List.setIfInBounds_toArray, List.set_cons_zero, List.set_cons_succ, List.getElem_toArray, List.getElem_cons_zero, List.getElem_cons_succ]
                      refine wpAnyH_take (i := 13) (v := ?_) rfl (by kernel_rfl) (by kernel_rfl) (by kernel_rfl) (fun _ _ _ h => h) (Or.inl ⟨by rfl, ?_⟩) (by assumption) ?_
                      rotate_left
                      · intro w hSw
                        (try dsimp only at hSw)
                        go_simp
                        all_goals first | with_reducible rfl | rw [if_neg (by omega)]
                      simp only [Act.put, List.setIfInBounds_toArray, List.set_cons_zero, List.set_cons_succ, List.getElem_toArray, List.getElem_cons_zero, List.getElem_cons_succ]
                      refine wpAnyH_ready (rs := [16]) (by kernel_rfl) (by simp) (AllReadyH.cons rfl (fun K hK => ?_) AllReadyH.nil)
                      go_simp
                      go_at_call 16; refine (turned (dec_any r.rep (by have := HK.out.r1; omega) (by have := HK.out.r2; omega) _)).mono ?_; rintro e w' ⟨rfl, rfl⟩
                      refine hK.out _ _ ?_ (fun hHeld => ?_)
                      · first | exact hHeld | go_keep
                      clear hK K
                      try simp only [Act.put, List.setIfInBounds_toArray, List.set_cons_zero, List.set_cons_succ, List.getElem_toArray, List.getElem_cons_zero, List.getElem_cons_succ]
                      refine wpAnyH_take (i := 17) (v := ?_) rfl (by kernel_rfl) (by kernel_rfl) (by kernel_rfl) (fun _ _ _ h => h) (Or.inl ⟨by rfl, ?_⟩) (by assumption) ?_
                      rotate_left
                      · intro w hSw
                        (try dsimp only at hSw)
                        go_simp
                        all_goals first | with_reducible rfl | rw [if_neg (by omega)]
                      simp only [Act.put, List.setIfInBounds_toArray, List.set_cons_zero, List.set_cons_succ, List.getElem_toArray, List.getElem_cons_zero, List.getElem_cons_succ]
                      refine wpAnyH_take (i := 18) (v := ?_) rfl (by kernel_rfl) (by kernel_rfl) (by kernel_rfl) (fun _ _ _ h => h) (Or.inl ⟨by rfl, ?_⟩) (by assumption) ?_
                      rotate_left
                      · intro w hSw
                        (try dsimp only at hSw)
                        go_simp
                        all_goals first | with_reducible rfl | rw [if_neg (by omega)]
                      simp only [Act.put, List.setIfInBounds_toArray, List.set_cons_zero, List.set_cons_succ, List.getElem_toArray, List.getElem_cons_zero, List.getElem_cons_succ]
                      refine wpAnyH_take (i := 19) (v := ?_) rfl (by kernel_rfl) (by kernel_rfl) (by kernel_rfl) (fun _ _ _ h => h) (Or.inl ⟨by rfl, ?_⟩) (by assumption) ?_
                      rotate_left
                      · intro w hSw
                        (try dsimp only at hSw)
                        go_simp
                        all_goals first | with_reducible rfl | rw [if_neg (by omega)]
                      simp only [Act.put, List.setIfInBounds_toArray, List.set_cons_zero, List.set_cons_succ, List.getElem_toArray, List.getElem_cons_zero, List.getElem_cons_succ]
                      refine wpAnyH_done (by kernel_rfl) ?_ _
                      go_wp2_with fail
                      go_ret
                      exact ⟨by rw [← HFIN.out]; rfl, HB.out.trans (((hbel.out.drew).alloc (Below.size (hbel.out.drew)) _).mono (Below.size HB.out))⟩
                    · go_simp
                      go_at_call 16; refine (turned (dec_any r.rep (by have := HK.out.r1; omega) (by have := HK.out.r2; omega) _)).mono ?_; rintro e w' ⟨rfl, rfl⟩
                      refine hK.out _ _ ?_ (fun hHeld => ?_)
                      · first | exact hHeld | go_keep
                      clear hK K
                      try simp only [Act.put, List.setIfInBounds_toArray, List.set_cons_zero, List.set_cons_succ, List.getElem_toArray, List.getElem_cons_zero, List.getElem_cons_succ]
                      refine wpAnyH_ready (rs := [2]) (by kernel_rfl) (by simp) (AllReadyH.cons rfl (fun K hK => ?_) AllReadyH.nil)
                      go_simp
                      skip
                      refine hK.out _ _ ?_ (fun hHeld => ?_)
                      · first | exact hHeld | go_keep
                      clear hK K
                      try simp only [Act.put, List.setIfInBounds_toArray, List.set_cons_zero, List.set_cons_succ, List.getElem_toArray, List.getElem_cons_zero, List.getElem_cons_succ]
                      have hwt : ((wr.drew).alloc (.cells #[.string ⟨#[108, 111, 115, 101, 115]⟩, .string ⟨#[119, 105, 110, 115]⟩, .string ⟨#[100, 114, 97, 119, 115]⟩] 9)).cell? ⟨wr.heap.size, bk, none⟩ = some (.string (str (blockB r.blocked))) := (wblk_new wr.drew _ [[108, 111, 115, 101, 115], [119, 105, 110, 115], [100, 114, 97, 119, 115]] rfl).words bk _ HTK.out
                      refine held_weaken (S' := fun w' => (w'.cell? ⟨w.heap.size, 8, none⟩ = some (.int .i64 (bk : Int)) ∧ w'.cell? ⟨w.heap.size, 9, none⟩ = some (.int .i64 r.quiet) ∧ w'.cell? ⟨w.heap.size, 10, none⟩ = some (.int .i64 r.rep)) ∧ w'.cell? ⟨wr.heap.size, bk, none⟩ = some (.string (str (blockB r.blocked)))) (fun _ h => h.1) _ _ _ _ ?_
                      have hHeld := And.intro hHeld hwt
                      refine wpAnyH_take (i := 5) (v := ?_) rfl (by kernel_rfl) (by kernel_rfl) (by kernel_rfl) (fun _ _ _ h => h) (Or.inl ⟨by rfl, ?_⟩) (by assumption) ?_
                      rotate_left
                      · intro w hSw
                        (try dsimp only at hSw)
                        go_simp
                        all_goals first | with_reducible rfl | rw [if_neg (by omega)]
                      simp only [Act.put, List.setIfInBounds_toArray, List.set_cons_zero, List.set_cons_succ, List.getElem_toArray, List.getElem_cons_zero, List.getElem_cons_succ]
                      refine wpAnyH_take (i := 6) (v := ?_) rfl (by kernel_rfl) (by kernel_rfl) (by kernel_rfl) (fun _ _ _ h => h) (Or.inl ⟨by rfl, ?_⟩) (by assumption) ?_
                      rotate_left
                      · intro w hSw
                        (try dsimp only at hSw)
                        go_simp
                        all_goals first | with_reducible rfl | rw [if_neg (by omega)]
                      simp only [Act.put, List.setIfInBounds_toArray, List.set_cons_zero, List.set_cons_succ, List.getElem_toArray, List.getElem_cons_zero, List.getElem_cons_succ]
                      refine wpAnyH_take (i := 7) (v := ?_) rfl (by kernel_rfl) (by kernel_rfl) (by kernel_rfl) (fun _ _ _ h => h) (Or.inl ⟨by rfl, ?_⟩) (by assumption) ?_
                      rotate_left
                      · intro w hSw
                        (try dsimp only at hSw)
                        go_simp
                        all_goals first | with_reducible rfl | rw [if_neg (by omega)]
                      simp only [Act.put, List.setIfInBounds_toArray, List.set_cons_zero, List.set_cons_succ, List.getElem_toArray, List.getElem_cons_zero, List.getElem_cons_succ]
                      refine wpAnyH_take (i := 8) (v := ?_) rfl (by kernel_rfl) (by kernel_rfl) (by kernel_rfl) (fun _ _ _ h => h) (Or.inl ⟨by rfl, ?_⟩) (by assumption) ?_
                      rotate_left
                      · intro w hSw
                        (try dsimp only at hSw)
                        go_simp
                        all_goals first | with_reducible rfl | rw [if_neg (by omega)]
                      simp only [Act.put, List.setIfInBounds_toArray, List.set_cons_zero, List.set_cons_succ, List.getElem_toArray, List.getElem_cons_zero, List.getElem_cons_succ]
                      refine wpAnyH_take (i := 12) (v := ?_) rfl (by kernel_rfl) (by kernel_rfl) (by kernel_rfl) (fun _ _ _ h => h) (Or.inl ⟨by rfl, ?_⟩) (by assumption) ?_
                      rotate_left
                      · intro w hSw
                        (try dsimp only at hSw)
                        go_simp
                        all_goals first | with_reducible rfl | rw [if_neg (by omega)]
                      simp only [Act.put, List.setIfInBounds_toArray, List.set_cons_zero, List.set_cons_succ, List.getElem_toArray, List.getElem_cons_zero, List.getElem_cons_succ]
                      refine wpAnyH_take (i := 13) (v := ?_) rfl (by kernel_rfl) (by kernel_rfl) (by kernel_rfl) (fun _ _ _ h => h) (Or.inl ⟨by rfl, ?_⟩) (by assumption) ?_
                      rotate_left
                      · intro w hSw
                        (try dsimp only at hSw)
                        go_simp
                        all_goals first | with_reducible rfl | rw [if_neg (by omega)]
                      simp only [Act.put, List.setIfInBounds_toArray, List.set_cons_zero, List.set_cons_succ, List.getElem_toArray, List.getElem_cons_zero, List.getElem_cons_succ]
                      refine wpAnyH_take (i := 17) (v := ?_) rfl (by kernel_rfl) (by kernel_rfl) (by kernel_rfl) (fun _ _ _ h => h) (Or.inl ⟨by rfl, ?_⟩) (by assumption) ?_
                      rotate_left
                      · intro w hSw
                        (try dsimp only at hSw)
                        go_simp
                        all_goals first | with_reducible rfl | rw [if_neg (by omega)]
                      simp only [Act.put, List.setIfInBounds_toArray, List.set_cons_zero, List.set_cons_succ, List.getElem_toArray, List.getElem_cons_zero, List.getElem_cons_succ]
                      refine wpAnyH_take (i := 18) (v := ?_) rfl (by kernel_rfl) (by kernel_rfl) (by kernel_rfl) (fun _ _ _ h => h) (Or.inl ⟨by rfl, ?_⟩) (by assumption) ?_
                      rotate_left
                      · intro w hSw
                        (try dsimp only at hSw)
                        go_simp
                        all_goals first | with_reducible rfl | rw [if_neg (by omega)]
                      simp only [Act.put, List.setIfInBounds_toArray, List.set_cons_zero, List.set_cons_succ, List.getElem_toArray, List.getElem_cons_zero, List.getElem_cons_succ]
                      refine wpAnyH_take (i := 19) (v := ?_) rfl (by kernel_rfl) (by kernel_rfl) (by kernel_rfl) (fun _ _ _ h => h) (Or.inl ⟨by rfl, ?_⟩) (by assumption) ?_
                      rotate_left
                      · intro w hSw
                        (try dsimp only at hSw)
                        go_simp
                        all_goals first | with_reducible rfl | rw [if_neg (by omega)]
                      simp only [Act.put, List.setIfInBounds_toArray, List.set_cons_zero, List.set_cons_succ, List.getElem_toArray, List.getElem_cons_zero, List.getElem_cons_succ]
                      refine wpAnyH_done (by kernel_rfl) ?_ _
                      go_wp2_with fail
                      go_ret
                      exact ⟨by rw [← HFIN.out]; rfl, HB.out.trans (((hbel.out.drew).alloc (Below.size (hbel.out.drew)) _).mono (Below.size HB.out))⟩
        · rw [show (((y + 1 : Nat) : Int) - 1) = (y : Int) by omega]
          obtain ⟨⟨b0, b1, b2, b3, b4, -⟩, -⟩ := HX.out.facts
          have b1 := cell_keeps hbel.out (Nat.le_refl _) b1
          rw [HWE.out] at b1
          clear b0 b2 b3 b4
          go_wp2_with fail
          clear b1
          go_loopw [3, 9, 10, 110] (fun s _ _ i wr => ∃ (j : Nat) (T : ByteArray), j ≤ W ∧ i = .int .i64 (j : Int) ∧ s = .string T ∧ T.size ≤ 3904 + j ∧ Hid (T = S ++ str ([114, 111, 119, 32] ++ (rowB r.pieces r.start W y).take j)) ∧ Hid (Below w1.heap.size w1 wr)) (fun _ _ _ i _ => W - (intOf i).toNat)
          case atStart => exact ⟨0, _, by omega, rfl, rfl, by rw [ByteArray.size_append]; have : (⟨#[114, 111, 119, 32]⟩ : ByteArray).size = 4 := rfl; omega, Lib.hid (by rw [List.take_zero, List.append_nil]; rfl), hbel⟩
          case round =>
            clear hbel
            obtain ⟨j, T, hj, rfl, rfl, hT, HT, hbel⟩ := hrel
            by_cases hlt : j < W
            · obtain ⟨P, hP⟩ : ∃ P : Nat, P = y * W := ⟨_, rfl⟩
              obtain ⟨p, hp⟩ : ∃ p : Nat, p = P + j := ⟨_, rfl⟩
              have hPA : P + W ≤ A := by
                rw [hP, HAA.out, ← Nat.succ_mul, Nat.mul_comm W H]; exact Nat.mul_le_mul_right W (by omega)
              have hA64 : A ≤ 64 := by rw [HAA.out]; exact Nat.mul_le_mul hW8 hH8
              have hpA : p < A := by omega
              have hPI : (y : Int) * (W : Int) = (P : Int) := by rw [hP, Int.natCast_mul]
              have q3 : IntKind.i64.wrap ((y : Int) * (W : Int)) = (P : Int) := by rw [hPI, IntWalk.i64_in _ (by omega)]
              have q4 : IntKind.i64.wrap ((P : Int) + (j : Int)) = (p : Int) := by rw [IntWalk.i64_in _ (by omega)]; omega
              have HP : Hid (p = y * W + j) := Lib.hid (by rw [hp, hP])
              clear hPI hP hp
              obtain ⟨g0, o0, c, rfl, hc, hcell⟩ := HST.out p hpA
              have HTK : Hid ((rowB r.pieces r.start W y).take (j + 1) = (rowB r.pieces r.start W y).take j ++ [cellB r.pieces c]) := Lib.hid (rowB_take hlt (by rw [← HP.out]; exact hc))
              have c0 := hcell wr hbel.out
              rw [Nat.mul_one] at c0
              have hcs := HK.out.st c (List.mem_of_getElem? hc)
              obtain ⟨⟨b0, b1, b2, b3, b4, b5, b6, b7, b8, b9, b10⟩, -⟩ := (HX.out.below hbel.out (Array.getElem?_eq_some_iff.1 HX.out).1).facts
              rw [HWE.out] at b1
              have hpcs : p < cs := by omega
              obtain ⟨hc0, hc1⟩ := hcs
              clear hc hcell
              by_cases hz : c = 0
              · subst hz
                go_wp2_with fail
                clear b0 b1 b2 b3 b4 b5 b6 b7 b8 b9 b10 c0 q3 q4
                go_roundw
                case rel => exact ⟨j + 1, _, by omega, by go_num, rfl, by rw [ByteArray.size_append]; have : (⟨#[46]⟩ : ByteArray).size = 1 := rfl; omega, Lib.hid (by rw [HTK.out, HT.out, ByteArray.append_assoc, ← List.append_assoc, ← str_app]; rfl), hbel⟩
                case measure => simp [intOf]; omega
              · have HLC : Hid (Calls Tryd.prog 17 #[RulesV r (.slice ap r.pieces.length cp) (.slice (some ⟨g0, o0, none⟩) A cs) (.slice ae m ce), .int .i64 c] wr fun e w' => e = .returned (.string (str [cellB r.pieces c])) ∧ Below wr.heap.size wr w') := Lib.hid (letterRef_any r _ _ _ c wr (by rw [← HN.out]; exact HR.out.below hbel.out (Nat.le_refl _)) HK.out.p6 (by omega) hc1 (fun x hx => (HK.out.ps x hx).1))
                have hzne : (c == 0) = false := by simpa using hz
                have z1 := size_one (cellB r.pieces c)
                rw [← HN.out] at HLC
                unfold RulesV at HLC
                rw [HWE.out] at HLC
                go_wp2_with fail
                go_at_call 17; refine HLC.out.mono ?_; rintro e w2 ⟨rfl, hb2⟩
                have HBN : Hid (Below w1.heap.size w1 w2) := Lib.hid (hbel.out.trans (hb2.mono (Below.size hbel.out)))
                clear b0 b1 b2 b3 b4 b5 b6 b7 b8 b9 b10 c0 q3 q4 hb2 HLC
                go_wp2_with fail
                go_roundw
                case rel => exact ⟨j + 1, _, by omega, by go_num, rfl, by rw [ByteArray.size_append]; omega, Lib.hid (by rw [HTK.out, HT.out, ByteArray.append_assoc, ← List.append_assoc, str_app]), HBN⟩
                case measure => simp [intOf]; omega
            · obtain rfl : j = W := by omega
              have HNX : Hid (∃ D, Done r.pieces r.start j H y D ∧ T ++ ⟨#[10]⟩ = str (L2 ++ D)) := Lib.hid (by
                obtain ⟨D, hD, hSD⟩ := HS.out
                exact ⟨_, hD.next, by rw [row_str T S _ _ _ _ HT.out, hSD, str_app, List.append_assoc]⟩)
              have HZ : Hid ((T ++ ⟨#[10]⟩ : ByteArray).size ≤ 3900) := Lib.hid (by
                obtain ⟨D, hD, hSD⟩ := HNX.out
                have h1 := hD.len hW8 hH8
                have h2 := game_pieces_le HK.out r.pieces.length
                rw [List.take_length, ← HL2.out] at h2
                rw [hSD, str_size, List.length_append]; omega)
              clear HT HS
              go_wp2_with fail
              go_roundw
              case rel => exact ⟨y, _, by omega, by go_num, rfl, HZ.out, HNX, hbel⟩
              case measure => simp [intOf]
end Go.Proofs.YtjmiflegdhmfjaaDoor
