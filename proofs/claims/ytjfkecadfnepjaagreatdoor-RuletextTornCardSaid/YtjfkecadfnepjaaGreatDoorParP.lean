/- ruletext's parser: pieces. -/
import Derived.Test.YtjfkecadfnepjaaGreatDoorParW
import Derived.Deep.CutBlock
set_option maxRecDepth 100000
namespace Go.Proofs.YtjfkecadfnepjaaGreatDoor
open Go.ChangeShapes Go.WideShapes Go.ChangeAt Go.RowKit
attribute [local go_sem ↓] Go.wp_at_zero Go.wp_at_succ

theorem info_piece : (Tryz.prog.info? 58).map (fun i => (i.zero, i.size, i.bytes)) = some (some (.agg #[.int .u8 0, .int .i64 0, .int .i64 0, .slice none 0 0]), 4, 48) := by kernel_rfl
theorem info_str : (Tryz.prog.info? 9).map (fun i => (i.zero, i.size, i.bytes)) = some (some (.string ⟨#[]⟩), 1, 16) := by kernel_rfl
theorem waysGo_ls : ∀ (f : Nat) (s : PS), (waysGo f s).2.ls.length ≤ s.ls.length
  | 0, _ => Nat.le_refl _
  | f + 1, s => by
    unfold waysGo
    split
    · rename_i h
      have h1 := waysGo_ls f (wayM s).2
      rw [wayM_ls h, List.length_tail] at h1
      show (waysGo f (wayM s).2).2.ls.length ≤ _
      omega
    · exact Nat.le_refl _
theorem headS_ls {s : PS} (h : begM kPiece s = true) : (headS s).ls.length ≤ s.ls.length - 1 := by
  have h1 : (headS s).ls.length ≤ (headN s).2.ls.length := waysGo_ls _ _
  have h2 : (headN s).2.ls = s.ls.tail := by
    show (numM _ _).2.ls = _
    rw [numM, optM_ls, lineM_ls h]
  rw [h2, List.length_tail] at h1
  exact h1
theorem psGo_no {s : PS} (h : begM kPiece s = false) (f : Nat) : psGo f s = ([], s) := by
  cases f with
  | zero => rfl
  | succ f => rw [psGo, if_neg (by rw [h]; decide)]
/-- A type as it was read, with the word for what it changes into, and the value of its ways. -/
structure RawP where
  p : PieceD
  wo : List UInt8
  u : Value
def RawP.pr (y : RawP) : PieceD × List UInt8 := (y.p, y.wo)
def rawC (y : RawP) : List Value := [.int .u8 y.p.letter, .int .i64 y.p.hand, .int .i64 y.p.promote, y.u]
def rawS (y : RawP) : List Value := [.string (str y.wo)]
/-- What all types read so far keep. -/
def RawOk (W : World) (L : List RawP) : Prop := ∀ y ∈ L, IsSl WayT 4 W y.u y.p.ways ∧ 0 ≤ y.p.letter ∧ y.p.letter ≤ 255 ∧ y.wo.length ≤ 8192
theorem RawOk.kt {W W' : World} {L : List RawP} (h : RawOk W L) (k : KT 81 W W') : RawOk W' L := fun y hy => ⟨isSl_map (h y hy).1 fun _ _ _ hx => hx.kt k, (h y hy).2⟩
theorem isSl_one {α : Type} {q : World → Nat → Nat → α → Prop} {k : Nat} {W : World} {v : Value} {xs : List α} (h : IsSl q k W v xs) : v.oneCell' = true := by
  rcases h with ⟨_, a, cap, rfl⟩ | ⟨g, off, cap, rfl, _⟩ <;> rfl
def Raw0 (L : List RawP) : Prop := ∀ y ∈ L, y.p.promote = 0
/-- The first loop's state. -/
def PsAt (B b : Nat) (w wr : World) (v v2 : Value) (L : List RawP) (σ : PS) : Prop :=
  wr.ownsRow w.heap.size 58 4 v L.length (cellsL rawC L) ∧ wr.ownsRow w.heap.size 9 1 v2 L.length (cellsL rawS L) ∧ StAt B b w wr σ ∧ RawOk wr L ∧ Raw0 L
theorem number_k {B b : Nat} {w V : World} {σ : PS} {x : List UInt8} (hE : Env B w) (hB : B ≤ b) (hx : x.length ≤ 8192) (hV : StAt B b w V σ) : Calls Tryz.prog 53 #[.pointer (some ⟨b, 0, none⟩), .string (str x)] V (StP B b w (.int .i64 (numM x σ).1) (numM x σ).2) := par_st hV (number_par B b _ _ V hV.1 hx hB (hV.env hE))
def WaysK (B b : Nat) (s : PS) (w : World) (e : Ending) (w' : World) : Prop := ∃ v, e = .returned v ∧ IsSl WayT 4 w' v (waysM s).1 ∧ StAt B b w w' (waysM s).2
theorem ways_k {B b : Nat} {w V : World} {σ : PS} (hE : Env B w) (hB : B ≤ b) (hV : StAt B b w V σ) : Calls Tryz.prog 69 #[.pointer (some ⟨b, 0, none⟩)] V (WaysK B b σ w) :=
  (ways_par B b σ V hV.1 hB (hV.env hE)).mono fun _ _ ⟨v, h1, h2, h3, h4⟩ => ⟨v, h1, h2, h3, hV.2.trans h4⟩
theorem StAt.fail {B b : Nat} {w W : World} {s : PS} (h : StAt B b w W s) (hB : B ≤ b) : StAt B b w (W.setCell ⟨b, 1, none⟩ (.bool true)) (failS s) := ⟨h.1.fail, h.2.set hB 1 _⟩
theorem PsAt.step {B b : Nat} {w W W' : World} {v v2 : Value} {L : List RawP} {σ τ : PS} (h : PsAt B b w W v v2 L σ) (hf : StAt B b W W' τ) (hb : b < w.heap.size) : PsAt B b w W' v v2 L τ :=
  ⟨own_fr h.1 hf.2 hb, own_fr h.2.1 hf.2 hb, h.2.2.1.trans hf, h.2.2.2.1.kt (h.2.2.1.1.kt hf.2 (by decide)), h.2.2.2.2⟩
theorem RawOk.snoc {W : World} {L : List RawP} {y : RawP} (h : RawOk W L) (hy : IsSl WayT 4 W y.u y.p.ways ∧ 0 ≤ y.p.letter ∧ y.p.letter ≤ 255 ∧ y.wo.length ≤ 8192) : RawOk W (L ++ [y]) := by
  intro z hz
  rcases List.mem_append.1 hz with hz | hz
  · exact h z hz
  · rw [List.mem_singleton] at hz; subst hz; exact hy
theorem Raw0.snoc {L : List RawP} {y : RawP} (h : Raw0 L) (hy : y.p.promote = 0) : Raw0 (L ++ [y]) := by
  intro z hz
  rcases List.mem_append.1 hz with hz | hz
  · exact h z hz
  · rw [List.mem_singleton] at hz; subst hz; exact hy
theorem isSl_of_map {α β : Type} {q : World → Nat → Nat → β → Prop} (f : α → β) {k : Nat} {W : World} {v : Value} {l : List α} (h : IsSl (fun W g o y => q W g o (f y)) k W v l) : IsSl q k W v (l.map f) := by
  rcases h with ⟨rfl, a, cap, rfl⟩ | ⟨g, off, cap, e1, e2, e3, e4, hc⟩
  · exact .inl ⟨rfl, a, cap, rfl⟩
  · refine .inr ⟨g, off, cap, by rw [List.length_map]; exact e1, by simpa using e2, by rw [List.length_map]; exact e3, e4, fun i x hx => ?_⟩
    rw [List.getElem?_map, Option.map_eq_some_iff] at hx
    obtain ⟨y, hy, rfl⟩ := hx
    exact hc i y hy
def pP (y : RawP) : PieceD := y.p
theorem raw_pieces {W : World} {base : Nat} {v : Value} {P : List RawP} (h : W.ownsRow base 58 4 v P.length (cellsL rawC P)) (hr : RawOk W P) : IsSl PieceT 4 W v (P.map pP) :=
  isSl_of_map pP (own_isSl (k := 4) (fun _ => rfl) h fun _ _ y hy ht hc => ⟨ht, y.u, hc 0 _ rfl, hc 1 _ rfl, hc 2 _ rfl, hc 3 _ rfl, (hr y hy).1⟩)
theorem raw_fit {W : World} {P : List RawP} (hr : RawOk W P) : LettersFit (P.map pP) := by
  intro x hx
  rw [List.mem_map] at hx
  obtain ⟨y, hy, rfl⟩ := hx
  exact ⟨(hr y hy).2.1, (hr y hy).2.2.1⟩
/-- The second loop's state. -/
def QsAt (B b : Nat) (w wr : World) (v v2 : Value) (L P : List RawP) (τ : PS) : Prop :=
  wr.ownsRow w.heap.size 58 4 v P.length (cellsL rawC P) ∧ wr.ownsRow w.heap.size 9 1 v2 L.length (cellsL rawS L) ∧ StAt B b w wr τ ∧ RawOk wr P
def QsOk (s : PS) (L P : List RawP) (k : Nat) (τ : PS) : Prop :=
  P.length = L.length ∧ (∀ j, k ≤ j → P[j]? = L[j]?) ∧ SameL (P.map pP) (L.map pP) ∧ ((P.take k).map pP ++ (promGo (L.map pP) ((L.drop k).map RawP.pr) τ).1, (promGo (L.map pP) ((L.drop k).map RawP.pr) τ).2) = piecesM s
theorem qsOk_zero {s σ : PS} {L : List RawP} (h : (L.map RawP.pr, σ) = psM s) : QsOk s L L 0 σ := by
  refine ⟨rfl, fun _ _ => rfl, rfl, ?_⟩
  rw [piecesM, ← h]
  have e : (L.map RawP.pr).map (fun y => y.1) = L.map pP := by rw [List.map_map]; rfl
  simp only [e, List.take_zero, List.map_nil, List.nil_append, List.drop_zero]
theorem qsOk_end {s τ : PS} {L P : List RawP} {k : Nat} (h : QsOk s L P k τ) (hk : k = L.length) : (P.map pP, τ) = piecesM s := by
  obtain ⟨h1, h2, h3, h4⟩ := h
  rw [← h4, hk, List.drop_length, ← h1, List.take_length]
  simp [promGo]
theorem pieceM_same {w : List UInt8} {ps qs : List PieceD} (h : SameL ps qs) (s : PS) : pieceM w ps s = pieceM w qs s := by
  have e : ∀ l : List PieceD, idxV (fun q => lettB q == w) l = idxV (fun c : Int => [UInt8.ofNat c.toNat] == w) (l.map (·.letter)) := by
    intro l
    rw [idxV, idxV, List.findIdx?_map]; rfl
  rw [pieceM, pieceM, e ps, e qs, h]
def setP (y : RawP) (q : Int) : RawP := ⟨⟨y.p.letter, y.p.hand, q, y.p.ways⟩, y.wo, y.u⟩
theorem qsOk_step {s τ τ2 : PS} {L P : List RawP} {k : Nat} {y : RawP} {q : Int} (h : QsOk s L P k τ) (hy : L[k]? = some y) (hq : promI y.wo (L.map pP) τ = (q, τ2)) : QsOk s L (P.set k (setP y q)) (k + 1) τ2 := by
  obtain ⟨h1, h2, h3, h4⟩ := h
  have hkL := (List.getElem?_eq_some_iff.1 hy).1
  have hkP : k < P.length := by omega
  refine ⟨by simpa using h1, fun j hj => ?_, ?_, ?_⟩
  · rw [List.getElem?_set_ne (by omega)]; exact h2 j (by omega)
  · have hPk : P[k]? = some y := (h2 k (Nat.le_refl _)).trans hy
    unfold SameL at h3 ⊢
    rw [← h3]
    apply List.ext_getElem?
    intro j
    simp only [List.getElem?_map]
    by_cases hj : k = j
    · subst hj
      rw [List.getElem?_set_self hkP, hPk]; rfl
    · rw [List.getElem?_set_ne hj]
  · rw [← h4]
    have hd : L.drop k = y :: L.drop (k + 1) := by
      rw [List.drop_eq_getElem_cons hkL, (List.getElem?_eq_some_iff.1 hy).2]
    have ht : ((P.set k (setP y q)).take (k + 1)).map pP = (P.take k).map pP ++ [⟨y.p.letter, y.p.hand, q, y.p.ways⟩] := by
      rw [List.take_add_one, List.getElem?_set_self hkP, List.take_set_of_le (Nat.le_refl _)]
      simp [pP, setP]
    rw [hd, List.map_cons]
    show _ = ((P.take k).map pP ++ (⟨y.p.letter, y.p.hand, (promI y.wo (L.map pP) τ).1, y.p.ways⟩ :: (promGo (L.map pP) ((L.drop (k + 1)).map RawP.pr) (promI y.wo (L.map pP) τ).2).1), (promGo (L.map pP) ((L.drop (k + 1)).map RawP.pr) (promI y.wo (L.map pP) τ).2).2)
    rw [hq, ht]; simp
theorem qsOk_same {s τ : PS} {L P : List RawP} {k : Nat} {y : RawP} (h : QsOk s L P k τ) (hy : L[k]? = some y) (h0 : y.p.promote = 0) (hw : y.wo = [45]) : QsOk s L P (k + 1) τ := by
  have hPk : P[k]? = some y := (h.2.1 k (Nat.le_refl _)).trans hy
  have h2 := qsOk_step (q := 0) (τ2 := τ) h hy (by rw [promI, if_pos hw])
  have e : P.set k (setP y 0) = P := by
    have e1 : setP y 0 = y := by
      obtain ⟨⟨a, c, d, ws⟩, wo, u⟩ := y
      simp only at h0
      simp [setP, h0]
    rw [e1]
    apply List.ext_getElem?
    intro j
    by_cases hj : k = j
    · subst hj
      rw [List.getElem?_set_self (List.getElem?_eq_some_iff.1 hPk).1, hPk]
    · rw [List.getElem?_set_ne hj]
  rw [e] at h2; exact h2
theorem rawC_set (P : List RawP) (k : Nat) (y : RawP) (q : Int) (hP : P[k]? = some y) : (cellsL rawC P).set (k * 4 + 2) (.int .i64 q) = cellsL rawC (P.set k (setP y q)) := by
  apply List.ext_getElem?
  intro j
  have hk := (List.getElem?_eq_some_iff.1 hP).1
  have hlen : (cellsL rawC P).length = P.length * 4 := cellsL_len (k := 4) (fun _ => rfl) P
  have hlen2 : (cellsL rawC (P.set k (setP y q))).length = P.length * 4 := by rw [cellsL_len (k := 4) (fun _ => rfl)]; simp
  by_cases hj : j < P.length * 4
  · have hd : j / 4 < P.length := by omega
    have e : j = j / 4 * 4 + j % 4 := by omega
    have hm : j % 4 < 4 := by omega
    by_cases hjk : j / 4 = k
    · have hs : (P.set k (setP y q))[j / 4]? = some (setP y q) := by rw [hjk, List.getElem?_set_self hk]
      have h1 := cellsL_at (f := rawC) (k := 4) (fun _ => rfl) _ _ _ hs (j % 4) hm
      have h2 := cellsL_at (f := rawC) (k := 4) (fun _ => rfl) P (j / 4) y (by rw [hjk]; exact hP) (j % 4) hm
      rw [← e] at h1 h2
      rw [h1]
      by_cases h22 : k * 4 + 2 = j
      · rw [h22, List.getElem?_set_self (by omega)]
        have : j % 4 = 2 := by omega
        rw [this]; rfl
      · rw [List.getElem?_set_ne h22, h2]
        have : j % 4 = 0 ∨ j % 4 = 1 ∨ j % 4 = 3 := by omega
        rcases this with h | h | h <;> (rw [h]; rfl)
    · have hs : (P.set k (setP y q))[j / 4]? = some P[j / 4] := by rw [List.getElem?_set_ne (fun h => hjk h.symm)]; exact List.getElem?_eq_getElem hd
      have h1 := cellsL_at (f := rawC) (k := 4) (fun _ => rfl) _ _ _ hs (j % 4) hm
      have h2 := cellsL_at (f := rawC) (k := 4) (fun _ => rfl) P (j / 4) _ (List.getElem?_eq_getElem hd) (j % 4) hm
      rw [← e] at h1 h2
      rw [h1, List.getElem?_set_ne (by omega), h2]
  · rw [List.getElem?_eq_none (by rw [List.length_set]; omega), List.getElem?_eq_none (by omega)]
theorem promI_no {w : List UInt8} {ps : List PieceD} {s : PS} (h : w ≠ [45]) : promI w ps s = ((pieceM w ps s).1 + 1, (pieceM w ps s).2) := by rw [promI, if_neg h]
theorem pieceM_le (w : List UInt8) (ps : List PieceD) (s : PS) : 0 ≤ (pieceM w ps s).1 ∧ (pieceM w ps s).1 ≤ ps.length := by
  unfold pieceM
  cases h : idxV (fun q => lettB q == w) ps with
  | none => simp [optM]
  | some v =>
    obtain ⟨i, x, h1, h2, _⟩ := idxV_some h
    have := (List.getElem?_eq_some_iff.1 h2).1
    simp [optM]; omega
theorem own_at {W : World} {base n cap : Nat} {e : TypeId} {size : Nat} {a : Option Addr} {xs : List Value} (h : W.ownsRow base e size (.slice a n cap) n xs) (hn : 0 < n) : ∃ g, a = some ⟨g, 0, none⟩ ∧ n ≤ cap := by
  rcases h.2 with ⟨_, h0⟩ | ⟨g, c, cur, hv, _, _, h1, _⟩
  · omega
  · simp only [Value.slice.injEq] at hv
    exact ⟨g, hv.1, by omega⟩
set_option maxHeartbeats 8000000 in
theorem pieces_par (B b : Nat) (s : PS) (w : World) (h : PAt w b s) (hB : B ≤ b) (hE : Env B w) :
    Calls Tryz.prog 48 #[.pointer (some ⟨b, 0, none⟩)] w (fun e w' => ∃ v, e = .returned v ∧ IsSl PieceT 4 w' v (piecesM s).1 ∧ PAt w' b (piecesM s).2 ∧ Fr B b w w') := by
  obtain ⟨i0, hi0, hz0, hz1, hz2⟩ := info_parts info_piece
  obtain ⟨i1, hi1, hy0, hy1, hy2⟩ := info_parts info_str
  have hbw := h.lt
  have hN9 : s.ls.length ≤ 9000 := by
    obtain ⟨a, c, _, h1, h2, _⟩ := h
    omega
  obtain ⟨N, hN⟩ : ∃ N, N = s.ls.length := ⟨_, rfl⟩
  have HE := Lib.hid hE
  have HR0 : Hid (((([] : List RawP).map RawP.pr) ++ (psGo N s).1, (psGo N s).2) = psM s) := Lib.hid (by rw [hN]; rfl)
  have HL0 : Hid (s.ls.length ≤ N) := Lib.hid (by omega)
  have HP0 : Hid (PsAt B b w w (.slice none 0 0) (.slice none 0 0) [] s) := Lib.hid ⟨World.ownsRow_nil _ _ _ _, World.ownsRow_nil _ _ _ _, StAt.refl h, (by intro y hy; cases hy), (by intro y hy; cases hy)⟩
  rw [← hN] at hN9
  clear h hE hN
  go_enter Tryz.func48, Tryz.ntmps48
  go_upto_block 0 with fail
  go_cut [3, 4] from 5 to 40 (fun v v2 wx => ∃ (L : List RawP) (σ : PS), L.length ≤ 9000 ∧ (∃ a cap, v = .slice a L.length cap) ∧ (∃ a cap, v2 = .slice a L.length cap) ∧ Hid (PsAt B b w wx v v2 L σ) ∧ Hid ((L.map RawP.pr, σ) = psM s))
  case first =>
    go_wp2_with fail
    go_loopw [3, 4, 5] (fun v v2 _ wr => ∃ (L : List RawP) (σ : PS) (f : Nat), L.length + f = N ∧ (∃ a cap, v = .slice a L.length cap) ∧ (∃ a cap, v2 = .slice a L.length cap) ∧ Hid (PsAt B b w wr v v2 L σ) ∧ Hid (σ.ls.length ≤ f) ∧ Hid (((L.map RawP.pr) ++ (psGo f σ).1, (psGo f σ).2) = psM s)) (fun v _ _ _ => N - lenOf v)
    case atStart => exact ⟨[], s, N, by simp, ⟨_, _, rfl⟩, ⟨_, _, rfl⟩, HP0, HL0, HR0⟩
    case round =>
      clear HP0 HL0 HR0
      obtain ⟨L, σ, f, hf, ⟨va, vc, rfl⟩, ⟨sa, sc, rfl⟩, hps, hlen, hrel⟩ := hrel
      obtain ⟨n, hn⟩ : ∃ n, n = L.length := ⟨_, rfl⟩
      have HN := Lib.hid hn
      rw [← hn] at hf hps ⊢
      clear hn
      have HST := Lib.hid hps.out.2.2.1
      have HBG : Hid (Calls Tryz.prog 68 #[.pointer (some ⟨b, 0, none⟩), .string ⟨#[112, 105, 101, 99, 101]⟩] wr fun e w' => e = .returned (.bool (begM kPiece σ)) ∧ wr = w') := Lib.hid (turned (begins_any b kPiece σ wr HST.out.1 (by decide)))
      cases hb : begM kPiece σ with
      | false =>
        rw [hb] at HBG
        have HP : Hid ((L.map RawP.pr, σ) = psM s) := Lib.hid (by
          have h1 := hrel.out
          rw [psGo_no hb f, List.append_nil] at h1; exact h1)
        have hn9 : L.length ≤ 9000 := by have := HN.out; omega
        have HPS : Hid (PsAt B b w wr (.slice va L.length vc) (.slice sa L.length sc) L σ) := Lib.hid (by rw [← HN.out]; exact hps.out)
        clear hb hps hlen hrel
        go_wp2_with fail
        go_at_call 68; refine HBG.out.mono ?_; rintro e w' ⟨rfl, rfl⟩
        go_wp2_with fail
        go_meet
        case rel => exact ⟨L, σ, hn9, ⟨_, _, by rw [← HN.out]⟩, ⟨_, _, by rw [← HN.out]⟩, by first | exact HPS | (rw [HN.out]; exact HPS), HP⟩
      | true =>
        rw [hb] at HBG
        obtain ⟨f, rfl⟩ : ∃ f', f = f' + 1 := by
          obtain ⟨l, r, hl, _, _⟩ := beg_cases hb
          have := hlen.out
          rw [hl, List.length_cons] at this
          exact ⟨f - 1, by omega⟩
        have HBE := Lib.hid hb
        have HL : Hid (Calls Tryz.prog 46 #[.pointer (some ⟨b, 0, none⟩), .string ⟨#[112, 105, 101, 99, 101]⟩, .int .i64 (3 : Nat)] wr (WordsP B b (headW σ) (lineM kPiece 3 σ).2 wr)) := Lib.hid (line_par B b kPiece 3 σ wr HST.out.1 (by decide) (by decide) hB (HST.out.env HE.out))
        clear hb
        go_wp2_with fail
        go_at_call 68; refine HBG.out.mono ?_; rintro e w' ⟨rfl, rfl⟩
        go_wp2_with fail
        go_at_call 46; refine HL.out.mono ?_; rintro e W ⟨wa, wc, rfl, hws, hpW, hfW⟩
        have hwl : (headW σ).length = 3 := (lineM_rd kPiece 3 σ).2
        obtain ⟨c4, c9, g, o, rfl, hgb, htb, hcw, hsm⟩ := words_at hws hwl (by decide)
        rw [hwl]
        have HPW : Hid (PsAt B b w W (.slice va n vc) (.slice sa n sc) L (lineM kPiece 3 σ).2) := Lib.hid (hps.out.step ⟨hpW, hfW⟩ hbw)
        have x0 := hcw 0 (by decide)
        have x1 := hcw 1 (by decide)
        have x2 := hcw 2 (by decide)
        rw [Nat.add_zero] at x0
        have HTB : Hid (TyBlk W g 9) := Lib.hid htb
        have HSM := Lib.hid hsm
        have hnn : n ≤ 9000 := by omega
        have hWs : Hid (w.heap.size ≤ W.heap.size) := Lib.hid HPW.out.2.2.1.2.1.size
        obtain ⟨u, bad, c0, c1, f1⟩ := bad_at hpW
        by_cases hl1 : (wd (headW σ) 0).length = 1
        · obtain ⟨c0v, hc0⟩ : ∃ c : UInt8, wd (headW σ) 0 = [c] := by
            match hq : wd (headW σ) 0, hl1 with
            | [c], _ => exact ⟨c, rfl⟩
          have e0 : str (wd (headW σ) 0) = ⟨#[c0v]⟩ := by rw [hc0]; rfl
          rw [e0] at x0
          obtain ⟨X1, hX1⟩ : ∃ X, X = str (wd (headW σ) 1) := ⟨_, rfl⟩
          obtain ⟨X2, hX2⟩ : ∃ X, X = str (wd (headW σ) 2) := ⟨_, rfl⟩
          have HST0 : Hid (StAt B b W W.drew (lineM kPiece 3 σ).2) := Lib.hid ((StAt.refl hpW).drew hB)
          have HEW : Hid (Env B W) := Lib.hid (HPW.out.2.2.1.env HE.out)
          have KN : Hid (∀ V, StAt B b W V (lineM kPiece 3 σ).2 → Calls Tryz.prog 53 #[.pointer (some ⟨b, 0, none⟩), .string X1] V (StP B b W (.int .i64 (headN σ).1) (headN σ).2)) := Lib.hid (fun V hV => by
            rw [hX1]; exact number_k HEW.out hB (hsm 1) hV)
          have KW : Hid (∀ V, StAt B b W V (headN σ).2 → Calls Tryz.prog 69 #[.pointer (some ⟨b, 0, none⟩)] V (WaysK B b (headN σ).2 W)) := Lib.hid (fun V hV => ways_k HEW.out hB hV)
          have HRL : Hid ((L.map RawP.pr ++ [headP σ] ++ (psGo f (headS σ)).1, (psGo f (headS σ)).2) = psM s) := Lib.hid (by
            rw [← hrel.out, psGo, if_pos HBE.out, if_pos hl1]; simp)
          have HLN : Hid ((headS σ).ls.length ≤ f) := Lib.hid (by have := headS_ls HBE.out; have := hlen.out; omega)
          have HHP : Hid ((headP σ).1 = ⟨(c0v.toNat : Int), (headN σ).1, 0, (waysM (headN σ).2).1⟩ ∧ str (headP σ).2 = X2 ∧ (headP σ).2.length ≤ 8192) := Lib.hid ⟨by rw [headP, hc0]; rfl, hX2.symm, hsm 2⟩
          obtain ⟨n1, hn1⟩ : ∃ n, n = (headN σ).1 := ⟨_, rfl⟩
          obtain ⟨s0, hs0⟩ : ∃ n, n = (lineM kPiece 3 σ).2 := ⟨_, rfl⟩
          obtain ⟨s1, hs1⟩ : ∃ n, n = (headN σ).2 := ⟨_, rfl⟩
          rw [← hX1] at x1
          rw [← hX2] at x2
          rw [← hn1, ← hs0, ← hs1] at KN
          rw [← hs1] at KW
          rw [← hs0] at HST0 HPW
          rw [← hn1, ← hs1] at HHP
          have HS1 : Hid (headS σ = (waysM s1).2) := Lib.hid (by rw [hs1]; rfl)
          obtain ⟨C0, hC0⟩ : ∃ C : Int, C = (c0v.toNat : Int) := ⟨_, rfl⟩
          clear hc0 hX1 hX2 hl1 hps hlen hrel HST hws hpW hfW hsm hcw hwl HBG HL htb hn1 hs0 hs1 e0
          go_wp2_with fail
          go_region_held3 (fun w' => w'.cell? ⟨g, o, none⟩ = some (.string ⟨#[c0v]⟩) ∧ w'.cell? ⟨g, o + 1, none⟩ = some (.string X1)) (go_keep) (first
            | (go_at_call 53; refine (KN.out _ HST0.out).mono ?_; rintro e V1 ⟨rfl, h1⟩; have H1 := Lib.hid h1; have y0 := h1.2.cell hgb x0; have y1 := h1.2.cell hgb x1; clear h1)
            | (go_at_call 69; refine (KW.out _ H1.out).mono ?_; rintro e V2 ⟨vw, rfl, hsl, h2⟩; obtain ⟨nw, hnw⟩ : ∃ nw, nw = (waysM s1).1.length := ⟨_, rfl⟩; obtain ⟨aw, cw, rfl, -, -⟩ := hsl.shape hnw; have H2 := Lib.hid h2; have HSL := Lib.hid hsl; have HP2 := Lib.hid (HPW.out.step h2 hbw); have ho2 := HP2.out.1; rw [← HN.out] at ho2; have HO2 := Lib.hid ho2; clear ho2; have HT2 := Lib.hid (show TyBlk V2 g 9 from let ⟨cs, fr, hh⟩ := HTB.out; ⟨cs, fr, h2.2.heap hgb hh⟩); have y0 := h2.2.cell hgb x0; have y1 := h2.2.cell hgb x1; have y2 := h2.2.cell hgb x2; have hV2 := h2.2.1.size; clear h2 hsl hnw)
            | (refine step_append_lies _ (by rfl) _ _ _ (by rfl) w.heap.size 58 i0 _ 4 48 Tryz.underlying22 hi0 hz0 hz1 hz2 rfl (by omega) (.slice va n vc) n (cellsL rawC L) (by rfl) (HO2.out.alloc _) ⟨V2.heap.size, 0, none⟩ 1 1 [.int .u8 (c0v.toNat : Int), .int .i64 n1, .int .i64 0, .slice aw nw cw] (by rfl) (by rfl) (World.news_of_block (cs := #[.int .u8 (c0v.toNat : Int), .int .i64 n1, .int .i64 0, .slice aw nw cw]) (t := 58) (fr := (0, 0)) (heap_alloc_new V2 _)) (by simp [Value.oneCell']) (by omega) (by unfold maxLen; omega) (by omega) (by have := hWs.out; simp; omega) (V2.heap.size + 1) (by simp) ?_; intro gg cap W6 hown6 hgrow hat hlt; have H6 := Lib.hid hgrow; have H7 := Lib.hid hown6; have hk6 : KT 9 V2 W6 := (KT.of ((Below.refl _ _).alloc (Nat.le_refl _) _)).trans (KT.grown (HO2.out.alloc _) hgrow (by decide)); have y0 := HT2.out.cell hk6 y0; have y1 := HT2.out.cell hk6 y1; have y2 := HT2.out.cell hk6 y2; have HK6 := Lib.hid hk6; have hk7 : KT 81 V2 W6 := (KT.of ((Below.refl _ _).alloc (Nat.le_refl _) _)).trans (KT.grown (HO2.out.alloc _) hgrow (by decide)); have HK7 := Lib.hid hk7; clear hown6 hgrow hat hlt hk6 hk7))
          all_goals
            have HST6 : Hid (StAt B b w W6 (headS σ)) := Lib.hid (by
              rw [HS1.out]
              exact ((HPW.out.2.2.1.trans H2.out).below ((Below.refl _ _).alloc (Nat.le_refl _) _) hB).grown H6.out (fun k hk => (own_block HO2.out k hk).1) (by omega) hbw)
            have HOS : Hid (W6.ownsRow w.heap.size 9 1 (.slice sa n sc) n (cellsL rawS L)) := Lib.hid (by
              have := own_kt HP2.out.2.1 HK6.out
              rw [← HN.out] at this; exact this)
            have hW6 : w.heap.size ≤ W6.heap.size := HST6.out.2.1.size
            go_wp2_with (at_builtin; refine wpList_append_lies _ rfl _ _ _ rfl w.heap.size 9 i1 _ 1 16 Tryz.underlying36 hi1 hy0 hy1 hy2 rfl (by omega) (.slice sa n sc) n (cellsL rawS L) rfl (HOS.out.alloc _) ⟨W6.heap.size, 0, none⟩ 1 1 [.string X2] rfl rfl (World.news_of_block (cs := #[.string X2]) (t := 9) (fr := (0, 0)) (heap_alloc_new W6 _)) (by simp [Value.oneCell']) (by omega) (by unfold maxLen; omega) (by omega) (by simp; omega) (W6.heap.size + 1) (by simp) ?_)
            intro g2 cap2 W8 hown8 hgrow8 hat8 hlt8
            have HA : Hid (Below W6.heap.size W6 (W6.alloc (.cells #[.string X2] 9))) := Lib.hid ((Below.refl _ _).alloc (Nat.le_refl _) _)
            have HPS : Hid (PsAt B b w W8 (.slice (some ⟨gg, 0, none⟩) (n + 1) cap) (.slice (some ⟨g2, 0, none⟩) (n + 1) cap2) (L ++ [⟨(headP σ).1, (headP σ).2, .slice aw nw cw⟩]) (headS σ)) := Lib.hid (by
              have k1 : KT 58 W6 W8 := (KT.of HA.out).trans (KT.grown (HOS.out.alloc _) hgrow8 (by decide))
              have k2 : KT 81 W6 W8 := (KT.of HA.out).trans (KT.grown (HOS.out.alloc _) hgrow8 (by decide))
              obtain ⟨q1, q2, q3⟩ := HHP.out
              refine ⟨?_, ?_, (HST6.out.below HA.out hB).grown hgrow8 (fun k hk => (own_block HOS.out k hk).1) (by omega) hbw, ?_, HP2.out.2.2.2.2.snoc (by rw [q1])⟩
              · have := own_kt H7.out k1
                rw [List.length_append, ← HN.out, cellsL_snoc]
                simp only [rawC, q1]
                exact this
              · rw [List.length_append, ← HN.out, cellsL_snoc]
                simp only [rawS, q2]
                exact hown8
              · refine RawOk.kt (RawOk.snoc HP2.out.2.2.2.1 ⟨?_, ?_, ?_, q3⟩) (HK7.out.trans k2)
                · rw [q1]; exact HSL.out
                · rw [q1]; exact Int.natCast_nonneg _
                · rw [q1]; have := c0v.toNat_lt; show ((c0v.toNat : Nat) : Int) ≤ 255; omega)
            have HRM : Hid ((L ++ [(⟨(headP σ).1, (headP σ).2, .slice aw nw cw⟩ : RawP)]).map RawP.pr ++ (psGo f (headS σ)).1 = L.map RawP.pr ++ [headP σ] ++ (psGo f (headS σ)).1) := Lib.hid (by rw [List.map_append]; rfl)
            clear hown8 hgrow8 hat8 hlt8
            go_wp2_with fail
            go_roundw
            case rel => exact ⟨L ++ [⟨(headP σ).1, (headP σ).2, .slice aw nw cw⟩], headS σ, f, by rw [List.length_append, ← HN.out]; simp; omega, ⟨_, _, by rw [List.length_append, ← HN.out]; rfl⟩, ⟨_, _, by rw [List.length_append, ← HN.out]; rfl⟩, HPS, HLN, by rw [HRM.out]; exact HRL⟩
            case measure => simp [lenOf]; omega
        · obtain ⟨X0, hX0⟩ : ∃ X, X = str (wd (headW σ) 0) := ⟨_, rfl⟩
          have hxs : ((X0.size : Int) != 1) = true := by
            rw [hX0, str_size]; simpa using (by omega : ¬ ((wd (headW σ) 0).length : Int) = 1)
          have HP : Hid ((L.map RawP.pr, failS (lineM kPiece 3 σ).2) = psM s) := Lib.hid (by
            have h1 := hrel.out
            rw [psGo, if_pos HBE.out, if_neg hl1, List.append_nil] at h1; exact h1)
          rw [← hX0] at x0
          have hn9 : L.length ≤ 9000 := by have := HN.out; omega
          have HPS : Hid (PsAt B b w (W.setCell ⟨b, 1, none⟩ (.bool true)) (.slice va L.length vc) (.slice sa L.length sc) L (failS (lineM kPiece 3 σ).2)) := Lib.hid (by
            rw [← HN.out]; exact HPW.out.step ((StAt.refl hpW).fail hB) hbw)
          clear hl1 hX0 hps hlen hrel HST hws hpW hfW hsm hcw hwl HBG HL htb x1 x2
          go_wp2_with fail
          go_meet
          case rel => exact ⟨L, failS (lineM kPiece 3 σ).2, hn9, ⟨_, _, by rw [← HN.out]⟩, ⟨_, _, by rw [← HN.out]⟩, by first | exact HPS | (rw [HN.out]; exact HPS), HP⟩
  case rest =>
    obtain ⟨L, σ, hl9, ⟨va, vc, rfl⟩, ⟨sa, sc, rfl⟩, hps, hrel⟩ := hcut
    obtain ⟨n, hn⟩ : ∃ n, n = L.length := ⟨_, rfl⟩
    have HN := Lib.hid hn
    rw [← hn] at hl9 hps ⊢
    have HQ0 : Hid (QsAt B b w wc (.slice va n vc) (.slice sa n sc) L L σ) := Lib.hid ⟨hps.out.1, hps.out.2.1, hps.out.2.2.1, hps.out.2.2.2.1⟩
    have HZ : Hid (Raw0 L) := Lib.hid hps.out.2.2.2.2
    have HO0 : Hid (QsOk s L L 0 σ) := Lib.hid (qsOk_zero hrel.out)
    clear hps hrel hn HP0 HL0 HR0
    go_wp2_with fail
    go_loopw [6, 7, 43] (fun _ _ i wr => ∃ (k : Nat) (P : List RawP) (τ : PS), k ≤ n ∧ i = .int .i64 (k : Int) ∧ Hid (QsAt B b w wr (.slice va n vc) (.slice sa n sc) L P τ) ∧ Hid (QsOk s L P k τ)) (fun _ _ i _ => n - (intOf i).toNat)
    case atStart => exact ⟨0, L, σ, by omega, rfl, HQ0, HO0⟩
    case round =>
      clear HQ0 HO0
      obtain ⟨k, P, τ, hk, rfl, hqa, hqo⟩ := hrel
      by_cases hlt : k < n
      · obtain ⟨y, hy⟩ : ∃ y, L[k]? = some y := ⟨_, List.getElem?_eq_getElem (by have := HN.out; omega)⟩
        have HY := Lib.hid hy
        have hP : P[k]? = some y := (hqo.out.2.1 k (Nat.le_refl _)).trans hy
        have HPY := Lib.hid hP
        have hPl : P.length = n := hqo.out.1.trans HN.out.symm
        have HPL := Lib.hid hPl
        have HO1 : Hid (wr.ownsRow w.heap.size 58 4 (.slice va n vc) n (cellsL rawC P)) := Lib.hid (by have := hqa.out.1; rw [hPl] at this; exact this)
        have HO2 : Hid (wr.ownsRow w.heap.size 9 1 (.slice sa n sc) n (cellsL rawS L)) := Lib.hid (by have := hqa.out.2.1; rw [← HN.out] at this; exact this)
        obtain ⟨gp, rfl, hvc⟩ := own_at HO1.out (by omega)
        obtain ⟨gs, rfl, hsc⟩ := own_at HO2.out (by omega)
        obtain ⟨X, hX⟩ : ∃ X, X = str y.wo := ⟨_, rfl⟩
        have cw : wr.cell? ⟨gs, k, none⟩ = some (.string X) := by
          have h1 := HO2.out.cellAt k (by omega)
          have h2 := cellsL_at (f := rawS) (k := 1) (fun _ => rfl) L k y hy 0 (by decide)
          rw [Nat.mul_one, Nat.add_zero] at h2
          rw [h1, h2, hX]; rfl
        have HX := Lib.hid hX
        have hyw := (hqa.out.2.2.2 y (List.mem_of_getElem? hP)).2.2.2
        have HKP : Hid (∀ V, StAt B b wr V τ → Calls Tryz.prog 70 #[.pointer (some ⟨b, 0, none⟩), .string X, .slice (some ⟨gp, 0, none⟩) n vc] V (StP B b wr (.int .i64 (pieceM y.wo (L.map pP) τ).1) (pieceM y.wo (L.map pP) τ).2)) := Lib.hid (fun V hV => by
          have h1 : IsSl PieceT 4 V (.slice (some ⟨gp, 0, none⟩) n vc) (P.map pP) := by
            have h2 := raw_pieces hqa.out.1 hqa.out.2.2.2
            exact isSl_map h2 fun _ _ _ hx => hx.kt (hqa.out.2.2.1.1.kt hV.2 (by decide)) (hqa.out.2.2.1.1.kt hV.2 (by decide))
          have h3 := par_st hV (piece_par B b y.wo (P.map pP) _ τ V hV.1 (isSl_map h1 fun _ _ _ hx => hx.plain) (by rw [List.length_map]; omega) (raw_fit hqa.out.2.2.2) hB)
          rw [pieceM_same hqo.out.2.2.1, ← hX] at h3
          exact h3)
        obtain ⟨q0, q1⟩ := pieceM_le y.wo (L.map pP) τ
        rw [List.length_map, ← HN.out] at q1
        obtain ⟨q, hq⟩ : ∃ q, q = (pieceM y.wo (L.map pP) τ).1 := ⟨_, rfl⟩
        have HQ := Lib.hid hq
        rw [← hq] at q0 q1 HKP
        have hq9 : q ≤ 9000 := by omega
        have hst := hqa.out.2.2.1
        have HST := Lib.hid hst
        clear hy hP hPl hX hq q1 hst
        rcases Bool.eq_false_or_eq_true (X.toList == [45]) with hd | hd
        · have HO : Hid (QsOk s L P (k + 1) τ) := Lib.hid (qsOk_same hqo.out HY.out (HZ.out y (List.mem_of_getElem? HY.out)) (by
            have h1 := beq_iff_eq.1 hd
            rw [HX.out, Lib.toList_data, data_str] at h1; exact h1))
          go_wp2_with fail
          go_roundw
          case rel => exact ⟨k + 1, P, τ, by omega, by go_num, hqa, HO⟩
          case measure => simp [intOf]; omega
        · have HO : Hid (QsOk s L (P.set k (setP y (q + 1))) (k + 1) (pieceM y.wo (L.map pP) τ).2) := Lib.hid (qsOk_step hqo.out HY.out (by
            rw [promI_no (fun h1 => beq_eq_false_iff_ne.1 hd (by rw [HX.out, Lib.toList_data, data_str, h1])), ← HQ.out]))
          go_wp2_with fail
          go_at_call 70; refine (HKP.out _ (StAt.refl HST.out.1)).mono ?_; rintro e W ⟨rfl, hW⟩
          have HOW : Hid (W.ownsRow w.heap.size 58 4 (.slice (some ⟨gp, 0, none⟩) n vc) n (cellsL rawC P)) := Lib.hid (own_fr HO1.out hW.2 hbw)
          have HW := Lib.hid hW
          have cp : W.cell? ⟨gp, k * 4 + 2, none⟩ = some (.int .i64 y.p.promote) := by
            have h1 := HOW.out.cellAt (k * 4 + 2) (by omega)
            have h2 := cellsL_at (f := rawC) (k := 4) (fun _ => rfl) P k y HPY.out 2 (by decide)
            rw [h1, h2]; rfl
          have fp := HOW.out.frozenAt (k * 4 + 2)
          have HNX : Hid (QsAt B b w (W.setCell ⟨gp, k * 4 + 2, none⟩ (.int .i64 (q + 1))) (.slice (some ⟨gp, 0, none⟩) n vc) (.slice (some ⟨gs, 0, none⟩) n sc) L (P.set k (setP y (q + 1))) (pieceM y.wo (L.map pP) τ).2) := Lib.hid (by
            obtain ⟨t1, t2⟩ := HOW.out.stored (k * 4 + 2) (.int .i64 (q + 1))
            have kg : ∀ t, t ≠ 58 → KT t W (W.setCell ⟨gp, k * 4 + 2, none⟩ (.int .i64 (q + 1))) := fun t ht => KT.grown HOW.out t2 ht
            have hra : RawOk W P := hqa.out.2.2.2.kt (HST.out.1.kt HW.out.2 (by decide))
            refine ⟨?_, ?_, (HST.out.trans HW.out).grown t2 (fun j hj => (own_block HOW.out j hj).1) (by omega) hbw, ?_⟩
            · rw [List.length_set, HPL.out, ← rawC_set P k y (q + 1) HPY.out]; exact t1
            · rw [← HN.out]; exact own_kt (own_fr HO2.out HW.out.2 hbw) (kg _ (by decide))
            · refine RawOk.kt ?_ (kg _ (by decide))
              intro z hz
              rcases List.mem_or_eq_of_mem_set hz with hz | rfl
              · exact hra z hz
              · have := hra y (List.mem_of_getElem? HPY.out); exact this)
          clear hW
          go_wp2_with fail
          go_roundw
          case rel => exact ⟨k + 1, P.set k (setP y (q + 1)), _, by omega, by go_num, HNX, HO⟩
          case measure => simp [intOf]; omega
      · have hkn : k = n := by omega
        have HF : Hid (IsSl PieceT 4 wr (.slice va n vc) (piecesM s).1 ∧ PAt wr b (piecesM s).2 ∧ Fr B b w wr) := Lib.hid (by
          have h1 := qsOk_end hqo.out (by rw [hkn]; exact HN.out)
          obtain ⟨o1, o2, o3, o4⟩ := hqa.out
          rw [← h1]
          exact ⟨raw_pieces o1 o4, o3⟩)
        go_wp2_with fail
        go_ret
        exact ⟨_, rfl, HF.out⟩
end Go.Proofs.YtjfkecadfnepjaaGreatDoor
