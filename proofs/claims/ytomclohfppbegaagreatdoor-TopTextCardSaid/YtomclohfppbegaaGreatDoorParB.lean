/- Merged by merge.py of the texts ParP ParE ParF ParR ParG ParS ParT. -/
import Derived.Test.YtomclohfppbegaaGreatDoorParA
import Derived.Deep.CutBlock
import Derived.Test.YtomclohfppbegaaGreatDoorRulB
import Derived.Lib.ConvBytes
import Derived.Laws.MakeOwn
import Derived.Lib.SliceRun
import Derived.Test.YtomclohfppbegaaGreatDoorHeld
set_option maxRecDepth 100000
namespace Go.Proofs.YtomclohfppbegaaGreatDoor
open Go.ChangeShapes Go.WideShapes Go.ChangeAt Go.RowKit
attribute [local go_sem ↓] Go.wp_at_zero Go.wp_at_succ

theorem info_piece : (Tryz.prog.info? 68).map (fun i => (i.zero, i.size, i.bytes)) = some (some (.agg #[.int .u8 0, .int .i64 0, .int .i64 0, .slice none 0 0]), 4, 48) := by kernel_rfl
theorem info_str : (Tryz.prog.info? 9).map (fun i => (i.zero, i.size, i.bytes)) = some (some (.string ⟨#[]⟩), 1, 16) := by kernel_rfl
theorem waysGo_ls : ∀ (f : Nat) (s : PS), (waysGo f s).2.ls.length ≤ s.ls.length
  | 0, _ => Nat.le_refl _
  | f + 1, s => by
    unfold waysGo
    split
    · rename_i h
      have h1 := waysGo_ls f (wayM s).2
      rw [wayM_ls h, List.length_tail] at h1
      show (waysGo f (wayM s).2).2.ls.length ≤ _
      omega
    · exact Nat.le_refl _
theorem headS_ls {s : PS} (h : begM kPiece s = true) : (headS s).ls.length ≤ s.ls.length - 1 := by
  have h1 : (headS s).ls.length ≤ (headN s).2.ls.length := waysGo_ls _ _
  have h2 : (headN s).2.ls = s.ls.tail := by
    show (numM _ _).2.ls = _
    rw [numM, optM_ls, lineM_ls h]
  rw [h2, List.length_tail] at h1
  exact h1
theorem psGo_no {s : PS} (h : begM kPiece s = false) (f : Nat) : psGo f s = ([], s) := by
  cases f with
  | zero => rfl
  | succ f => rw [psGo, if_neg (by rw [h]; decide)]
/-- A type as it was read, with the word for what it changes into, and the value of its ways. -/
structure RawP where
  p : PieceD
  wo : List UInt8
  u : Value
def RawP.pr (y : RawP) : PieceD × List UInt8 := (y.p, y.wo)
def rawC (y : RawP) : List Value := [.int .u8 y.p.letter, .int .i64 y.p.hand, .int .i64 y.p.promote, y.u]
def rawS (y : RawP) : List Value := [.string (str y.wo)]
/-- What all types read so far keep. -/
def RawOk (W : World) (L : List RawP) : Prop := ∀ y ∈ L, IsSl WayT 4 W y.u y.p.ways ∧ 0 ≤ y.p.letter ∧ y.p.letter ≤ 255 ∧ y.wo.length ≤ 8192
theorem RawOk.kt {W W' : World} {L : List RawP} (h : RawOk W L) (k : KT 106 W W') : RawOk W' L := fun y hy => ⟨isSl_map (h y hy).1 fun _ _ _ hx => hx.kt k, (h y hy).2⟩
theorem isSl_one {α : Type} {q : World → Nat → Nat → α → Prop} {k : Nat} {W : World} {v : Value} {xs : List α} (h : IsSl q k W v xs) : v.oneCell' = true := by
  rcases h with ⟨_, a, cap, rfl⟩ | ⟨g, off, cap, rfl, _⟩ <;> rfl
def Raw0 (L : List RawP) : Prop := ∀ y ∈ L, y.p.promote = 0
/-- The first loop's state. -/
def PsAt (B b : Nat) (w wr : World) (v v2 : Value) (L : List RawP) (σ : PS) : Prop :=
  wr.ownsRow w.heap.size 68 4 v L.length (cellsL rawC L) ∧ wr.ownsRow w.heap.size 9 1 v2 L.length (cellsL rawS L) ∧ StAt B b w wr σ ∧ RawOk wr L ∧ Raw0 L
theorem number_k {B b : Nat} {w V : World} {σ : PS} {x : List UInt8} (hE : Env B w) (hB : B ≤ b) (hx : x.length ≤ 8192) (hV : StAt B b w V σ) : Calls Tryz.prog 64 #[.pointer (some ⟨b, 0, none⟩), .string (str x)] V (StP B b w (.int .i64 (numM x σ).1) (numM x σ).2) := par_st hV (number_par B b _ _ V hV.1 hx hB (hV.env hE))
def WaysK (B b : Nat) (s : PS) (w : World) (e : Ending) (w' : World) : Prop := ∃ v, e = .returned v ∧ IsSl WayT 4 w' v (waysM s).1 ∧ StAt B b w w' (waysM s).2
theorem ways_k {B b : Nat} {w V : World} {σ : PS} (hE : Env B w) (hB : B ≤ b) (hV : StAt B b w V σ) : Calls Tryz.prog 99 #[.pointer (some ⟨b, 0, none⟩)] V (WaysK B b σ w) :=
  (ways_par B b σ V hV.1 hB (hV.env hE)).mono fun _ _ ⟨v, h1, h2, h3, h4⟩ => ⟨v, h1, h2, h3, hV.2.trans h4⟩
theorem StAt.fail {B b : Nat} {w W : World} {s : PS} (h : StAt B b w W s) (hB : B ≤ b) : StAt B b w (W.setCell ⟨b, 1, none⟩ (.bool true)) (failS s) := ⟨h.1.fail, h.2.set hB 1 _⟩
theorem PsAt.step {B b : Nat} {w W W' : World} {v v2 : Value} {L : List RawP} {σ τ : PS} (h : PsAt B b w W v v2 L σ) (hf : StAt B b W W' τ) (hb : b < w.heap.size) : PsAt B b w W' v v2 L τ :=
  ⟨own_fr h.1 hf.2 hb, own_fr h.2.1 hf.2 hb, h.2.2.1.trans hf, h.2.2.2.1.kt (h.2.2.1.1.kt hf.2 (by decide)), h.2.2.2.2⟩
theorem RawOk.snoc {W : World} {L : List RawP} {y : RawP} (h : RawOk W L) (hy : IsSl WayT 4 W y.u y.p.ways ∧ 0 ≤ y.p.letter ∧ y.p.letter ≤ 255 ∧ y.wo.length ≤ 8192) : RawOk W (L ++ [y]) := by
  intro z hz
  rcases List.mem_append.1 hz with hz | hz
  · exact h z hz
  · rw [List.mem_singleton] at hz; subst hz; exact hy
theorem Raw0.snoc {L : List RawP} {y : RawP} (h : Raw0 L) (hy : y.p.promote = 0) : Raw0 (L ++ [y]) := by
  intro z hz
  rcases List.mem_append.1 hz with hz | hz
  · exact h z hz
  · rw [List.mem_singleton] at hz; subst hz; exact hy
theorem isSl_of_map {α β : Type} {q : World → Nat → Nat → β → Prop} (f : α → β) {k : Nat} {W : World} {v : Value} {l : List α} (h : IsSl (fun W g o y => q W g o (f y)) k W v l) : IsSl q k W v (l.map f) := by
  rcases h with ⟨rfl, a, cap, rfl⟩ | ⟨g, off, cap, e1, e2, e3, e4, hc⟩
  · exact .inl ⟨rfl, a, cap, rfl⟩
  · refine .inr ⟨g, off, cap, by rw [List.length_map]; exact e1, by simpa using e2, by rw [List.length_map]; exact e3, e4, fun i x hx => ?_⟩
    rw [List.getElem?_map, Option.map_eq_some_iff] at hx
    obtain ⟨y, hy, rfl⟩ := hx
    exact hc i y hy
def pP (y : RawP) : PieceD := y.p
theorem raw_pieces {W : World} {base : Nat} {v : Value} {P : List RawP} (h : W.ownsRow base 68 4 v P.length (cellsL rawC P)) (hr : RawOk W P) : IsSl PieceT 4 W v (P.map pP) :=
  isSl_of_map pP (own_isSl (k := 4) (fun _ => rfl) h fun _ _ y hy ht hc => ⟨ht, y.u, hc 0 _ rfl, hc 1 _ rfl, hc 2 _ rfl, hc 3 _ rfl, (hr y hy).1⟩)
theorem raw_fit {W : World} {P : List RawP} (hr : RawOk W P) : LettersFit (P.map pP) := by
  intro x hx
  rw [List.mem_map] at hx
  obtain ⟨y, hy, rfl⟩ := hx
  exact ⟨(hr y hy).2.1, (hr y hy).2.2.1⟩
/-- The second loop's state. -/
def QsAt (B b : Nat) (w wr : World) (v v2 : Value) (L P : List RawP) (τ : PS) : Prop :=
  wr.ownsRow w.heap.size 68 4 v P.length (cellsL rawC P) ∧ wr.ownsRow w.heap.size 9 1 v2 L.length (cellsL rawS L) ∧ StAt B b w wr τ ∧ RawOk wr P
def QsOk (s : PS) (L P : List RawP) (k : Nat) (τ : PS) : Prop :=
  P.length = L.length ∧ (∀ j, k ≤ j → P[j]? = L[j]?) ∧ SameL (P.map pP) (L.map pP) ∧ ((P.take k).map pP ++ (promGo (L.map pP) ((L.drop k).map RawP.pr) τ).1, (promGo (L.map pP) ((L.drop k).map RawP.pr) τ).2) = piecesM s
theorem qsOk_zero {s σ : PS} {L : List RawP} (h : (L.map RawP.pr, σ) = psM s) : QsOk s L L 0 σ := by
  refine ⟨rfl, fun _ _ => rfl, rfl, ?_⟩
  rw [piecesM, ← h]
  have e : (L.map RawP.pr).map (fun y => y.1) = L.map pP := by rw [List.map_map]; rfl
  simp only [e, List.take_zero, List.map_nil, List.nil_append, List.drop_zero]
theorem qsOk_end {s τ : PS} {L P : List RawP} {k : Nat} (h : QsOk s L P k τ) (hk : k = L.length) : (P.map pP, τ) = piecesM s := by
  obtain ⟨h1, h2, h3, h4⟩ := h
  rw [← h4, hk, List.drop_length, ← h1, List.take_length]
  simp [promGo]
theorem pieceM_same {w : List UInt8} {ps qs : List PieceD} (h : SameL ps qs) (s : PS) : pieceM w ps s = pieceM w qs s := by
  have e : ∀ l : List PieceD, idxV (fun q => lettB q == w) l = idxV (fun c : Int => [UInt8.ofNat c.toNat] == w) (l.map (·.letter)) := by
    intro l
    rw [idxV, idxV, List.findIdx?_map]; rfl
  rw [pieceM, pieceM, e ps, e qs, h]
def setP (y : RawP) (q : Int) : RawP := ⟨⟨y.p.letter, y.p.hand, q, y.p.ways⟩, y.wo, y.u⟩
theorem qsOk_step {s τ τ2 : PS} {L P : List RawP} {k : Nat} {y : RawP} {q : Int} (h : QsOk s L P k τ) (hy : L[k]? = some y) (hq : promI y.wo (L.map pP) τ = (q, τ2)) : QsOk s L (P.set k (setP y q)) (k + 1) τ2 := by
  obtain ⟨h1, h2, h3, h4⟩ := h
  have hkL := (List.getElem?_eq_some_iff.1 hy).1
  have hkP : k < P.length := by omega
  refine ⟨by simpa using h1, fun j hj => ?_, ?_, ?_⟩
  · rw [List.getElem?_set_ne (by omega)]; exact h2 j (by omega)
  · have hPk : P[k]? = some y := (h2 k (Nat.le_refl _)).trans hy
    unfold SameL at h3 ⊢
    rw [← h3]
    apply List.ext_getElem?
    intro j
    simp only [List.getElem?_map]
    by_cases hj : k = j
    · subst hj
      rw [List.getElem?_set_self hkP, hPk]; rfl
    · rw [List.getElem?_set_ne hj]
  · rw [← h4]
    have hd : L.drop k = y :: L.drop (k + 1) := by
      rw [List.drop_eq_getElem_cons hkL, (List.getElem?_eq_some_iff.1 hy).2]
    have ht : ((P.set k (setP y q)).take (k + 1)).map pP = (P.take k).map pP ++ [⟨y.p.letter, y.p.hand, q, y.p.ways⟩] := by
      rw [List.take_add_one, List.getElem?_set_self hkP, List.take_set_of_le (Nat.le_refl _)]
      simp [pP, setP]
    rw [hd, List.map_cons]
    show _ = ((P.take k).map pP ++ (⟨y.p.letter, y.p.hand, (promI y.wo (L.map pP) τ).1, y.p.ways⟩ :: (promGo (L.map pP) ((L.drop (k + 1)).map RawP.pr) (promI y.wo (L.map pP) τ).2).1), (promGo (L.map pP) ((L.drop (k + 1)).map RawP.pr) (promI y.wo (L.map pP) τ).2).2)
    rw [hq, ht]; simp
theorem qsOk_same {s τ : PS} {L P : List RawP} {k : Nat} {y : RawP} (h : QsOk s L P k τ) (hy : L[k]? = some y) (h0 : y.p.promote = 0) (hw : y.wo = [45]) : QsOk s L P (k + 1) τ := by
  have hPk : P[k]? = some y := (h.2.1 k (Nat.le_refl _)).trans hy
  have h2 := qsOk_step (q := 0) (τ2 := τ) h hy (by rw [promI, if_pos hw])
  have e : P.set k (setP y 0) = P := by
    have e1 : setP y 0 = y := by
      obtain ⟨⟨a, c, d, ws⟩, wo, u⟩ := y
      simp only at h0
      simp [setP, h0]
    rw [e1]
    apply List.ext_getElem?
    intro j
    by_cases hj : k = j
    · subst hj
      rw [List.getElem?_set_self (List.getElem?_eq_some_iff.1 hPk).1, hPk]
    · rw [List.getElem?_set_ne hj]
  rw [e] at h2; exact h2
theorem rawC_set (P : List RawP) (k : Nat) (y : RawP) (q : Int) (hP : P[k]? = some y) : (cellsL rawC P).set (k * 4 + 2) (.int .i64 q) = cellsL rawC (P.set k (setP y q)) := by
  apply List.ext_getElem?
  intro j
  have hk := (List.getElem?_eq_some_iff.1 hP).1
  have hlen : (cellsL rawC P).length = P.length * 4 := cellsL_len (k := 4) (fun _ => rfl) P
  have hlen2 : (cellsL rawC (P.set k (setP y q))).length = P.length * 4 := by rw [cellsL_len (k := 4) (fun _ => rfl)]; simp
  by_cases hj : j < P.length * 4
  · have hd : j / 4 < P.length := by omega
    have e : j = j / 4 * 4 + j % 4 := by omega
    have hm : j % 4 < 4 := by omega
    by_cases hjk : j / 4 = k
    · have hs : (P.set k (setP y q))[j / 4]? = some (setP y q) := by rw [hjk, List.getElem?_set_self hk]
      have h1 := cellsL_at (f := rawC) (k := 4) (fun _ => rfl) _ _ _ hs (j % 4) hm
      have h2 := cellsL_at (f := rawC) (k := 4) (fun _ => rfl) P (j / 4) y (by rw [hjk]; exact hP) (j % 4) hm
      rw [← e] at h1 h2
      rw [h1]
      by_cases h22 : k * 4 + 2 = j
      · rw [h22, List.getElem?_set_self (by omega)]
        have : j % 4 = 2 := by omega
        rw [this]; rfl
      · rw [List.getElem?_set_ne h22, h2]
        have : j % 4 = 0 ∨ j % 4 = 1 ∨ j % 4 = 3 := by omega
        rcases this with h | h | h <;> (rw [h]; rfl)
    · have hs : (P.set k (setP y q))[j / 4]? = some P[j / 4] := by rw [List.getElem?_set_ne (fun h => hjk h.symm)]; exact List.getElem?_eq_getElem hd
      have h1 := cellsL_at (f := rawC) (k := 4) (fun _ => rfl) _ _ _ hs (j % 4) hm
      have h2 := cellsL_at (f := rawC) (k := 4) (fun _ => rfl) P (j / 4) _ (List.getElem?_eq_getElem hd) (j % 4) hm
      rw [← e] at h1 h2
      rw [h1, List.getElem?_set_ne (by omega), h2]
  · rw [List.getElem?_eq_none (by rw [List.length_set]; omega), List.getElem?_eq_none (by omega)]
theorem promI_no {w : List UInt8} {ps : List PieceD} {s : PS} (h : w ≠ [45]) : promI w ps s = ((pieceM w ps s).1 + 1, (pieceM w ps s).2) := by rw [promI, if_neg h]
theorem pieceM_le (w : List UInt8) (ps : List PieceD) (s : PS) : 0 ≤ (pieceM w ps s).1 ∧ (pieceM w ps s).1 ≤ ps.length := by
  unfold pieceM
  cases h : idxV (fun q => lettB q == w) ps with
  | none => simp [optM]
  | some v =>
    obtain ⟨i, x, h1, h2, _⟩ := idxV_some h
    have := (List.getElem?_eq_some_iff.1 h2).1
    simp [optM]; omega
theorem own_atP {W : World} {base n cap : Nat} {e : TypeId} {size : Nat} {a : Option Addr} {xs : List Value} (h : W.ownsRow base e size (.slice a n cap) n xs) (hn : 0 < n) : ∃ g, a = some ⟨g, 0, none⟩ ∧ n ≤ cap := by
  rcases h.2 with ⟨_, h0⟩ | ⟨g, c, cur, hv, _, _, h1, _⟩
  · omega
  · simp only [Value.slice.injEq] at hv
    exact ⟨g, hv.1, by omega⟩
set_option maxHeartbeats 8000000 in
theorem pieces_par (B b : Nat) (s : PS) (w : World) (h : PAt w b s) (hB : B ≤ b) (hE : Env B w) :
    Calls Tryz.prog 59 #[.pointer (some ⟨b, 0, none⟩)] w (fun e w' => ∃ v, e = .returned v ∧ IsSl PieceT 4 w' v (piecesM s).1 ∧ PAt w' b (piecesM s).2 ∧ Fr B b w w') := by
  obtain ⟨i0, hi0, hz0, hz1, hz2⟩ := info_parts info_piece
  obtain ⟨i1, hi1, hy0, hy1, hy2⟩ := info_parts info_str
  have hbw := h.lt
  have hN9 : s.ls.length ≤ 9000 := by
    obtain ⟨a, c, _, h1, h2, _⟩ := h
    omega
  obtain ⟨N, hN⟩ : ∃ N, N = s.ls.length := ⟨_, rfl⟩
  have HE := Lib.hid hE
  have HR0 : Hid (((([] : List RawP).map RawP.pr) ++ (psGo N s).1, (psGo N s).2) = psM s) := Lib.hid (by rw [hN]; rfl)
  have HL0 : Hid (s.ls.length ≤ N) := Lib.hid (by omega)
  have HP0 : Hid (PsAt B b w w (.slice none 0 0) (.slice none 0 0) [] s) := Lib.hid ⟨World.ownsRow_nil _ _ _ _, World.ownsRow_nil _ _ _ _, StAt.refl h, (by intro y hy; cases hy), (by intro y hy; cases hy)⟩
  rw [← hN] at hN9
  clear h hE hN
  go_enter Tryz.func59, Tryz.ntmps59
  go_upto_block 0 with fail
  go_cut [3, 4] from 5 to 40 (fun v v2 wx => ∃ (L : List RawP) (σ : PS), L.length ≤ 9000 ∧ (∃ a cap, v = .slice a L.length cap) ∧ (∃ a cap, v2 = .slice a L.length cap) ∧ Hid (PsAt B b w wx v v2 L σ) ∧ Hid ((L.map RawP.pr, σ) = psM s))
  case first =>
    go_wp2_with fail
    go_loopw [3, 4, 5] (fun v v2 _ wr => ∃ (L : List RawP) (σ : PS) (f : Nat), L.length + f = N ∧ (∃ a cap, v = .slice a L.length cap) ∧ (∃ a cap, v2 = .slice a L.length cap) ∧ Hid (PsAt B b w wr v v2 L σ) ∧ Hid (σ.ls.length ≤ f) ∧ Hid (((L.map RawP.pr) ++ (psGo f σ).1, (psGo f σ).2) = psM s)) (fun v _ _ _ => N - lenOf v)
    case atStart => exact ⟨[], s, N, by simp, ⟨_, _, rfl⟩, ⟨_, _, rfl⟩, HP0, HL0, HR0⟩
    case round =>
      clear HP0 HL0 HR0
      obtain ⟨L, σ, f, hf, ⟨va, vc, rfl⟩, ⟨sa, sc, rfl⟩, hps, hlen, hrel⟩ := hrel
      obtain ⟨n, hn⟩ : ∃ n, n = L.length := ⟨_, rfl⟩
      have HN := Lib.hid hn
      rw [← hn] at hf hps ⊢
      clear hn
      have HST := Lib.hid hps.out.2.2.1
      have HBG : Hid (Calls Tryz.prog 98 #[.pointer (some ⟨b, 0, none⟩), .string ⟨#[112, 105, 101, 99, 101]⟩] wr fun e w' => e = .returned (.bool (begM kPiece σ)) ∧ wr = w') := Lib.hid (turned (begins_any b kPiece σ wr HST.out.1 (by decide)))
      cases hb : begM kPiece σ with
      | false =>
        rw [hb] at HBG
        have HP : Hid ((L.map RawP.pr, σ) = psM s) := Lib.hid (by
          have h1 := hrel.out
          rw [psGo_no hb f, List.append_nil] at h1; exact h1)
        have hn9 : L.length ≤ 9000 := by have := HN.out; omega
        have HPS : Hid (PsAt B b w wr (.slice va L.length vc) (.slice sa L.length sc) L σ) := Lib.hid (by rw [← HN.out]; exact hps.out)
        clear hb hps hlen hrel
        go_wp2_with fail
        go_at_call 98; refine HBG.out.mono ?_; rintro e w' ⟨rfl, rfl⟩
        go_wp2_with fail
        go_meet
        case rel => exact ⟨L, σ, hn9, ⟨_, _, by rw [← HN.out]⟩, ⟨_, _, by rw [← HN.out]⟩, by first | exact HPS | (rw [HN.out]; exact HPS), HP⟩
      | true =>
        rw [hb] at HBG
        obtain ⟨f, rfl⟩ : ∃ f', f = f' + 1 := by
          obtain ⟨l, r, hl, _, _⟩ := beg_cases hb
          have := hlen.out
          rw [hl, List.length_cons] at this
          exact ⟨f - 1, by omega⟩
        have HBE := Lib.hid hb
        have HL : Hid (Calls Tryz.prog 57 #[.pointer (some ⟨b, 0, none⟩), .string ⟨#[112, 105, 101, 99, 101]⟩, .int .i64 (3 : Nat)] wr (WordsP B b (headW σ) (lineM kPiece 3 σ).2 wr)) := Lib.hid (line_par B b kPiece 3 σ wr HST.out.1 (by decide) (by decide) hB (HST.out.env HE.out))
        clear hb
        go_wp2_with fail
        go_at_call 98; refine HBG.out.mono ?_; rintro e w' ⟨rfl, rfl⟩
        go_wp2_with fail
        go_at_call 57; refine HL.out.mono ?_; rintro e W ⟨wa, wc, rfl, hws, hpW, hfW⟩
        have hwl : (headW σ).length = 3 := (lineM_rd kPiece 3 σ).2
        obtain ⟨c4, c9, g, o, rfl, hgb, htb, hcw, hsm⟩ := words_at hws hwl (by decide)
        rw [hwl]
        have HPW : Hid (PsAt B b w W (.slice va n vc) (.slice sa n sc) L (lineM kPiece 3 σ).2) := Lib.hid (hps.out.step ⟨hpW, hfW⟩ hbw)
        have x0 := hcw 0 (by decide)
        have x1 := hcw 1 (by decide)
        have x2 := hcw 2 (by decide)
        rw [Nat.add_zero] at x0
        have HTB : Hid (TyBlk W g 9) := Lib.hid htb
        have HSM := Lib.hid hsm
        have hnn : n ≤ 9000 := by omega
        have hWs : Hid (w.heap.size ≤ W.heap.size) := Lib.hid HPW.out.2.2.1.2.1.size
        obtain ⟨u, bad, c0, c1, f1⟩ := bad_at hpW
        by_cases hl1 : (wd (headW σ) 0).length = 1
        · obtain ⟨c0v, hc0⟩ : ∃ c : UInt8, wd (headW σ) 0 = [c] := by
            match hq : wd (headW σ) 0, hl1 with
            | [c], _ => exact ⟨c, rfl⟩
          have e0 : str (wd (headW σ) 0) = ⟨#[c0v]⟩ := by rw [hc0]; rfl
          rw [e0] at x0
          obtain ⟨X1, hX1⟩ : ∃ X, X = str (wd (headW σ) 1) := ⟨_, rfl⟩
          obtain ⟨X2, hX2⟩ : ∃ X, X = str (wd (headW σ) 2) := ⟨_, rfl⟩
          have HST0 : Hid (StAt B b W W.drew (lineM kPiece 3 σ).2) := Lib.hid ((StAt.refl hpW).drew hB)
          have HEW : Hid (Env B W) := Lib.hid (HPW.out.2.2.1.env HE.out)
          have KN : Hid (∀ V, StAt B b W V (lineM kPiece 3 σ).2 → Calls Tryz.prog 64 #[.pointer (some ⟨b, 0, none⟩), .string X1] V (StP B b W (.int .i64 (headN σ).1) (headN σ).2)) := Lib.hid (fun V hV => by
            rw [hX1]; exact number_k HEW.out hB (hsm 1) hV)
          have KW : Hid (∀ V, StAt B b W V (headN σ).2 → Calls Tryz.prog 99 #[.pointer (some ⟨b, 0, none⟩)] V (WaysK B b (headN σ).2 W)) := Lib.hid (fun V hV => ways_k HEW.out hB hV)
          have HRL : Hid ((L.map RawP.pr ++ [headP σ] ++ (psGo f (headS σ)).1, (psGo f (headS σ)).2) = psM s) := Lib.hid (by
            rw [← hrel.out, psGo, if_pos HBE.out, if_pos hl1]; simp)
          have HLN : Hid ((headS σ).ls.length ≤ f) := Lib.hid (by have := headS_ls HBE.out; have := hlen.out; omega)
          have HHP : Hid ((headP σ).1 = ⟨(c0v.toNat : Int), (headN σ).1, 0, (waysM (headN σ).2).1⟩ ∧ str (headP σ).2 = X2 ∧ (headP σ).2.length ≤ 8192) := Lib.hid ⟨by rw [headP, hc0]; rfl, hX2.symm, hsm 2⟩
          obtain ⟨n1, hn1⟩ : ∃ n, n = (headN σ).1 := ⟨_, rfl⟩
          obtain ⟨s0, hs0⟩ : ∃ n, n = (lineM kPiece 3 σ).2 := ⟨_, rfl⟩
          obtain ⟨s1, hs1⟩ : ∃ n, n = (headN σ).2 := ⟨_, rfl⟩
          rw [← hX1] at x1
          rw [← hX2] at x2
          rw [← hn1, ← hs0, ← hs1] at KN
          rw [← hs1] at KW
          rw [← hs0] at HST0 HPW
          rw [← hn1, ← hs1] at HHP
          have HS1 : Hid (headS σ = (waysM s1).2) := Lib.hid (by rw [hs1]; rfl)
          obtain ⟨C0, hC0⟩ : ∃ C : Int, C = (c0v.toNat : Int) := ⟨_, rfl⟩
          clear hc0 hX1 hX2 hl1 hps hlen hrel HST hws hpW hfW hsm hcw hwl HBG HL htb hn1 hs0 hs1 e0
          go_wp2_with fail
          go_region_held3 (fun w' => w'.cell? ⟨g, o, none⟩ = some (.string ⟨#[c0v]⟩) ∧ w'.cell? ⟨g, o + 1, none⟩ = some (.string X1)) (go_keep) (first
            | (go_at_call 64; refine (KN.out _ HST0.out).mono ?_; rintro e V1 ⟨rfl, h1⟩; have H1 := Lib.hid h1; have y0 := h1.2.cell hgb x0; have y1 := h1.2.cell hgb x1; clear h1)
            | (go_at_call 99; refine (KW.out _ H1.out).mono ?_; rintro e V2 ⟨vw, rfl, hsl, h2⟩; obtain ⟨nw, hnw⟩ : ∃ nw, nw = (waysM s1).1.length := ⟨_, rfl⟩; obtain ⟨aw, cw, rfl, -, -⟩ := hsl.shape hnw; have H2 := Lib.hid h2; have HSL := Lib.hid hsl; have HP2 := Lib.hid (HPW.out.step h2 hbw); have ho2 := HP2.out.1; rw [← HN.out] at ho2; have HO2 := Lib.hid ho2; clear ho2; have HT2 := Lib.hid (show TyBlk V2 g 9 from let ⟨cs, fr, hh⟩ := HTB.out; ⟨cs, fr, h2.2.heap hgb hh⟩); have y0 := h2.2.cell hgb x0; have y1 := h2.2.cell hgb x1; have y2 := h2.2.cell hgb x2; have hV2 := h2.2.1.size; clear h2 hsl hnw)
            | (refine step_append_lies _ (by rfl) _ _ _ (by rfl) w.heap.size 68 i0 _ 4 48 Tryz.underlying22 hi0 hz0 hz1 hz2 rfl (by omega) (.slice va n vc) n (cellsL rawC L) (by rfl) (HO2.out.alloc _) ⟨V2.heap.size, 0, none⟩ 1 1 [.int .u8 (c0v.toNat : Int), .int .i64 n1, .int .i64 0, .slice aw nw cw] (by rfl) (by rfl) (World.news_of_block (cs := #[.int .u8 (c0v.toNat : Int), .int .i64 n1, .int .i64 0, .slice aw nw cw]) (t := 68) (fr := (0, 0)) (heap_alloc_new V2 _)) (by simp [Value.oneCell']) (by omega) (by unfold maxLen; omega) (by omega) (by have := hWs.out; simp; omega) (V2.heap.size + 1) (by simp) ?_; intro gg cap W6 hown6 hgrow hat hlt; have H6 := Lib.hid hgrow; have H7 := Lib.hid hown6; have hk6 : KT 9 V2 W6 := (KT.of ((Below.refl _ _).alloc (Nat.le_refl _) _)).trans (KT.grown (HO2.out.alloc _) hgrow (by decide)); have y0 := HT2.out.cell hk6 y0; have y1 := HT2.out.cell hk6 y1; have y2 := HT2.out.cell hk6 y2; have HK6 := Lib.hid hk6; have hk7 : KT 106 V2 W6 := (KT.of ((Below.refl _ _).alloc (Nat.le_refl _) _)).trans (KT.grown (HO2.out.alloc _) hgrow (by decide)); have HK7 := Lib.hid hk7; clear hown6 hgrow hat hlt hk6 hk7))
          all_goals
            have HST6 : Hid (StAt B b w W6 (headS σ)) := Lib.hid (by
              rw [HS1.out]
              exact ((HPW.out.2.2.1.trans H2.out).below ((Below.refl _ _).alloc (Nat.le_refl _) _) hB).grown H6.out (fun k hk => (own_block HO2.out k hk).1) (by omega) hbw)
            have HOS : Hid (W6.ownsRow w.heap.size 9 1 (.slice sa n sc) n (cellsL rawS L)) := Lib.hid (by
              have := own_kt HP2.out.2.1 HK6.out
              rw [← HN.out] at this; exact this)
            have hW6 : w.heap.size ≤ W6.heap.size := HST6.out.2.1.size
            go_wp2_with (at_builtin; refine wpList_append_lies _ rfl _ _ _ rfl w.heap.size 9 i1 _ 1 16 Tryz.underlying63 hi1 hy0 hy1 hy2 rfl (by omega) (.slice sa n sc) n (cellsL rawS L) rfl (HOS.out.alloc _) ⟨W6.heap.size, 0, none⟩ 1 1 [.string X2] rfl rfl (World.news_of_block (cs := #[.string X2]) (t := 9) (fr := (0, 0)) (heap_alloc_new W6 _)) (by simp [Value.oneCell']) (by omega) (by unfold maxLen; omega) (by omega) (by simp; omega) (W6.heap.size + 1) (by simp) ?_)
            intro g2 cap2 W8 hown8 hgrow8 hat8 hlt8
            have HA : Hid (Below W6.heap.size W6 (W6.alloc (.cells #[.string X2] 9))) := Lib.hid ((Below.refl _ _).alloc (Nat.le_refl _) _)
            have HPS : Hid (PsAt B b w W8 (.slice (some ⟨gg, 0, none⟩) (n + 1) cap) (.slice (some ⟨g2, 0, none⟩) (n + 1) cap2) (L ++ [⟨(headP σ).1, (headP σ).2, .slice aw nw cw⟩]) (headS σ)) := Lib.hid (by
              have k1 : KT 68 W6 W8 := (KT.of HA.out).trans (KT.grown (HOS.out.alloc _) hgrow8 (by decide))
              have k2 : KT 106 W6 W8 := (KT.of HA.out).trans (KT.grown (HOS.out.alloc _) hgrow8 (by decide))
              obtain ⟨q1, q2, q3⟩ := HHP.out
              refine ⟨?_, ?_, (HST6.out.below HA.out hB).grown hgrow8 (fun k hk => (own_block HOS.out k hk).1) (by omega) hbw, ?_, HP2.out.2.2.2.2.snoc (by rw [q1])⟩
              · have := own_kt H7.out k1
                rw [List.length_append, ← HN.out, cellsL_snoc]
                simp only [rawC, q1]
                exact this
              · rw [List.length_append, ← HN.out, cellsL_snoc]
                simp only [rawS, q2]
                exact hown8
              · refine RawOk.kt (RawOk.snoc HP2.out.2.2.2.1 ⟨?_, ?_, ?_, q3⟩) (HK7.out.trans k2)
                · rw [q1]; exact HSL.out
                · rw [q1]; exact Int.natCast_nonneg _
                · rw [q1]; have := c0v.toNat_lt; show ((c0v.toNat : Nat) : Int) ≤ 255; omega)
            have HRM : Hid ((L ++ [(⟨(headP σ).1, (headP σ).2, .slice aw nw cw⟩ : RawP)]).map RawP.pr ++ (psGo f (headS σ)).1 = L.map RawP.pr ++ [headP σ] ++ (psGo f (headS σ)).1) := Lib.hid (by rw [List.map_append]; rfl)
            clear hown8 hgrow8 hat8 hlt8
            go_wp2_with fail
            go_roundw
            case rel => exact ⟨L ++ [⟨(headP σ).1, (headP σ).2, .slice aw nw cw⟩], headS σ, f, by rw [List.length_append, ← HN.out]; simp; omega, ⟨_, _, by rw [List.length_append, ← HN.out]; rfl⟩, ⟨_, _, by rw [List.length_append, ← HN.out]; rfl⟩, HPS, HLN, by rw [HRM.out]; exact HRL⟩
            case measure => simp [lenOf]; omega
        · obtain ⟨X0, hX0⟩ : ∃ X, X = str (wd (headW σ) 0) := ⟨_, rfl⟩
          have hxs : ((X0.size : Int) != 1) = true := by
            rw [hX0, str_size]; simpa using (by omega : ¬ ((wd (headW σ) 0).length : Int) = 1)
          have HP : Hid ((L.map RawP.pr, failS (lineM kPiece 3 σ).2) = psM s) := Lib.hid (by
            have h1 := hrel.out
            rw [psGo, if_pos HBE.out, if_neg hl1, List.append_nil] at h1; exact h1)
          rw [← hX0] at x0
          have hn9 : L.length ≤ 9000 := by have := HN.out; omega
          have HPS : Hid (PsAt B b w (W.setCell ⟨b, 1, none⟩ (.bool true)) (.slice va L.length vc) (.slice sa L.length sc) L (failS (lineM kPiece 3 σ).2)) := Lib.hid (by
            rw [← HN.out]; exact HPW.out.step ((StAt.refl hpW).fail hB) hbw)
          clear hl1 hX0 hps hlen hrel HST hws hpW hfW hsm hcw hwl HBG HL htb x1 x2
          go_wp2_with fail
          go_meet
          case rel => exact ⟨L, failS (lineM kPiece 3 σ).2, hn9, ⟨_, _, by rw [← HN.out]⟩, ⟨_, _, by rw [← HN.out]⟩, by first | exact HPS | (rw [HN.out]; exact HPS), HP⟩
  case rest =>
    obtain ⟨L, σ, hl9, ⟨va, vc, rfl⟩, ⟨sa, sc, rfl⟩, hps, hrel⟩ := hcut
    obtain ⟨n, hn⟩ : ∃ n, n = L.length := ⟨_, rfl⟩
    have HN := Lib.hid hn
    rw [← hn] at hl9 hps ⊢
    have HQ0 : Hid (QsAt B b w wc (.slice va n vc) (.slice sa n sc) L L σ) := Lib.hid ⟨hps.out.1, hps.out.2.1, hps.out.2.2.1, hps.out.2.2.2.1⟩
    have HZ : Hid (Raw0 L) := Lib.hid hps.out.2.2.2.2
    have HO0 : Hid (QsOk s L L 0 σ) := Lib.hid (qsOk_zero hrel.out)
    clear hps hrel hn HP0 HL0 HR0
    go_wp2_with fail
    go_loopw [6, 7, 43] (fun _ _ i wr => ∃ (k : Nat) (P : List RawP) (τ : PS), k ≤ n ∧ i = .int .i64 (k : Int) ∧ Hid (QsAt B b w wr (.slice va n vc) (.slice sa n sc) L P τ) ∧ Hid (QsOk s L P k τ)) (fun _ _ i _ => n - (intOf i).toNat)
    case atStart => exact ⟨0, L, σ, by omega, rfl, HQ0, HO0⟩
    case round =>
      clear HQ0 HO0
      obtain ⟨k, P, τ, hk, rfl, hqa, hqo⟩ := hrel
      by_cases hlt : k < n
      · obtain ⟨y, hy⟩ : ∃ y, L[k]? = some y := ⟨_, List.getElem?_eq_getElem (by have := HN.out; omega)⟩
        have HY := Lib.hid hy
        have hP : P[k]? = some y := (hqo.out.2.1 k (Nat.le_refl _)).trans hy
        have HPY := Lib.hid hP
        have hPl : P.length = n := hqo.out.1.trans HN.out.symm
        have HPL := Lib.hid hPl
        have HO1 : Hid (wr.ownsRow w.heap.size 68 4 (.slice va n vc) n (cellsL rawC P)) := Lib.hid (by have := hqa.out.1; rw [hPl] at this; exact this)
        have HO2 : Hid (wr.ownsRow w.heap.size 9 1 (.slice sa n sc) n (cellsL rawS L)) := Lib.hid (by have := hqa.out.2.1; rw [← HN.out] at this; exact this)
        obtain ⟨gp, rfl, hvc⟩ := own_atP HO1.out (by omega)
        obtain ⟨gs, rfl, hsc⟩ := own_atP HO2.out (by omega)
        obtain ⟨X, hX⟩ : ∃ X, X = str y.wo := ⟨_, rfl⟩
        have cw : wr.cell? ⟨gs, k, none⟩ = some (.string X) := by
          have h1 := HO2.out.cellAt k (by omega)
          have h2 := cellsL_at (f := rawS) (k := 1) (fun _ => rfl) L k y hy 0 (by decide)
          rw [Nat.mul_one, Nat.add_zero] at h2
          rw [h1, h2, hX]; rfl
        have HX := Lib.hid hX
        have hyw := (hqa.out.2.2.2 y (List.mem_of_getElem? hP)).2.2.2
        have HKP : Hid (∀ V, StAt B b wr V τ → Calls Tryz.prog 100 #[.pointer (some ⟨b, 0, none⟩), .string X, .slice (some ⟨gp, 0, none⟩) n vc] V (StP B b wr (.int .i64 (pieceM y.wo (L.map pP) τ).1) (pieceM y.wo (L.map pP) τ).2)) := Lib.hid (fun V hV => by
          have h1 : IsSl PieceT 4 V (.slice (some ⟨gp, 0, none⟩) n vc) (P.map pP) := by
            have h2 := raw_pieces hqa.out.1 hqa.out.2.2.2
            exact isSl_map h2 fun _ _ _ hx => hx.kt (hqa.out.2.2.1.1.kt hV.2 (by decide)) (hqa.out.2.2.1.1.kt hV.2 (by decide))
          have h3 := par_st hV (piece_par B b y.wo (P.map pP) _ τ V hV.1 (isSl_map h1 fun _ _ _ hx => hx.plain) (by rw [List.length_map]; omega) (raw_fit hqa.out.2.2.2) hB)
          rw [pieceM_same hqo.out.2.2.1, ← hX] at h3
          exact h3)
        obtain ⟨q0, q1⟩ := pieceM_le y.wo (L.map pP) τ
        rw [List.length_map, ← HN.out] at q1
        obtain ⟨q, hq⟩ : ∃ q, q = (pieceM y.wo (L.map pP) τ).1 := ⟨_, rfl⟩
        have HQ := Lib.hid hq
        rw [← hq] at q0 q1 HKP
        have hq9 : q ≤ 9000 := by omega
        have hst := hqa.out.2.2.1
        have HST := Lib.hid hst
        clear hy hP hPl hX hq q1 hst
        rcases Bool.eq_false_or_eq_true (X.toList == [45]) with hd | hd
        · have HO : Hid (QsOk s L P (k + 1) τ) := Lib.hid (qsOk_same hqo.out HY.out (HZ.out y (List.mem_of_getElem? HY.out)) (by
            have h1 := beq_iff_eq.1 hd
            rw [HX.out, Lib.toList_data, data_str] at h1; exact h1))
          go_wp2_with fail
          go_roundw
          case rel => exact ⟨k + 1, P, τ, by omega, by go_num, hqa, HO⟩
          case measure => simp [intOf]; omega
        · have HO : Hid (QsOk s L (P.set k (setP y (q + 1))) (k + 1) (pieceM y.wo (L.map pP) τ).2) := Lib.hid (qsOk_step hqo.out HY.out (by
            rw [promI_no (fun h1 => beq_eq_false_iff_ne.1 hd (by rw [HX.out, Lib.toList_data, data_str, h1])), ← HQ.out]))
          go_wp2_with fail
          go_at_call 100; refine (HKP.out _ (StAt.refl HST.out.1)).mono ?_; rintro e W ⟨rfl, hW⟩
          have HOW : Hid (W.ownsRow w.heap.size 68 4 (.slice (some ⟨gp, 0, none⟩) n vc) n (cellsL rawC P)) := Lib.hid (own_fr HO1.out hW.2 hbw)
          have HW := Lib.hid hW
          have cp : W.cell? ⟨gp, k * 4 + 2, none⟩ = some (.int .i64 y.p.promote) := by
            have h1 := HOW.out.cellAt (k * 4 + 2) (by omega)
            have h2 := cellsL_at (f := rawC) (k := 4) (fun _ => rfl) P k y HPY.out 2 (by decide)
            rw [h1, h2]; rfl
          have fp := HOW.out.frozenAt (k * 4 + 2)
          have HNX : Hid (QsAt B b w (W.setCell ⟨gp, k * 4 + 2, none⟩ (.int .i64 (q + 1))) (.slice (some ⟨gp, 0, none⟩) n vc) (.slice (some ⟨gs, 0, none⟩) n sc) L (P.set k (setP y (q + 1))) (pieceM y.wo (L.map pP) τ).2) := Lib.hid (by
            obtain ⟨t1, t2⟩ := HOW.out.stored (k * 4 + 2) (.int .i64 (q + 1))
            have kg : ∀ t, t ≠ 68 → KT t W (W.setCell ⟨gp, k * 4 + 2, none⟩ (.int .i64 (q + 1))) := fun t ht => KT.grown HOW.out t2 ht
            have hra : RawOk W P := hqa.out.2.2.2.kt (HST.out.1.kt HW.out.2 (by decide))
            refine ⟨?_, ?_, (HST.out.trans HW.out).grown t2 (fun j hj => (own_block HOW.out j hj).1) (by omega) hbw, ?_⟩
            · rw [List.length_set, HPL.out, ← rawC_set P k y (q + 1) HPY.out]; exact t1
            · rw [← HN.out]; exact own_kt (own_fr HO2.out HW.out.2 hbw) (kg _ (by decide))
            · refine RawOk.kt ?_ (kg _ (by decide))
              intro z hz
              rcases List.mem_or_eq_of_mem_set hz with hz | rfl
              · exact hra z hz
              · have := hra y (List.mem_of_getElem? HPY.out); exact this)
          clear hW
          go_wp2_with fail
          go_roundw
          case rel => exact ⟨k + 1, P.set k (setP y (q + 1)), _, by omega, by go_num, HNX, HO⟩
          case measure => simp [intOf]; omega
      · have hkn : k = n := by omega
        have HF : Hid (IsSl PieceT 4 wr (.slice va n vc) (piecesM s).1 ∧ PAt wr b (piecesM s).2 ∧ Fr B b w wr) := Lib.hid (by
          have h1 := qsOk_end hqo.out (by rw [hkn]; exact HN.out)
          obtain ⟨o1, o2, o3, o4⟩ := hqa.out
          rw [← h1]
          exact ⟨raw_pieces o1 o4, o3⟩)
        go_wp2_with fail
        go_ret
        exact ⟨_, rfl, HF.out⟩
end Go.Proofs.YtomclohfppbegaaGreatDoor

set_option maxRecDepth 100000
namespace Go.Proofs.YtomclohfppbegaaGreatDoor
open Go.ChangeShapes Go.WideShapes Go.ChangeAt Go.RowKit
attribute [local go_sem ↓] Go.wp_at_zero Go.wp_at_succ

/-- A condition's variable: a block of its own. -/
def EVar (W : World) (pb : Nat) (a p c : Int) (l : Bool) : Prop := W.heap[pb]? = some (.cells #[.int .i64 a, .int .i64 p, .int .i64 c, .bool l] 70 (0, 0))
theorem EVar.facts {W : World} {pb : Nat} {a p c : Int} {l : Bool} (h : EVar W pb a p c l) : (W.cell? ⟨pb, 0, none⟩ = some (.int .i64 a) ∧ W.cell? ⟨pb, 1, none⟩ = some (.int .i64 p) ∧ W.cell? ⟨pb, 2, none⟩ = some (.int .i64 c) ∧ W.cell? ⟨pb, 3, none⟩ = some (.bool l)) ∧ ∀ i, W.frozen? ⟨pb, i, none⟩ = false := by
  have hc : ∀ i, W.cell? ⟨pb, i, none⟩ = (#[.int .i64 a, .int .i64 p, .int .i64 c, .bool l] : Array Value)[i]? := fun i => cell_of_row W pb i _ _ (0, 0) h
  exact ⟨⟨hc 0, hc 1, hc 2, hc 3⟩, fun i => frozen_of_row W pb i _ _ h⟩
theorem EVar.fill {W : World} {pb : Nat} {a p c : Int} {l : Bool} (h : EVar W pb a p c l) (a' p' c' : Int) (l' : Bool) : EVar ((((W.setCell ⟨pb, 0, none⟩ (.int .i64 a')).setCell ⟨pb, 1, none⟩ (.int .i64 p')).setCell ⟨pb, 2, none⟩ (.int .i64 c')).setCell ⟨pb, 3, none⟩ (.bool l')) pb a' p' c' l' := by
  have h0 : EVar (W.setCell ⟨pb, 0, none⟩ (.int .i64 a')) pb a' p c l := heap_setCell_same W pb 0 _ _ (.int .i64 a') h
  have h1 : EVar ((W.setCell ⟨pb, 0, none⟩ (.int .i64 a')).setCell ⟨pb, 1, none⟩ (.int .i64 p')) pb a' p' c l := heap_setCell_same _ pb 1 _ _ (.int .i64 p') h0
  have h2 : EVar (((W.setCell ⟨pb, 0, none⟩ (.int .i64 a')).setCell ⟨pb, 1, none⟩ (.int .i64 p')).setCell ⟨pb, 2, none⟩ (.int .i64 c')) pb a' p' c' l := heap_setCell_same _ pb 2 _ _ (.int .i64 c') h1
  exact heap_setCell_same _ pb 3 _ _ (.bool l') h2
theorem EVar.set3 {W : World} {pb : Nat} {a p c : Int} {l : Bool} (h : EVar W pb a p c l) (l' : Bool) : EVar (W.setCell ⟨pb, 3, none⟩ (.bool l')) pb a p c l' := heap_setCell_same W pb 3 _ _ (.bool l') h
theorem EVar.fr {B b : Nat} {W W' : World} {pb : Nat} {a p c : Int} {l : Bool} (h : EVar W pb a p c l) (hf : Fr B b W W') (hb : pb ≠ b) : EVar W' pb a p c l := hf.heap hb h
theorem EVar.other {W : World} {pb : Nat} {a p c : Int} {l : Bool} (h : EVar W pb a p c l) {q i : Nat} (hq : pb ≠ q) (u : Value) : EVar (W.setCell ⟨q, i, none⟩ u) pb a p c l := (heap_setCell_other W ⟨q, i, none⟩ pb u hq).trans h
theorem StAt.far {B b : Nat} {w W : World} {s : PS} (h : StAt B b w W s) {q : Nat} (hq : w.heap.size ≤ q) (hb : b < w.heap.size) (hB : B ≤ w.heap.size) (i : Nat) (u : Value) : StAt B b w (W.setCell ⟨q, i, none⟩ u) s := by
  have hg : W.grownBy (W.setCell ⟨q, i, none⟩ u) (some q) := ⟨rfl, rfl, rfl, by simp, fun k _ hne => Below.heap_setCell W ⟨q, i, none⟩ u k (fun e => hne (by rw [e]))⟩
  exact h.grown hg (fun k hk => by obtain rfl := Option.some.inj hk; exact hq) hB hb
theorem StAt.fill {B b : Nat} {w W : World} {s : PS} (h : StAt B b w W s) {q : Nat} (hq : w.heap.size ≤ q) (hb : b < w.heap.size) (hB : B ≤ w.heap.size) (u0 u1 u2 u3 : Value) : StAt B b w ((((W.setCell ⟨q, 0, none⟩ u0).setCell ⟨q, 1, none⟩ u1).setCell ⟨q, 2, none⟩ u2).setCell ⟨q, 3, none⟩ u3) s :=
  (((h.far hq hb hB 0 u0).far hq hb hB 1 u1).far hq hb hB 2 u2).far hq hb hB 3 u3
def EndP (B b : Nat) (x : EndD) (s : PS) (w : World) (e : Ending) (w' : World) : Prop := e = .returned (.agg #[.int .i64 x.kind, .int .i64 x.piece, .int .i64 x.count, .bool x.loses]) ∧ StAt B b w w' s
set_option maxHeartbeats 4000000 in
theorem end_par (B b : Nat) (ps : List PieceD) (v : Value) (s : PS) (w : World) (h : PAt w b s) (hB : B ≤ b) (hE : Env B w) (hv : IsSl PieceT 4 w v ps) (hl : ps.length ≤ 9000) (hf : LettersFit ps) :
    Calls Tryz.prog 102 #[.pointer (some ⟨b, 0, none⟩), v] w (EndP B b (endM ps s).1 (endM ps s).2 w) := by
  have hbw := h.lt
  obtain ⟨V, hV⟩ : ∃ V, V = (w.alloc (.cells #[.int .i64 0, .int .i64 0, .int .i64 0, .bool false] 70)).alloc (.cells #[.int .i64 0, .int .i64 0, .int .i64 0, .bool false] 70) := ⟨_, rfl⟩
  have hba := (Below.refl w.heap.size w).alloc (Nat.le_refl _) (.cells #[.int .i64 0, .int .i64 0, .int .i64 0, .bool false] 70)
  have hbb : Below w.heap.size w V := by rw [hV]; exact hba.alloc (by simp) _
  have HST : Hid (StAt B b w V s) := Lib.hid ((StAt.refl h).below hbb hB)
  have HR : Hid (EVar V w.heap.size 0 0 0 false) := Lib.hid (by
    rw [hV]
    exact (Below.heap_alloc _ _ _ (by simp)).trans (heap_alloc_new w _))
  have HE1 : Hid (EVar V (w.heap.size + 1) 0 0 0 false) := Lib.hid (by
    rw [hV]
    have := heap_alloc_new (w.alloc (.cells #[.int .i64 0, .int .i64 0, .int .i64 0, .bool false] 70)) (.cells #[.int .i64 0, .int .i64 0, .int .i64 0, .bool false] 70)
    simpa [EVar] using this)
  have HEV : Hid (Env B V) := Lib.hid (HST.out.env hE)
  have HPC : Hid (∀ W, StAt B b w W s → True) := Lib.hid fun _ _ => trivial
  have HV : Hid _ := Lib.hid hV
  have HE0 := Lib.hid hE
  have HVV : Hid (∀ W σ, StAt B b w W σ → IsSl PieceAt 4 W v ps) := Lib.hid fun W σ hW => isSl_map hv fun _ _ _ hx => (hx.kt (h.kt hW.2 (by decide)) (h.kt hW.2 (by decide))).plain
  obtain ⟨va, vc, rfl, -, -⟩ := hv.shape (n := ps.length) rfl
  obtain ⟨n, hn⟩ : ∃ n, n = ps.length := ⟨_, rfl⟩
  have HN := Lib.hid hn
  have HL := Lib.hid hl
  have HF := Lib.hid hf
  rw [← hn] at HVV ⊢
  have HPA : Hid (PAt V b s) := Lib.hid HST.out.1
  have HBL : Hid (Calls Tryz.prog 98 #[.pointer (some ⟨b, 0, none⟩), .string ⟨#[101, 110, 100, 32, 108, 105, 110, 101]⟩] V fun e w' => e = .returned (.bool (begM kEL s)) ∧ V = w') := Lib.hid (turned (begins_any b kEL s V HPA.out (by decide)))
  have HBR : Hid (Calls Tryz.prog 98 #[.pointer (some ⟨b, 0, none⟩), .string ⟨#[101, 110, 100, 32, 114, 101, 97, 99, 104]⟩] V fun e w' => e = .returned (.bool (begM kER s)) ∧ V = w') := Lib.hid (turned (begins_any b kER s V HPA.out (by decide)))
  have HVW : Hid ((w.alloc (.cells #[.int .i64 0, .int .i64 0, .int .i64 0, .bool false] 70)).alloc (.cells #[.int .i64 0, .int .i64 0, .int .i64 0, .bool false] 70) = V) := Lib.hid hV.symm
  obtain ⟨eb, heb⟩ : ∃ eb, eb = w.heap.size + 1 := ⟨_, rfl⟩
  have HEB := Lib.hid heb
  rw [← heb] at HE1
  clear h hE hv hl hf hn hba hbb hV HV HPC heb
  go_enter Tryz.func102, Tryz.ntmps102
  go_upto_block 0 with fail
  rw [← HEB.out, HVW.out]
  go_cut [6] from 7 to 55 (fun t wx => ∃ (hw : List UInt8) (σ : PS) (a p c : Int), t = .string (str hw) ∧ Hid (StAt B b w wx σ) ∧ Hid (EVar wx eb a p c false) ∧ Hid (EVar wx w.heap.size 0 0 0 false) ∧ Hid (endM ps s = (⟨a, p, c, isOne (choiceM hw wHow σ).1⟩, (choiceM hw wHow σ).2)))
  case first =>
    cases hbl : begM kEL s with
    | true =>
      rw [hbl] at HBL
      have HEM : Hid (endM ps s = elM s) := Lib.hid (by rw [endM, if_pos hbl])
      have HLN : Hid (Calls Tryz.prog 57 #[.pointer (some ⟨b, 0, none⟩), .string ⟨#[101, 110, 100, 32, 108, 105, 110, 101]⟩, .int .i64 (2 : Nat)] V (WordsP B b (lineM kEL 2 s).1 (lineM kEL 2 s).2 V)) := Lib.hid (line_par B b kEL 2 s V HPA.out (by decide) (by decide) hB HEV.out)
      clear hbl
      go_wp2_with fail
      go_at_call 98; refine HBL.out.mono ?_; rintro e w' ⟨rfl, rfl⟩
      go_wp2_with fail
      go_at_call 57; refine HLN.out.mono ?_; rintro e W ⟨wa, wc, rfl, hws, hpW, hfW⟩
      have hwl := (lineM_rd kEL 2 s).2
      obtain ⟨c4, c9, g, o, rfl, hgb, htb, hcw, hsm⟩ := words_at hws hwl (by decide)
      rw [hwl]
      have x0 := hcw 0 (by decide)
      have x1 := hcw 1 (by decide)
      rw [Nat.add_zero] at x0
      have HSW : Hid (StAt B b w W (lineM kEL 2 s).2) := Lib.hid (HST.out.trans ⟨hpW, hfW⟩)
      have HK : Hid (Calls Tryz.prog 64 #[.pointer (some ⟨b, 0, none⟩), .string (str (wd (lineM kEL 2 s).1 0))] W (StP B b W (.int .i64 (numM (wd (lineM kEL 2 s).1 0) (lineM kEL 2 s).2).1) (numM (wd (lineM kEL 2 s).1 0) (lineM kEL 2 s).2).2)) := Lib.hid (number_k (HSW.out.env HE0.out) hB (hsm 0) (StAt.refl hpW))
      have HE2 : Hid (EVar W eb 0 0 0 false) := Lib.hid (HE1.out.fr hfW (by have := HEB.out; omega))
      have HR2 : Hid (EVar W w.heap.size 0 0 0 false) := Lib.hid (HR.out.fr hfW (by omega))
      have HTB := Lib.hid htb
      clear hws hpW hfW hsm hcw hwl htb
      obtain ⟨m, hm⟩ : ∃ m, m = (numM (wd (lineM kEL 2 s).1 0) (lineM kEL 2 s).2).1 := ⟨_, rfl⟩
      obtain ⟨X0, hX0⟩ : ∃ X, X = str (wd (lineM kEL 2 s).1 0) := ⟨_, rfl⟩
      obtain ⟨X1, hX1⟩ : ∃ X, X = str (wd (lineM kEL 2 s).1 1) := ⟨_, rfl⟩
      rw [← hX0] at x0
      rw [← hX1] at x1
      rw [← hm, ← hX0] at HK
      have HM := Lib.hid hm
      have HX1 := Lib.hid hX1
      clear hm hX0 hX1
      go_wp2_with fail
      go_at_call 64; refine HK.out.mono ?_; rintro e W2 ⟨rfl, h2⟩
      have H2 := Lib.hid h2
      have y1 := h2.2.cell hgb x1
      have hge : g ≠ eb := by
        intro e
        obtain ⟨cs, fr, hh⟩ := HTB.out
        have := HE2.out
        unfold EVar at this
        rw [e, this] at hh
        simp at hh
      have HE3 : Hid (EVar W2 eb 0 0 0 false) := Lib.hid (HE2.out.fr h2.2 (by have := HEB.out; omega))
      have HR3 : Hid (EVar W2 w.heap.size 0 0 0 false) := Lib.hid (HR2.out.fr h2.2 (by omega))
      obtain ⟨⟨e0, e1, e2, e3⟩, hfz⟩ := HE3.out.facts
      have f0 := hfz 0
      have f1 := hfz 1
      have f2 := hfz 2
      have f3 := hfz 3
      clear h2 hfz
      go_wp2_with fail
      have HFF : Hid (StAt B b w ((((W2.setCell ⟨eb, 0, none⟩ (.int .i64 (0))).setCell ⟨eb, 1, none⟩ (.int .i64 (0))).setCell ⟨eb, 2, none⟩ (.int .i64 (m))).setCell ⟨eb, 3, none⟩ (.bool false)) (numM (wd (lineM kEL 2 s).1 0) (lineM kEL 2 s).2).2) := Lib.hid ((HSW.out.trans H2.out).fill (by have := HEB.out; omega) hbw (by omega) _ _ _ _)
      have HF2 := Lib.hid (HE3.out.fill (0) (0) (m) false)
      have HF3 : Hid (EVar ((((W2.setCell ⟨eb, 0, none⟩ (.int .i64 (0))).setCell ⟨eb, 1, none⟩ (.int .i64 (0))).setCell ⟨eb, 2, none⟩ (.int .i64 (m))).setCell ⟨eb, 3, none⟩ (.bool false)) w.heap.size 0 0 0 false) := Lib.hid ((((HR3.out.other (by have := HEB.out; omega) _).other (by have := HEB.out; omega) _).other (by have := HEB.out; omega) _).other (by have := HEB.out; omega) _)
      go_meet
      case rel => exact ⟨wd (lineM kEL 2 s).1 1, (numM (wd (lineM kEL 2 s).1 0) (lineM kEL 2 s).2).2, 0, 0, m, by rw [HX1.out], HFF, HF2, HF3, Lib.hid (by rw [HEM.out, HM.out]; rfl)⟩
    | false =>
      rw [hbl] at HBL
      cases hbr : begM kER s with
      | true =>
        rw [hbr] at HBR
        have HEM : Hid (endM ps s = erM ps s) := Lib.hid (by rw [endM, if_neg (by rw [hbl]; decide), if_pos hbr])
        have HLN : Hid (Calls Tryz.prog 57 #[.pointer (some ⟨b, 0, none⟩), .string ⟨#[101, 110, 100, 32, 114, 101, 97, 99, 104]⟩, .int .i64 (2 : Nat)] V (WordsP B b (lineM kER 2 s).1 (lineM kER 2 s).2 V)) := Lib.hid (line_par B b kER 2 s V HPA.out (by decide) (by decide) hB HEV.out)
        clear hbl hbr
        go_wp2_with fail
        go_at_call 98; refine HBL.out.mono ?_; rintro e w' ⟨rfl, rfl⟩
        go_wp2_with fail
        go_at_call 98; refine HBR.out.mono ?_; rintro e w' ⟨rfl, rfl⟩
        go_wp2_with fail
        go_at_call 57; refine HLN.out.mono ?_; rintro e W ⟨wa, wc, rfl, hws, hpW, hfW⟩
        have hwl := (lineM_rd kER 2 s).2
        obtain ⟨c4, c9, g, o, rfl, hgb, htb, hcw, hsm⟩ := words_at hws hwl (by decide)
        rw [hwl]
        have x0 := hcw 0 (by decide)
        have x1 := hcw 1 (by decide)
        rw [Nat.add_zero] at x0
        have HSW : Hid (StAt B b w W (lineM kER 2 s).2) := Lib.hid (HST.out.trans ⟨hpW, hfW⟩)
        have HK : Hid (Calls Tryz.prog 100 #[.pointer (some ⟨b, 0, none⟩), .string (str (wd (lineM kER 2 s).1 0)), .slice va n vc] W (StP B b W (.int .i64 (pieceM (wd (lineM kER 2 s).1 0) ps (lineM kER 2 s).2).1) (pieceM (wd (lineM kER 2 s).1 0) ps (lineM kER 2 s).2).2)) := Lib.hid (par_st (StAt.refl hpW) (piece_par B b _ ps _ _ W hpW (HVV.out _ _ HSW.out) HL.out HF.out hB))
        have HE2 : Hid (EVar W eb 0 0 0 false) := Lib.hid (HE1.out.fr hfW (by have := HEB.out; omega))
        have HR2 : Hid (EVar W w.heap.size 0 0 0 false) := Lib.hid (HR.out.fr hfW (by omega))
        have HTB := Lib.hid htb
        clear hws hpW hfW hsm hcw hwl htb
        obtain ⟨m, hm⟩ : ∃ m, m = (pieceM (wd (lineM kER 2 s).1 0) ps (lineM kER 2 s).2).1 := ⟨_, rfl⟩
        obtain ⟨X0, hX0⟩ : ∃ X, X = str (wd (lineM kER 2 s).1 0) := ⟨_, rfl⟩
        obtain ⟨X1, hX1⟩ : ∃ X, X = str (wd (lineM kER 2 s).1 1) := ⟨_, rfl⟩
        rw [← hX0] at x0
        rw [← hX1] at x1
        rw [← hm, ← hX0] at HK
        have HM := Lib.hid hm
        have HX1 := Lib.hid hX1
        clear hm hX0 hX1
        go_wp2_with fail
        go_at_call 100; refine HK.out.mono ?_; rintro e W2 ⟨rfl, h2⟩
        have H2 := Lib.hid h2
        have y1 := h2.2.cell hgb x1
        have hge : g ≠ eb := by
          intro e
          obtain ⟨cs, fr, hh⟩ := HTB.out
          have := HE2.out
          unfold EVar at this
          rw [e, this] at hh
          simp at hh
        have HE3 : Hid (EVar W2 eb 0 0 0 false) := Lib.hid (HE2.out.fr h2.2 (by have := HEB.out; omega))
        have HR3 : Hid (EVar W2 w.heap.size 0 0 0 false) := Lib.hid (HR2.out.fr h2.2 (by omega))
        obtain ⟨⟨e0, e1, e2, e3⟩, hfz⟩ := HE3.out.facts
        have f0 := hfz 0
        have f1 := hfz 1
        have f2 := hfz 2
        have f3 := hfz 3
        clear h2 hfz
        go_wp2_with fail
        have HFF : Hid (StAt B b w ((((W2.setCell ⟨eb, 0, none⟩ (.int .i64 (1))).setCell ⟨eb, 1, none⟩ (.int .i64 (m))).setCell ⟨eb, 2, none⟩ (.int .i64 (0))).setCell ⟨eb, 3, none⟩ (.bool false)) (pieceM (wd (lineM kER 2 s).1 0) ps (lineM kER 2 s).2).2) := Lib.hid ((HSW.out.trans H2.out).fill (by have := HEB.out; omega) hbw (by omega) _ _ _ _)
        have HF2 := Lib.hid (HE3.out.fill (1) (m) (0) false)
        have HF3 : Hid (EVar ((((W2.setCell ⟨eb, 0, none⟩ (.int .i64 (1))).setCell ⟨eb, 1, none⟩ (.int .i64 (m))).setCell ⟨eb, 2, none⟩ (.int .i64 (0))).setCell ⟨eb, 3, none⟩ (.bool false)) w.heap.size 0 0 0 false) := Lib.hid ((((HR3.out.other (by have := HEB.out; omega) _).other (by have := HEB.out; omega) _).other (by have := HEB.out; omega) _).other (by have := HEB.out; omega) _)
        go_meet
        case rel => exact ⟨wd (lineM kER 2 s).1 1, (pieceM (wd (lineM kER 2 s).1 0) ps (lineM kER 2 s).2).2, 1, m, 0, by rw [HX1.out], HFF, HF2, HF3, Lib.hid (by rw [HEM.out, HM.out]; rfl)⟩
      | false =>
        rw [hbr] at HBR
        have HEM : Hid (endM ps s = etM ps s) := Lib.hid (by rw [endM, if_neg (by rw [hbl]; decide), if_neg (by rw [hbr]; decide)])
        have HLN : Hid (Calls Tryz.prog 57 #[.pointer (some ⟨b, 0, none⟩), .string ⟨#[101, 110, 100, 32, 116, 97, 107, 101]⟩, .int .i64 (3 : Nat)] V (WordsP B b (lineM kET 3 s).1 (lineM kET 3 s).2 V)) := Lib.hid (line_par B b kET 3 s V HPA.out (by decide) (by decide) hB HEV.out)
        clear hbl hbr
        go_wp2_with fail
        go_at_call 98; refine HBL.out.mono ?_; rintro e w' ⟨rfl, rfl⟩
        go_wp2_with fail
        go_at_call 98; refine HBR.out.mono ?_; rintro e w' ⟨rfl, rfl⟩
        go_wp2_with fail
        go_at_call 57; refine HLN.out.mono ?_; rintro e W ⟨wa, wc, rfl, hws, hpW, hfW⟩
        have hwl := (lineM_rd kET 3 s).2
        obtain ⟨c4, c9, g, o, rfl, hgb, htb, hcw, hsm⟩ := words_at hws hwl (by decide)
        rw [hwl]
        have x0 := hcw 0 (by decide)
        have x1 := hcw 1 (by decide)
        have x2 := hcw 2 (by decide)
        rw [Nat.add_zero] at x0
        have HSW : Hid (StAt B b w W (lineM kET 3 s).2) := Lib.hid (HST.out.trans ⟨hpW, hfW⟩)
        have HSD : Hid (StAt B b W W.drew (lineM kET 3 s).2) := Lib.hid ((StAt.refl hpW).drew hB)
        have HK : Hid (∀ U, StAt B b W U (lineM kET 3 s).2 → Calls Tryz.prog 100 #[.pointer (some ⟨b, 0, none⟩), .string (str (wd (lineM kET 3 s).1 0)), .slice va n vc] U (StP B b W (.int .i64 (etP ps s).1) (etP ps s).2)) := Lib.hid (fun U hU => par_st hU (piece_par B b _ ps _ _ U hU.1 (HVV.out _ _ (HSW.out.trans hU)) HL.out HF.out hB))
        have HK2 : Hid (∀ U, StAt B b W U (etP ps s).2 → Calls Tryz.prog 64 #[.pointer (some ⟨b, 0, none⟩), .string (str (wd (lineM kET 3 s).1 1))] U (StP B b W (.int .i64 (etN ps s).1) (etN ps s).2)) := Lib.hid (fun U hU => number_k (HSW.out.env HE0.out) hB (hsm 1) hU)
        have HE2 : Hid (EVar W eb 0 0 0 false) := Lib.hid (HE1.out.fr hfW (by have := HEB.out; omega))
        have HR2 : Hid (EVar W w.heap.size 0 0 0 false) := Lib.hid (HR.out.fr hfW (by omega))
        have HTB := Lib.hid htb
        have hge : g ≠ eb := by
          intro e
          obtain ⟨cs, fr, hh⟩ := HTB.out
          have := HE2.out
          unfold EVar at this
          rw [e, this] at hh
          simp at hh
        clear hws hpW hfW hsm hcw hwl htb
        obtain ⟨m, hm⟩ : ∃ m, m = (etP ps s).1 := ⟨_, rfl⟩
        obtain ⟨m2, hm2⟩ : ∃ m, m = (etN ps s).1 := ⟨_, rfl⟩
        obtain ⟨X0, hX0⟩ : ∃ X, X = str (wd (lineM kET 3 s).1 0) := ⟨_, rfl⟩
        obtain ⟨X1, hX1⟩ : ∃ X, X = str (wd (lineM kET 3 s).1 1) := ⟨_, rfl⟩
        obtain ⟨X2, hX2⟩ : ∃ X, X = str (wd (lineM kET 3 s).1 2) := ⟨_, rfl⟩
        rw [← hX0] at x0
        rw [← hX1] at x1
        rw [← hX2] at x2
        rw [← hm, ← hX0] at HK
        rw [← hm2, ← hX1] at HK2
        have HM := Lib.hid hm
        have HM2 := Lib.hid hm2
        have HX2 := Lib.hid hX2
        have hee : eb ≠ b := by have := HEB.out; omega
        clear hm hm2 hX0 hX1 hX2
        obtain ⟨⟨e0, e1, e2, e3⟩, hfz⟩ := HE2.out.facts
        have f0 := hfz 0
        have f1 := hfz 1
        have f2 := hfz 2
        have f3 := hfz 3
        clear hfz
        have hst : ∀ (U : World) (i j : Nat) (u : Value), (U.setCell ⟨eb, i, none⟩ u).cell? ⟨g, j, none⟩ = U.cell? ⟨g, j, none⟩ := fun U i j u => World.cell?_of_block (Below.heap_setCell U ⟨eb, i, none⟩ u g hge)
        go_wp2_with fail
        go_region_held3 (fun w' => w'.cell? ⟨g, o, none⟩ = some (.string X0) ∧ w'.cell? ⟨g, o + 1, none⟩ = some (.string X1) ∧ w'.cell? ⟨g, o + 2, none⟩ = some (.string X2)) (go_keep) (first
          | (go_at_call 100; refine (HK.out _ HSD.out).mono ?_; rintro e W1 ⟨rfl, h1⟩; have H1 := Lib.hid h1; have y0 := h1.2.cell hgb x0; have y1 := h1.2.cell hgb x1; have y2 := h1.2.cell hgb x2; have e0 := h1.2.cell hee e0; have e1 := h1.2.cell hee e1; have e2 := h1.2.cell hee e2; have e3 := h1.2.cell hee e3; clear h1)
          | (go_at_call 64; refine (HK2.out _ H1.out).mono ?_; rintro e W2 ⟨rfl, h2⟩; have H2 := Lib.hid h2; have HE3 : Hid (EVar W2 eb 0 0 0 false) := Lib.hid (HE2.out.fr h2.2 hee); have HR3 : Hid (EVar W2 w.heap.size 0 0 0 false) := Lib.hid (HR2.out.fr h2.2 (by omega)); obtain ⟨⟨e0, e1, e2, e3⟩, hfz⟩ := HE3.out.facts; have f0 := hfz 0; have f1 := hfz 1; have f2 := hfz 2; have f3 := hfz 3; have y0 := h2.2.cell hgb x0; have y1 := h2.2.cell hgb x1; have y2 := h2.2.cell hgb x2; clear h2 hfz))
        go_wp2_with fail
        have HFF : Hid (StAt B b w ((((W2.setCell ⟨eb, 0, none⟩ (.int .i64 2)).setCell ⟨eb, 1, none⟩ (.int .i64 m)).setCell ⟨eb, 2, none⟩ (.int .i64 m2)).setCell ⟨eb, 3, none⟩ (.bool false)) (etN ps s).2) := Lib.hid ((HSW.out.trans H2.out).fill (by have := HEB.out; omega) hbw (by omega) _ _ _ _)
        have HF2 := Lib.hid (HE3.out.fill 2 m m2 false)
        have HF3 : Hid (EVar ((((W2.setCell ⟨eb, 0, none⟩ (.int .i64 2)).setCell ⟨eb, 1, none⟩ (.int .i64 m)).setCell ⟨eb, 2, none⟩ (.int .i64 m2)).setCell ⟨eb, 3, none⟩ (.bool false)) w.heap.size 0 0 0 false) := Lib.hid ((((HR3.out.other (by have := HEB.out; omega) _).other (by have := HEB.out; omega) _).other (by have := HEB.out; omega) _).other (by have := HEB.out; omega) _)
        go_meet
        case rel => exact ⟨wd (lineM kET 3 s).1 2, (etN ps s).2, 2, m, m2, by rw [HX2.out], HFF, HF2, HF3, Lib.hid (by rw [HEM.out, HM.out, HM2.out]; rfl)⟩
  case rest =>
    clear HBL HBR HPA HE1 HR HVW
    obtain ⟨hw, σ, a, p, c, rfl, hst, hev, hrv, heq⟩ := hcut
    obtain ⟨X, hX⟩ : ∃ X, X = str hw := ⟨_, rfl⟩
    rw [← hX]
    have HX := Lib.hid hX
    clear hX
    obtain ⟨q, hq⟩ : ∃ q, q = (choiceM hw wHow σ).1 := ⟨_, rfl⟩
    have HQ := Lib.hid hq
    have HKC : Hid (∀ V g, StAt B b w V σ → WBlk V g wHow → Calls Tryz.prog 63 #[.pointer (some ⟨b, 0, none⟩), .string X, .slice (some ⟨g, 0, none⟩) 2 2] V (StP B b V (.int .i64 q) (choiceM hw wHow σ).2)) := Lib.hid (fun V g hV hwb => by
      rw [hq, HX.out]; exact par_st (StAt.refl hV.1) (choice_par B b g hw wHow σ V hV.1 hwb hB (by decide)))
    clear hq
    go_wp2_with fail
    go_at_call 54; refine (howWords_any _).mono ?_; rintro e W3 ⟨gh, rfl, hwd, hb3⟩
    have HS3 : Hid (StAt B b w W3 σ) := Lib.hid (hst.out.below hb3 hB)
    have HE3 : Hid (EVar W3 eb a p c false) := Lib.hid ((hb3.block eb (Array.getElem?_eq_some_iff.1 hev.out).1).trans hev.out)
    have HR3 : Hid (EVar W3 w.heap.size 0 0 0 false) := Lib.hid ((hb3.block w.heap.size (Array.getElem?_eq_some_iff.1 hrv.out).1).trans hrv.out)
    have HWD := Lib.hid hwd
    clear hst hev hrv hwd hb3
    go_wp2_with fail
    go_at_call 63; refine (HKC.out _ gh HS3.out HWD.out).mono ?_; rintro e W4 ⟨rfl, h4⟩
    have HS4 : Hid (StAt B b w W4 (choiceM hw wHow σ).2) := Lib.hid (HS3.out.trans h4)
    have HE4 : Hid (EVar W4 eb a p c false) := Lib.hid (HE3.out.fr h4.2 (by have := HEB.out; omega))
    have HR4 : Hid (EVar W4 w.heap.size 0 0 0 false) := Lib.hid (HR3.out.fr h4.2 (by omega))
    clear h4 HS3 HE3 HR3 HWD
    obtain ⟨⟨e0, e1, e2, e3⟩, ez⟩ := HE4.out.facts
    obtain ⟨⟨r0, r1, r2, r3⟩, rz⟩ := HR4.out.facts
    have ez3 := ez 3
    have rz0 := rz 0
    have rz1 := rz 1
    have rz2 := rz 2
    have rz3 := rz 3
    have hne : w.heap.size ≠ eb := by have := HEB.out; omega
    clear ez rz
    go_wp2_with fail
    have HRF := ((HR4.out.other (q := eb) (i := 3) hne (.bool (q == 1))).fill a p c (q == 1))
    refine bodyPost_ret (results_cell_row rfl _ _ w.heap.size 70 _ (0, 0) _ rfl HRF Tryz.underlying70 rfl (by kernel_rfl)) rfl ?_
    refine ⟨?_, ?_⟩
    · rw [heq.out, ← HQ.out]
      have : isOne q = (q == 1) := by rw [isOne, Bool.eq_iff_iff]; simp
      rw [this]
    · rw [heq.out]
      exact (HS4.out.far (by have := HEB.out; omega) hbw (by omega) 3 _).fill (Nat.le_refl _) hbw (by omega) _ _ _ _
end Go.Proofs.YtomclohfppbegaaGreatDoor

set_option maxRecDepth 100000
namespace Go.Proofs.YtomclohfppbegaaGreatDoor
open Go.ChangeShapes Go.WideShapes Go.ChangeAt Go.RowKit

theorem info_end : (Tryz.prog.info? 70).map (fun i => (i.zero, i.size, i.bytes)) = some (some (.agg #[.int .i64 0, .int .i64 0, .int .i64 0, .bool false]), 4, 32) := by kernel_rfl
theorem choice_ls (w : List UInt8) (ws : List (List UInt8)) (s : PS) : (choiceM w ws s).2.ls = s.ls := optM_ls _ _
theorem num_ls (w : List UInt8) (s : PS) : (numM w s).2.ls = s.ls := optM_ls _ _
theorem piece_ls (w : List UInt8) (ps : List PieceD) (s : PS) : (pieceM w ps s).2.ls = s.ls := optM_ls _ _
theorem line_short {k : List UInt8} {n : Nat} {s : PS} (h : begM k s = true) : (lineM k n s).2.ls.length < s.ls.length := by
  obtain ⟨l, r, hl, _, _⟩ := beg_cases h
  rw [lineM_ls h, hl]; simp
theorem optM_bad {o : Option Int} {s : PS} (h : s.bad = true) : (optM o s).2.bad = true := by cases o <;> simp [optM, failS, h]
theorem endM_short {ps : List PieceD} {s : PS} : (endM ps s).2.bad = true ∨ (endM ps s).2.ls.length < s.ls.length := by
  unfold endM
  split
  · rename_i h
    refine .inr ?_
    show (choiceM _ _ _).2.ls.length < _
    rw [choice_ls, num_ls]; exact line_short h
  · split
    · rename_i h
      refine .inr ?_
      show (choiceM _ _ _).2.ls.length < _
      rw [choice_ls, piece_ls]; exact line_short h
    · cases h : begM kET s with
      | true =>
        refine .inr ?_
        show (choiceM _ _ _).2.ls.length < _
        rw [choice_ls]
        show (numM _ _).2.ls.length < _
        rw [num_ls]
        show (pieceM _ _ _).2.ls.length < _
        rw [piece_ls]; exact line_short h
      | false =>
        refine .inl ?_
        have e : (lineM kET 3 s).2.bad = true := by rw [lineM_no h]; rfl
        exact optM_bad (optM_bad (optM_bad e))
theorem endsGoM_no {ps : List PieceD} {s : PS} (h : begM kEnd s = false) (f : Nat) : endsGoM ps f s = ([], s) := by
  cases f with
  | zero => rfl
  | succ f => rw [endsGoM, if_neg (by rw [h]; decide)]
set_option maxHeartbeats 4000000 in
theorem ends_par (B b : Nat) (ps : List PieceD) (v : Value) (s : PS) (w : World) (h : PAt w b s) (hB : B ≤ b) (hE : Env B w) (hv : IsSl PieceT 4 w v ps) (hl : ps.length ≤ 9000) (hf : LettersFit ps) :
    Calls Tryz.prog 62 #[.pointer (some ⟨b, 0, none⟩), v] w (fun e w' => ∃ u, e = .returned u ∧ IsSl EndT 4 w' u (endsM ps s).1 ∧ StAt B b w w' (endsM ps s).2) := by
  obtain ⟨i0, hi0, hz0, hz1, hz2⟩ := info_parts info_end
  have hbw := h.lt
  have hN9 : s.ls.length ≤ 9000 := by
    obtain ⟨a, c, _, h1, h2, _⟩ := h
    omega
  obtain ⟨N, hN⟩ : ∃ N, N = s.ls.length := ⟨_, rfl⟩
  have HS0 : Hid (StAt B b w w s) := Lib.hid (StAt.refl h)
  have HR0 : Hid ((([] : List EndD) ++ (endsGoM ps N s).1, (endsGoM ps N s).2) = endsM ps s) := Lib.hid (by rw [hN]; rfl)
  have HL0 : Hid (s.bad = true ∨ s.ls.length ≤ N) := Lib.hid (by omega)
  have HO0 : Hid (w.ownsRow w.heap.size 70 4 (.slice none 0 0) ([] : List EndD).length (cellsL endCells [])) := Lib.hid (World.ownsRow_nil _ _ _ _)
  rw [← hN] at hN9
  obtain ⟨pa, pc, hpv, -, -⟩ := hv.shape (n := ps.length) rfl
  have HEN : Hid (∀ W σ, StAt B b w W σ → Calls Tryz.prog 102 #[.pointer (some ⟨b, 0, none⟩), v] W (EndP B b (endM ps σ).1 (endM ps σ).2 W)) := Lib.hid (fun W σ hW => end_par B b ps v σ W hW.1 hB (hW.env hE) (isSl_map hv fun _ _ _ hx => hx.kt (h.kt hW.2 (by decide)) (h.kt hW.2 (by decide))) hl hf)
  obtain ⟨pn, hpn⟩ : ∃ n, n = ps.length := ⟨_, rfl⟩
  rw [← hpn] at hpv
  subst hpv
  clear h hE hN hv hl hf hpn
  go_enter Tryz.func62, Tryz.ntmps62
  go_wp2_with fail
  go_loopw [5] (fun v wr => ∃ (done : List EndD) (σ : PS) (f : Nat), done.length + f = N ∧ (∃ a cap, v = .slice a done.length cap) ∧ Hid (wr.ownsRow w.heap.size 70 4 v done.length (cellsL endCells done)) ∧ Hid (StAt B b w wr σ) ∧ Hid (σ.bad = true ∨ σ.ls.length ≤ f) ∧ Hid ((done ++ (endsGoM ps f σ).1, (endsGoM ps f σ).2) = endsM ps s)) (fun v _ => N - lenOf v)
  case atStart => exact ⟨[], s, N, by simp, ⟨_, _, rfl⟩, HO0, HS0, HL0, HR0⟩
  case round =>
    clear HO0 HS0 HL0 HR0
    obtain ⟨done, σ, f, hf, ⟨va, vc, rfl⟩, hown, hst, hlen, hrel⟩ := hrel
    obtain ⟨dl, hdl⟩ : ∃ dl, dl = done.length := ⟨_, rfl⟩
    have HDL := Lib.hid hdl
    rw [← hdl] at hf hown ⊢
    clear hdl
    have HBG : Hid (Calls Tryz.prog 98 #[.pointer (some ⟨b, 0, none⟩), .string ⟨#[101, 110, 100]⟩] wr fun e w' => e = .returned (.bool (begM kEnd σ)) ∧ wr = w') := Lib.hid (turned (begins_any b kEnd σ wr hst.out.1 (by decide)))
    cases hb : begM kEnd σ with
    | false =>
      rw [hb] at HBG
      have HP : Hid (IsSl EndT 4 wr (.slice va dl vc) (endsM ps s).1 ∧ StAt B b w wr (endsM ps s).2) := Lib.hid (by
        have h1 := hrel.out
        rw [endsGoM_no hb f, List.append_nil] at h1
        rw [← h1]
        refine ⟨?_, hst.out⟩
        have h2 := hown.out; rw [HDL.out] at h2 ⊢; exact own_ends h2)
      clear hb hown hst hlen hrel
      go_wp2_with fail
      go_at_call 98; refine HBG.out.mono ?_; rintro e w' ⟨rfl, rfl⟩
      go_wp2_with fail
      go_ret
      exact ⟨_, rfl, HP.out⟩
    | true =>
      rw [hb] at HBG
      obtain ⟨f, rfl⟩ : ∃ f', f = f' + 1 := by
        obtain ⟨l, r, hl, hbd, _⟩ := beg_cases hb
        have := hlen.out
        rw [hl, hbd, List.length_cons] at this
        rcases this with h | h
        · cases h
        · exact ⟨f - 1, by omega⟩
      have HRL : Hid ((done ++ [(endM ps σ).1] ++ (endsGoM ps f (endM ps σ).2).1, (endsGoM ps f (endM ps σ).2).2) = endsM ps s) := Lib.hid (by
        rw [← hrel.out, endsGoM, if_pos hb]; simp)
      have HLN : Hid ((endM ps σ).2.bad = true ∨ (endM ps σ).2.ls.length ≤ f) := Lib.hid (by
        rcases endM_short (ps := ps) (s := σ) with h1 | h1
        · exact .inl h1
        · obtain ⟨l, r, hl, hbd, _⟩ := beg_cases hb
          have := hlen.out
          rw [hbd] at this
          rcases this with h | h
          · cases h
          · exact .inr (by omega))
      obtain ⟨x, hx⟩ : ∃ x, x = (endM ps σ).1 := ⟨_, rfl⟩
      obtain ⟨⟨ek, ep, ec, el⟩, hx2⟩ : ∃ y, y = x := ⟨_, rfl⟩
      have HX : Hid ((endM ps σ).1 = ⟨ek, ep, ec, el⟩) := Lib.hid (by rw [← hx, ← hx2])
      have HC : Hid (Calls Tryz.prog 102 #[.pointer (some ⟨b, 0, none⟩), .slice pa pn pc] wr (EndP B b ⟨ek, ep, ec, el⟩ (endM ps σ).2 wr)) := Lib.hid (by have := HEN.out wr σ hst.out; rw [HX.out] at this; exact this)
      clear hb hlen hrel hx hx2
      have hdn : dl ≤ 9000 := by omega
      go_wp2_with fail
      go_at_call 98; refine HBG.out.mono ?_; rintro e w' ⟨rfl, rfl⟩
      go_wp2_with fail
      go_at_call 102; refine HC.out.mono ?_; rintro e W ⟨rfl, hW⟩
      have HOW : Hid (W.ownsRow w.heap.size 70 4 (.slice va dl vc) dl (cellsL endCells done)) := Lib.hid (own_fr hown.out hW.2 hbw)
      have HSW : Hid (StAt B b w W (endM ps σ).2) := Lib.hid (hst.out.trans hW)
      have hWs : w.heap.size ≤ W.heap.size := HSW.out.2.1.size
      clear hW hown hst
      go_wp2_with (at_builtin; refine wpList_append_lies _ rfl _ _ _ rfl w.heap.size 70 i0 _ 4 32 Tryz.underlying24 hi0 hz0 hz1 hz2 rfl (by omega) (.slice va dl vc) dl (cellsL endCells done) rfl (HOW.out.alloc _) ⟨W.heap.size, 0, none⟩ 1 1 [.int .i64 ek, .int .i64 ep, .int .i64 ec, .bool el] rfl rfl (World.news_of_block (cs := #[.int .i64 ek, .int .i64 ep, .int .i64 ec, .bool el]) (t := 70) (fr := (0, 0)) (heap_alloc_new W _)) (by simp [Value.oneCell']) (by omega) (by unfold maxLen; omega) (by omega) (by simp; omega) (W.heap.size + 1) (by simp) ?_)
      intro gg cap W6 hown6 hgrow hat hlt
      have HO7 : Hid (W6.ownsRow w.heap.size 70 4 (.slice (some ⟨gg, 0, none⟩) (dl + 1) cap) (done ++ [(endM ps σ).1]).length (cellsL endCells (done ++ [(endM ps σ).1]))) := Lib.hid (by
        rw [cellsL_snoc, HX.out, List.length_append, ← HDL.out]; exact hown6)
      have HS7 : Hid (StAt B b w W6 (endM ps σ).2) := Lib.hid ((HSW.out.below ((Below.refl _ _).alloc (Nat.le_refl _) _) hB).grown hgrow (fun k hk => (own_block HOW.out k hk).1) (by omega) hbw)
      clear hown6 hgrow hat hlt
      go_wp2_with fail
      go_roundw
      case rel => exact ⟨done ++ [(endM ps σ).1], (endM ps σ).2, f, by rw [List.length_append, ← HDL.out]; simp; omega, ⟨_, _, by rw [List.length_append, ← HDL.out]; rfl⟩, HO7, HS7, HLN, HRL⟩
      case measure => simp [lenOf]; omega
end Go.Proofs.YtomclohfppbegaaGreatDoor

set_option maxRecDepth 100000
namespace Go.Proofs.YtomclohfppbegaaGreatDoor
open Go.ChangeShapes Go.WideShapes Go.ChangeAt Go.RowKit
attribute [local go_sem ↓] Go.wp_at_zero Go.wp_at_succ

theorem info_int : (Tryz.prog.info? 3).map (fun i => (i.zero, i.size, i.bytes)) = some (some (.int .i64 0), 1, 8) := by kernel_rfl
def intC (x : Int) : List Value := [.int .i64 x]
theorem intC_map (l : List Int) : cellsL intC l = l.map (.int .i64) := by
  induction l with
  | nil => rfl
  | cons x l ih => simp only [cellsL, List.map_cons, List.flatten_cons] at ih ⊢; rw [ih]; rfl
theorem intC_len (l : List Int) : (cellsL intC l).length = l.length := by rw [intC_map, List.length_map]
theorem intC_set (l : List Int) (m : Nat) (v : Int) : (cellsL intC l).set m (.int .i64 v) = cellsL intC (l.set m v) := by rw [intC_map, intC_map, List.map_set]
theorem own_intsP {W : World} {base : Nat} {v : Value} {l : List Int} (h : W.ownsRow base 3 1 v l.length (cellsL intC l)) : IsSl IntT 1 W v l :=
  own_isSl (k := 1) (fun _ => rfl) h fun _ _ _ _ ht hc => ⟨ht, hc 0 _ rfl⟩
theorem RBox.fr {B b : Nat} {W W' : World} {rb : Nat} {t : TypeId} {r : RulesD} {vp vs ve : Value} (h : RBox W rb t r vp vs ve) (hf : Fr B b W W') (hb : rb ≠ b) : RBox W' rb t r vp vs ve := hf.heap hb h
theorem rowsGo_no {ps : List PieceD} {W y : Nat} {cs : List Int} {s : PS} (h : (wd (lineM kRow 1 s).1 0).length ≠ W) : rowsGo ps W (y + 1) cs s = (cs, failS (lineM kRow 1 s).2) := by rw [rowsGo, if_neg h]
theorem rowsGo_yes {ps : List PieceD} {W y : Nat} {cs : List Int} {s : PS} (h : (wd (lineM kRow 1 s).1 0).length = W) : rowsGo ps W (y + 1) cs s = rowsGo ps W y (rowGo ps (wd (lineM kRow 1 s).1 0) (y * W) cs (lineM kRow 1 s).2).1 (rowGo ps (wd (lineM kRow 1 s).1 0) (y * W) cs (lineM kRow 1 s).2).2 := by rw [rowsGo, if_pos h]
/-- The rows' state: the cells so far, and the rules that were handed in. -/
def RwAt (B b : Nat) (w wr : World) (gi A : Nat) (cs : List Int) (σ : PS) (r : RulesD) (vp vs ve : Value) : Prop :=
  wr.ownsRow w.heap.size 3 1 (.slice (some ⟨gi, 0, none⟩) A A) A (cellsL intC cs) ∧ cs.length = A ∧ StAt B b w wr σ ∧ RBox wr w.heap.size 26 r vp vs ve
theorem RwAt.step {B b gi A : Nat} {w wr W : World} {cs : List Int} {σ τ : PS} {r : RulesD} {vp vs ve : Value} (h : RwAt B b w wr gi A cs σ r vp vs ve) (hf : StAt B b wr W τ) (hb : b < w.heap.size) : RwAt B b w W gi A cs τ r vp vs ve :=
  ⟨own_fr h.1 hf.2 hb, h.2.1, h.2.2.1.trans hf, h.2.2.2.fr hf.2 (by omega)⟩
theorem RwAt.below {B b gi A : Nat} {w wr W : World} {cs : List Int} {σ : PS} {r : RulesD} {vp vs ve : Value} (h : RwAt B b w wr gi A cs σ r vp vs ve) (hb : Below wr.heap.size wr W) (hbw : b < w.heap.size) (hB : B ≤ b) : RwAt B b w W gi A cs σ r vp vs ve :=
  h.step ((StAt.refl h.2.2.1.1).below hb hB) hbw
theorem RwAt.put {B b gi A m : Nat} {w wr : World} {cs : List Int} {σ : PS} {r : RulesD} {vp vs ve : Value} (h : RwAt B b w wr gi A cs σ r vp vs ve) (hgi : gi = w.heap.size + 1) (hb : b < w.heap.size) (hB : B ≤ w.heap.size) (v : Int) : RwAt B b w (wr.setCell ⟨gi, m, none⟩ (.int .i64 v)) gi A (cs.set m v) σ r vp vs ve := by
  obtain ⟨h1, h2, h3, h4⟩ := h
  refine ⟨?_, by rw [List.length_set]; exact h2, h3.far (by omega) hb hB m _, (heap_setCell_other wr ⟨gi, m, none⟩ w.heap.size _ (by show w.heap.size ≠ gi; omega)).trans h4⟩
  rw [← intC_set]
  exact (h1.stored m (.int .i64 v)).1
theorem rwAt_made {B b A : Nat} {w w1 wm : World} {s : PS} {r : RulesD} {vp vs ve : Value} {N : Nat} (hS : StAt B b w w1 s) (hX : RBox w1 w.heap.size 26 r vp vs ve) (hN : N = w.heap.size + 1) (hb : b < w.heap.size) (hB : B ≤ w.heap.size) (hown : wm.ownsRow w.heap.size 3 1 (.slice (some ⟨N, 0, none⟩) A A) A (madeCells (Value.cells (.int .i64 0)) (A * 1)).toList) (hg : w1.grownBy wm none) : RwAt B b w wm (w.heap.size + 1) A (List.replicate A 0) s r vp vs ve := by
  refine ⟨?_, by simp, hS.grown hg (fun k e => by cases e) hB hb, ?_⟩
  · rw [intC_map, List.map_replicate, ← toList_madeCells_one, ← hN]
    rw [Nat.mul_one] at hown; exact hown
  · exact (hg.block _ (Array.getElem?_eq_some_iff.1 hX).1 (by simp)).trans hX
/-- The bytes of a row, in a block of their own. -/
def BytesAt (W : World) (bb n : Nat) (l : List UInt8) : Prop := ∀ t, t < n → W.cell? ⟨bb, t, none⟩ = some (.int .u8 ((l[t]?.getD 0).toNat : Int))
theorem BytesAt.fr {B b : Nat} {W W' : World} {bb n : Nat} {l : List UInt8} (h : BytesAt W bb n l) (hf : Fr B b W W') (hb : bb ≠ b) : BytesAt W' bb n l := fun t ht => hf.cell (a := ⟨bb, t, none⟩) hb (h t ht)
theorem BytesAt.other {W : World} {bb n q i : Nat} {l : List UInt8} (h : BytesAt W bb n l) (hq : bb ≠ q) (u : Value) : BytesAt (W.setCell ⟨q, i, none⟩ u) bb n l := fun t ht => (World.cell?_of_block (w := W) (a := ⟨bb, t, none⟩) (Below.heap_setCell W ⟨q, i, none⟩ u bb hq)).trans (h t ht)
theorem BytesAt.drew {W : World} {bb n : Nat} {l : List UInt8} (h : BytesAt W bb n l) : BytesAt W.drew bb n l := fun t ht => h t ht
theorem conv_bytes (X : ByteArray) (l : List UInt8) (n : Nat) (W : World) (hX : X = str l) (hn : X.size = n) : ∃ G Wb, (convert 9 54 (.string X)).run Tryz.prog W = .ok (.slice (some ⟨W.heap.size, 0, none⟩) n G) Wb ∧ Below W.heap.size W Wb ∧ BytesAt Wb W.heap.size n l := by
  have h := Lib.run_convert_string_bytes (P := Tryz.prog) W 9 54 5 X Tryz.underlying9 Tryz.underlying54 Tryz.underlying5
  rw [hn] at h
  exact ⟨_, _, h, Lib.bytesWorld_below _ _ _, fun t ht => by rw [Lib.bytesWorld_cell W _ X t (by omega), hX, data_str, List.getD]⟩
theorem rowGo_at2 {ps : List PieceD} {l : List UInt8} {x i : Nat} {cs : List Int} {s : PS} {c : UInt8} (hc : l[x]? = some c) : rowGo ps (l.drop x) i cs s = rowGo ps (l.drop (x + 1)) (i + 1) (cs.set i (cellM c ps s).1) (cellM c ps s).2 := by
  obtain ⟨h1, h2⟩ := List.getElem?_eq_some_iff.1 hc
  rw [List.drop_eq_getElem_cons h1, h2]; rfl
set_option maxHeartbeats 8000000 in
theorem rows_par (B b : Nat) (r : RulesD) (vp vs ve : Value) (s : PS) (w : World) (W H : Nat) (h : PAt w b s) (hB : B ≤ b) (hE : Env B w) (hv : IsSl PieceT 4 w vp r.pieces) (hl : r.pieces.length ≤ 9000) (hf : LettersFit r.pieces) (hW : r.width = (W : Int)) (hH : r.height = (H : Int)) (hW8 : W ≤ 8) (hH8 : H ≤ 8) :
    Calls Tryz.prog 60 #[.pointer (some ⟨b, 0, none⟩), RulesV r vp vs ve] w (fun e w' => ∃ u, e = .returned u ∧ IsSl IntT 1 w' u (rowsM r.pieces W H s).1 ∧ StAt B b w w' (rowsM r.pieces W H s).2) := by
  obtain ⟨i0, hi, hz0, hz1, hz2⟩ := info_parts info_int
  have hbw := h.lt
  obtain ⟨A, hA⟩ : ∃ A, A = W * H := ⟨_, rfl⟩
  have hA64 : A ≤ 64 := by rw [hA]; exact Nat.mul_le_mul hW8 hH8
  have HAA := Lib.hid hA
  have hWH : (W : Int) * (H : Int) = (A : Int) := by rw [hA, Int.natCast_mul]
  have HVV : Hid (∀ V σ, StAt B b w V σ → IsSl PieceAt 4 V vp r.pieces) := Lib.hid fun V σ hV => isSl_map hv fun _ _ _ hx => (hx.kt (h.kt hV.2 (by decide)) (h.kt hV.2 (by decide))).plain
  obtain ⟨pa, pc, hpv, -, -⟩ := hv.shape (n := r.pieces.length) rfl
  obtain ⟨pn, hpn⟩ : ∃ n, n = r.pieces.length := ⟨_, rfl⟩
  rw [← hpn] at hpv
  subst hpv
  have HL := Lib.hid hl
  have HF := Lib.hid hf
  have HE := Lib.hid hE
  have hba := (Below.refl w.heap.size w).alloc (Nat.le_refl _) (.cells (RulesCells r (.slice pa pn pc) vs ve) 26)
  obtain ⟨w1, hw1⟩ : ∃ w1, w1 = w.alloc (.cells (RulesCells r (.slice pa pn pc) vs ve) 26) := ⟨_, rfl⟩
  have HX : Hid (RBox w1 w.heap.size 26 r (.slice pa pn pc) vs ve) := Lib.hid (by rw [hw1]; exact RBox.new w _ r _ _ _)
  rw [← hw1] at hba
  have HS1 : Hid (StAt B b w w1 s) := Lib.hid ((StAt.refl h).below hba hB)
  have hs1 : w1.heap.size = w.heap.size + 1 := by rw [hw1]; simp
  have HW1 : Hid (w.alloc (.cells #[.string r.name, .int .i64 r.width, .int .i64 r.height, .slice pa pn pc, vs, .bool r.falls, .bool r.keeps, ve, .int .i64 r.blocked, .int .i64 r.quiet, .int .i64 r.rep] 26) = w1) := Lib.hid hw1.symm
  unfold RulesV
  obtain ⟨⟨b0, b1, b2, b3, b4, -⟩, -⟩ := HX.out.facts
  have HWW := Lib.hid hW
  have HHH := Lib.hid hH
  rw [hW] at b1
  rw [hH] at b2
  rw [hw1] at b1 b2
  unfold RulesCells at b1 b2
  clear hA h hE hv hl hf hba hw1 hW hH hpn b0 b3 b4
  go_enter Tryz.func60, Tryz.ntmps60
  go_wp2_with (at_make; refine wpList_make_full _ rfl _ _ 23 rfl w.heap.size 3 i0 (.int .i64 0) 1 Tryz.underlying23 hi hz0 hz1 .i64 .i64 A A A rfl rfl rfl rfl (by rw [hz2]; omega) (by unfold maxLen; omega) (by simp) ?_; intro wm hownm hgrowm; rw [HW1.out] at hgrowm; have HR0 := Lib.hid (rwAt_made HS1.out HX.out (by simp) hbw (by omega) hownm hgrowm); obtain ⟨⟨-, c1, c2, c3, -⟩, -⟩ := HR0.out.2.2.2.facts; rw [HWW.out] at c1; rw [HHH.out] at c2; clear hownm hgrowm b1 b2)
  have HG0 : Hid (rowsGo r.pieces W H (List.replicate A 0) s = rowsM r.pieces W H s) := Lib.hid (by rw [rowsM, HAA.out])
  clear HX HS1 HW1 hs1 c1 c2 c3
  go_loopw [6, 7, 8, 9, 38] (fun y _ _ _ _ wr => ∃ (k : Nat) (cs : List Int) (σ : PS), k ≤ H ∧ y = .int .i64 ((k : Int) - 1) ∧ Hid (RwAt B b w wr (w.heap.size + 1) A cs σ r (.slice pa pn pc) vs ve) ∧ Hid (rowsGo r.pieces W k cs σ = rowsM r.pieces W H s)) (fun y _ _ _ _ _ => match y with | .int _ z => (z + 1).toNat | _ => 0)
  case atStart => exact ⟨H, _, s, by omega, rfl, HR0, HG0⟩
  case round =>
    clear HR0 HG0
    obtain ⟨k, cs, σ, hk, rfl, hrw, hgo⟩ := hrel
    obtain ⟨V, hV⟩ : ∃ V, V = wr := ⟨_, rfl⟩
    subst hV
    rcases k with _ | j
    · have HF : Hid (IsSl IntT 1 V (.slice (some ⟨w.heap.size + 1, 0, none⟩) A A) (rowsM r.pieces W H s).1 ∧ StAt B b w V (rowsM r.pieces W H s).2) := Lib.hid (by
        obtain ⟨h1, h2, h3, _⟩ := hrw.out
        rw [← hgo.out]
        refine ⟨?_, h3⟩
        rw [← h2] at h1 ⊢
        exact own_intsP h1)
      rw [show (((0 : Nat) : Int) - 1) = -1 from rfl]
      go_wp2_with fail
      go_ret
      exact ⟨_, rfl, HF.out⟩
    · rw [show (((j + 1 : Nat) : Int) - 1) = (j : Int) by omega]
      have HLN : Hid (Calls Tryz.prog 57 #[.pointer (some ⟨b, 0, none⟩), .string ⟨#[114, 111, 119]⟩, .int .i64 (1 : Nat)] V (WordsP B b (lineM kRow 1 σ).1 (lineM kRow 1 σ).2 V)) := Lib.hid (line_par B b kRow 1 σ V hrw.out.2.2.1.1 (by decide) (by decide) hB (hrw.out.2.2.1.env HE.out))
      go_wp2_with fail
      go_at_call 57; refine HLN.out.mono ?_; rintro e W2 ⟨wa, wc, rfl, hws, hpW, hfW⟩
      have hwl := (lineM_rd kRow 1 σ).2
      obtain ⟨c4, c9, g, o, rfl, hgb, htb, hcw, hsm⟩ := words_at hws hwl (by decide)
      rw [hwl]
      have x0 := hcw 0 (by decide)
      rw [Nat.add_zero] at x0
      have HR2 := Lib.hid (hrw.out.step ⟨hpW, hfW⟩ hbw)
      obtain ⟨⟨-, c1, c2, c3, -⟩, -⟩ := HR2.out.2.2.2.facts
      rw [HWW.out] at c1
      have hsz := hsm 0
      obtain ⟨l, hl⟩ : ∃ l, l = wd (lineM kRow 1 σ).1 0 := ⟨_, rfl⟩
      obtain ⟨X, hX⟩ : ∃ X, X = str l := ⟨_, rfl⟩
      rw [← hl] at hsz
      rw [← hl, ← hX] at x0
      have HLL := Lib.hid hl
      have HXX := Lib.hid hX
      have hXs : X.size = l.length := by rw [hX, str_size]
      obtain ⟨n, hn⟩ : ∃ n, n = X.size := ⟨_, rfl⟩
      have HNN : Hid (n = l.length ∧ X.size = n) := Lib.hid ⟨hn.trans hXs, hn.symm⟩
      obtain ⟨u, bad, d0, d1, f1⟩ := bad_at hpW
      by_cases hlw : l.length = W
      · have hXW : X.size = W := hXs.trans hlw
        obtain ⟨G, Wb, hcv, hbb, hby⟩ := conv_bytes X l W W2 hX hXW
        have hne : ((X.size : Int) != (W : Int)) = false := by rw [hXW]; simp
        have HRB : Hid (RwAt B b w Wb (w.heap.size + 1) A cs (lineM kRow 1 σ).2 r (.slice pa pn pc) vs ve) := Lib.hid (HR2.out.below hbb hbw hB)
        have HBY : Hid (BytesAt Wb W2.heap.size W l) := Lib.hid hby
        have hgi : w.heap.size + 1 < W2.heap.size := (own_block HR2.out.1 (w.heap.size + 1) rfl).2.1
        have HG1 : Hid (rowsGo r.pieces W j (rowGo r.pieces l (j * W) cs (lineM kRow 1 σ).2).1 (rowGo r.pieces l (j * W) cs (lineM kRow 1 σ).2).2 = rowsM r.pieces W H s) := Lib.hid (by rw [← hgo.out, rowsGo_yes (by rw [← hl]; exact hlw), hl])
        have HLW := Lib.hid hlw
        have HR0 : Hid (rowGo r.pieces (l.drop 0) (j * W + 0) cs (lineM kRow 1 σ).2 = rowGo r.pieces l (j * W) cs (lineM kRow 1 σ).2) := Lib.hid rfl
        clear hws hpW hfW hwl htb hcw hsm hl hX hXs hn hlw hsz hgo hrw HLN c2 c3 hbb hby d0 d1 f1 HR2
        obtain ⟨s1, hs1⟩ : ∃ s1, s1 = (lineM kRow 1 σ).2 := ⟨_, rfl⟩
        rw [← hs1] at HRB HG1 HR0
        clear hs1
        obtain ⟨bb, hbb⟩ : ∃ bb, bb = W2.heap.size := ⟨_, rfl⟩
        rw [← hbb] at hcv HBY hgi
        have HBE := Lib.hid hbb
        clear hbb
        go_wp2_with fail
        clear hcv hne hXW
        go_loopw [8, 9, 38] (fun _ _ i wx => ∃ (x : Nat) (cs' : List Int) (τ : PS), x ≤ W ∧ i = .int .i64 (x : Int) ∧ Hid (RwAt B b w wx (w.heap.size + 1) A cs' τ r (.slice pa pn pc) vs ve) ∧ Hid (BytesAt wx bb W l) ∧ Hid (rowGo r.pieces (l.drop x) (j * W + x) cs' τ = rowGo r.pieces l (j * W) cs s1)) (fun _ _ i _ => W - (intOf i).toNat)
        case atStart => exact ⟨0, cs, s1, by omega, rfl, HRB, HBY, HR0⟩
        case round =>
          clear HRB HBY HR0 c1 x0
          obtain ⟨x, cs', τ, hx, rfl, hrw, hby, hgo⟩ := hrel
          by_cases hlt : x < W
          · obtain ⟨c, hc⟩ : ∃ c, l[x]? = some c := ⟨_, List.getElem?_eq_getElem (by rw [HLW.out]; exact hlt)⟩
            have y0 := hby.out x hlt
            rw [hc, Option.getD_some] at y0
            obtain ⟨P, hP⟩ : ∃ P : Nat, P = j * W := ⟨_, rfl⟩
            have hPA : P + W ≤ A := by
              rw [hP, HAA.out, ← Nat.succ_mul, Nat.mul_comm W H]; exact Nat.mul_le_mul_right W (by omega)
            have hPI : (j : Int) * (W : Int) = (P : Int) := by rw [hP, Int.natCast_mul]
            obtain ⟨m, hm⟩ : ∃ m : Nat, m = P + x := ⟨_, rfl⟩
            have HMM := Lib.hid hm
            have Q3 : Hid (IntKind.i64.wrap ((j : Int) * (W : Int)) = (P : Int)) := Lib.hid (by rw [hPI, IntWalk.i64_in _ (by omega)])
            have Q4 : Hid (IntKind.i64.wrap ((P : Int) + (x : Int)) = (m : Int)) := Lib.hid (by rw [IntWalk.i64_in _ (by omega)]; omega)
            have h0P : (0 : Int) ≤ (m : Int) := by omega
            have h1P : (m : Int) < (A : Int) := by omega
            have h2P : m < A := by omega
            obtain ⟨⟨-, c1, -, c3, -⟩, -⟩ := hrw.out.2.2.2.facts
            rw [HWW.out] at c1
            obtain ⟨q, hq⟩ : ∃ q, q = (cellM c r.pieces τ).1 := ⟨_, rfl⟩
            have KC : Hid (∀ U, StAt B b wr U τ → Calls Tryz.prog 101 #[.pointer (some ⟨b, 0, none⟩), .int .u8 c.toNat, .slice pa pn pc] U (StP B b wr (.int .i64 q) (cellM c r.pieces τ).2)) := Lib.hid (fun U hU => by
              rw [hq]
              exact par_st hU (cell_par B b c r.pieces _ τ U hU.1 (HVV.out _ _ (hrw.out.2.2.1.trans hU)) HL.out HF.out hB))
            have HGN : Hid (rowGo r.pieces (l.drop (x + 1)) (j * W + (x + 1)) (cs'.set m q) (cellM c r.pieces τ).2 = rowGo r.pieces l (j * W) cs s1) := Lib.hid (by
              have h1 := hgo.out
              rw [rowGo_at2 hc, ← hP] at h1
              rw [← hP, ← Nat.add_assoc, hq, hm]; exact h1)
            have HSD : Hid (StAt B b wr wr.drew τ) := Lib.hid ((StAt.refl hrw.out.2.2.1.1).drew hB)
            obtain ⟨C, hC⟩ : ∃ C : Int, C = (c.toNat : Int) := ⟨_, rfl⟩
            rw [← hC] at y0 KC
            have hwb : w.heap.size ≠ b := by omega
            have hst : ∀ (U : World) (i t : Nat) (u : Value), (U.setCell ⟨w.heap.size + 1, i, none⟩ u).cell? ⟨w.heap.size, t, none⟩ = U.cell? ⟨w.heap.size, t, none⟩ := fun U i t u => World.cell?_of_block (Below.heap_setCell U ⟨w.heap.size + 1, i, none⟩ u w.heap.size (by show w.heap.size ≠ w.heap.size + 1; omega))
            clear hc hP hq hgo hC hm hPI
            go_wp2_with fail
            have q3 := Q3.out
            have q4 := Q4.out
            go_region_held3 (fun w' => w'.cell? ⟨w.heap.size, 1, none⟩ = some (.int .i64 (W : Int)) ∧ w'.cell? ⟨w.heap.size, 3, none⟩ = some (.slice pa pn pc)) (go_keep) (first
              | (go_at_call 101; refine (KC.out _ HSD.out).mono ?_; rintro e W3 ⟨rfl, h3⟩; have H3 := Lib.hid (hrw.out.step h3 hbw); have HB3 : Hid (BytesAt W3 bb W l) := Lib.hid (hby.out.fr h3.2 (by omega)); have z1 := h3.2.cell (a := ⟨w.heap.size, 1, none⟩) hwb c1; have z3 := h3.2.cell (a := ⟨w.heap.size, 3, none⟩) hwb c3; obtain ⟨u0, hu0⟩ : ∃ u, W3.cell? ⟨w.heap.size + 1, m, none⟩ = some u := ⟨_, (H3.out.1.cellAt m (by omega)).trans (List.getElem?_eq_getElem (by rw [intC_len, H3.out.2.1]; omega))⟩; have hfz := H3.out.1.frozenAt m; clear h3))
            go_wp2_with fail
            clear q3 q4
            have HR9 := Lib.hid (H3.out.put (m := m) rfl hbw (by omega) q)
            have HB9 : Hid (BytesAt (W3.setCell ⟨w.heap.size + 1, m, none⟩ (.int .i64 q)) bb W l) := Lib.hid (HB3.out.other (by omega) _)
            refine ⟨⟨x + 1, cs'.set m q, _, by omega, by simp, HR9, HB9, HGN⟩, by simp [intOf]; omega⟩
          · obtain rfl : W = x := by omega
            have HN : Hid (rowsGo r.pieces W j cs' τ = rowsM r.pieces W H s) := Lib.hid (by
              have h1 := hgo.out
              rw [List.drop_eq_nil_of_le (by rw [HLW.out]; exact Nat.le_refl _)] at h1
              rw [← HG1.out, ← h1]; rfl)
            go_wp2_with fail
            go_roundw
            case rel => exact ⟨j, cs', τ, by omega, by go_num, hrw, HN⟩
            case measure => simp
      · have hne : ((X.size : Int) != (W : Int)) = true := by rw [hXs]; simpa using (by omega : ¬ (l.length : Int) = (W : Int))
        have HF : Hid (IsSl IntT 1 (W2.setCell ⟨b, 1, none⟩ (.bool true)) (.slice (some ⟨w.heap.size + 1, 0, none⟩) A A) (rowsM r.pieces W H s).1 ∧ StAt B b w (W2.setCell ⟨b, 1, none⟩ (.bool true)) (rowsM r.pieces W H s).2) := Lib.hid (by
          obtain ⟨h1, h2, h3, _⟩ := HR2.out.step ((StAt.refl hpW).fail hB) hbw
          rw [← hgo.out, rowsGo_no (by rw [← hl]; exact hlw)]
          refine ⟨?_, h3⟩
          rw [← h2] at h1 ⊢
          exact own_intsP h1)
        clear hws hpW hfW hwl htb hcw hsm hl hX hXs hn hlw hsz hgo hrw HLN c2 c3
        go_wp2_with fail
        go_ret
        exact ⟨_, rfl, HF.out⟩
end Go.Proofs.YtomclohfppbegaaGreatDoor

set_option maxRecDepth 100000
namespace Go.Proofs.YtomclohfppbegaaGreatDoor
open Go.ChangeShapes Go.WideShapes Go.ChangeAt Go.RowKit

/-- A variable of rules, field by field. -/
def XCells (nm : ByteArray) (x1 : Int) (x2 : Int) (vp : Value) (vs : Value) (fa : Bool) (ke : Bool) (ve : Value) (bl : Int) (qu : Int) (rp : Int) : Array Value := #[.string nm, .int .i64 x1, .int .i64 x2, vp, vs, .bool fa, .bool ke, ve, .int .i64 bl, .int .i64 qu, .int .i64 rp]
def XBox (W : World) (b : Nat) (nm : ByteArray) (x1 : Int) (x2 : Int) (vp : Value) (vs : Value) (fa : Bool) (ke : Bool) (ve : Value) (bl : Int) (qu : Int) (rp : Int) : Prop := W.heap[b]? = some (.cells (XCells nm x1 x2 vp vs fa ke ve bl qu rp) 26 (0, 0))
def XFacts (W : World) (b : Nat) (nm : ByteArray) (x1 : Int) (x2 : Int) (vp : Value) (vs : Value) (fa : Bool) (ke : Bool) (ve : Value) (bl : Int) (qu : Int) (rp : Int) : Prop := W.cell? ⟨b, 0, none⟩ = some (.string nm) ∧ W.cell? ⟨b, 1, none⟩ = some (.int .i64 x1) ∧ W.cell? ⟨b, 2, none⟩ = some (.int .i64 x2) ∧ W.cell? ⟨b, 3, none⟩ = some (vp) ∧ W.cell? ⟨b, 4, none⟩ = some (vs) ∧ W.cell? ⟨b, 5, none⟩ = some (.bool fa) ∧ W.cell? ⟨b, 6, none⟩ = some (.bool ke) ∧ W.cell? ⟨b, 7, none⟩ = some (ve) ∧ W.cell? ⟨b, 8, none⟩ = some (.int .i64 bl) ∧ W.cell? ⟨b, 9, none⟩ = some (.int .i64 qu) ∧ W.cell? ⟨b, 10, none⟩ = some (.int .i64 rp)
def XFree (W : World) (b : Nat) : Prop := W.frozen? ⟨b, 0, none⟩ = false ∧ W.frozen? ⟨b, 1, none⟩ = false ∧ W.frozen? ⟨b, 2, none⟩ = false ∧ W.frozen? ⟨b, 3, none⟩ = false ∧ W.frozen? ⟨b, 4, none⟩ = false ∧ W.frozen? ⟨b, 5, none⟩ = false ∧ W.frozen? ⟨b, 6, none⟩ = false ∧ W.frozen? ⟨b, 7, none⟩ = false ∧ W.frozen? ⟨b, 8, none⟩ = false ∧ W.frozen? ⟨b, 9, none⟩ = false ∧ W.frozen? ⟨b, 10, none⟩ = false
theorem XBox.facts {W : World} {b : Nat} {nm : ByteArray} {x1 : Int} {x2 : Int} {vp : Value} {vs : Value} {fa : Bool} {ke : Bool} {ve : Value} {bl : Int} {qu : Int} {rp : Int} (h : XBox W b nm x1 x2 vp vs fa ke ve bl qu rp) : XFacts W b nm x1 x2 vp vs fa ke ve bl qu rp ∧ XFree W b := by
  have hc : ∀ i, W.cell? ⟨b, i, none⟩ = (XCells nm x1 x2 vp vs fa ke ve bl qu rp)[i]? := fun i => cell_of_row W b i _ _ (0, 0) h
  have hf : ∀ i, W.frozen? ⟨b, i, none⟩ = false := fun i => frozen_of_row W b i _ _ h
  exact ⟨⟨hc 0, hc 1, hc 2, hc 3, hc 4, hc 5, hc 6, hc 7, hc 8, hc 9, hc 10⟩, hf 0, hf 1, hf 2, hf 3, hf 4, hf 5, hf 6, hf 7, hf 8, hf 9, hf 10⟩
theorem XBox.new (W : World) (nm : ByteArray) (x1 : Int) (x2 : Int) (vp : Value) (vs : Value) (fa : Bool) (ke : Bool) (ve : Value) (bl : Int) (qu : Int) (rp : Int) : XBox (W.alloc (.cells (XCells nm x1 x2 vp vs fa ke ve bl qu rp) 26)) W.heap.size nm x1 x2 vp vs fa ke ve bl qu rp := heap_alloc_new W _
theorem XBox.fr {B b : Nat} {W W' : World} {q : Nat} {nm : ByteArray} {x1 : Int} {x2 : Int} {vp : Value} {vs : Value} {fa : Bool} {ke : Bool} {ve : Value} {bl : Int} {qu : Int} {rp : Int} (h : XBox W q nm x1 x2 vp vs fa ke ve bl qu rp) (hf : Fr B b W W') (hb : q ≠ b) : XBox W' q nm x1 x2 vp vs fa ke ve bl qu rp := hf.heap hb h
theorem XBox.below {W W' : World} {q : Nat} {nm : ByteArray} {x1 : Int} {x2 : Int} {vp : Value} {vs : Value} {fa : Bool} {ke : Bool} {ve : Value} {bl : Int} {qu : Int} {rp : Int} (h : XBox W q nm x1 x2 vp vs fa ke ve bl qu rp) (hb : Below W.heap.size W W') : XBox W' q nm x1 x2 vp vs fa ke ve bl qu rp := (hb.block q (Array.getElem?_eq_some_iff.1 h).1).trans h
theorem XBox.other {W : World} {q c i : Nat} {nm : ByteArray} {x1 : Int} {x2 : Int} {vp : Value} {vs : Value} {fa : Bool} {ke : Bool} {ve : Value} {bl : Int} {qu : Int} {rp : Int} (h : XBox W q nm x1 x2 vp vs fa ke ve bl qu rp) (hc : q ≠ c) (u : Value) : XBox (W.setCell ⟨c, i, none⟩ u) q nm x1 x2 vp vs fa ke ve bl qu rp := (heap_setCell_other W ⟨c, i, none⟩ q u hc).trans h
theorem XBox.s0 {W : World} {b : Nat} {nm : ByteArray} {x1 : Int} {x2 : Int} {vp : Value} {vs : Value} {fa : Bool} {ke : Bool} {ve : Value} {bl : Int} {qu : Int} {rp : Int} (h : XBox W b nm x1 x2 vp vs fa ke ve bl qu rp) (z : ByteArray) : XBox (W.setCell ⟨b, 0, none⟩ (.string z)) b z x1 x2 vp vs fa ke ve bl qu rp := heap_setCell_same W b 0 _ _ (.string z) h
theorem XBox.s1 {W : World} {b : Nat} {nm : ByteArray} {x1 : Int} {x2 : Int} {vp : Value} {vs : Value} {fa : Bool} {ke : Bool} {ve : Value} {bl : Int} {qu : Int} {rp : Int} (h : XBox W b nm x1 x2 vp vs fa ke ve bl qu rp) (z : Int) : XBox (W.setCell ⟨b, 1, none⟩ (.int .i64 z)) b nm z x2 vp vs fa ke ve bl qu rp := heap_setCell_same W b 1 _ _ (.int .i64 z) h
theorem XBox.s2 {W : World} {b : Nat} {nm : ByteArray} {x1 : Int} {x2 : Int} {vp : Value} {vs : Value} {fa : Bool} {ke : Bool} {ve : Value} {bl : Int} {qu : Int} {rp : Int} (h : XBox W b nm x1 x2 vp vs fa ke ve bl qu rp) (z : Int) : XBox (W.setCell ⟨b, 2, none⟩ (.int .i64 z)) b nm x1 z vp vs fa ke ve bl qu rp := heap_setCell_same W b 2 _ _ (.int .i64 z) h
theorem XBox.s3 {W : World} {b : Nat} {nm : ByteArray} {x1 : Int} {x2 : Int} {vp : Value} {vs : Value} {fa : Bool} {ke : Bool} {ve : Value} {bl : Int} {qu : Int} {rp : Int} (h : XBox W b nm x1 x2 vp vs fa ke ve bl qu rp) (z : Value) : XBox (W.setCell ⟨b, 3, none⟩ (z)) b nm x1 x2 z vs fa ke ve bl qu rp := heap_setCell_same W b 3 _ _ (z) h
theorem XBox.s4 {W : World} {b : Nat} {nm : ByteArray} {x1 : Int} {x2 : Int} {vp : Value} {vs : Value} {fa : Bool} {ke : Bool} {ve : Value} {bl : Int} {qu : Int} {rp : Int} (h : XBox W b nm x1 x2 vp vs fa ke ve bl qu rp) (z : Value) : XBox (W.setCell ⟨b, 4, none⟩ (z)) b nm x1 x2 vp z fa ke ve bl qu rp := heap_setCell_same W b 4 _ _ (z) h
theorem XBox.s5 {W : World} {b : Nat} {nm : ByteArray} {x1 : Int} {x2 : Int} {vp : Value} {vs : Value} {fa : Bool} {ke : Bool} {ve : Value} {bl : Int} {qu : Int} {rp : Int} (h : XBox W b nm x1 x2 vp vs fa ke ve bl qu rp) (z : Bool) : XBox (W.setCell ⟨b, 5, none⟩ (.bool z)) b nm x1 x2 vp vs z ke ve bl qu rp := heap_setCell_same W b 5 _ _ (.bool z) h
theorem XBox.s6 {W : World} {b : Nat} {nm : ByteArray} {x1 : Int} {x2 : Int} {vp : Value} {vs : Value} {fa : Bool} {ke : Bool} {ve : Value} {bl : Int} {qu : Int} {rp : Int} (h : XBox W b nm x1 x2 vp vs fa ke ve bl qu rp) (z : Bool) : XBox (W.setCell ⟨b, 6, none⟩ (.bool z)) b nm x1 x2 vp vs fa z ve bl qu rp := heap_setCell_same W b 6 _ _ (.bool z) h
theorem XBox.s7 {W : World} {b : Nat} {nm : ByteArray} {x1 : Int} {x2 : Int} {vp : Value} {vs : Value} {fa : Bool} {ke : Bool} {ve : Value} {bl : Int} {qu : Int} {rp : Int} (h : XBox W b nm x1 x2 vp vs fa ke ve bl qu rp) (z : Value) : XBox (W.setCell ⟨b, 7, none⟩ (z)) b nm x1 x2 vp vs fa ke z bl qu rp := heap_setCell_same W b 7 _ _ (z) h
theorem XBox.s8 {W : World} {b : Nat} {nm : ByteArray} {x1 : Int} {x2 : Int} {vp : Value} {vs : Value} {fa : Bool} {ke : Bool} {ve : Value} {bl : Int} {qu : Int} {rp : Int} (h : XBox W b nm x1 x2 vp vs fa ke ve bl qu rp) (z : Int) : XBox (W.setCell ⟨b, 8, none⟩ (.int .i64 z)) b nm x1 x2 vp vs fa ke ve z qu rp := heap_setCell_same W b 8 _ _ (.int .i64 z) h
theorem XBox.s9 {W : World} {b : Nat} {nm : ByteArray} {x1 : Int} {x2 : Int} {vp : Value} {vs : Value} {fa : Bool} {ke : Bool} {ve : Value} {bl : Int} {qu : Int} {rp : Int} (h : XBox W b nm x1 x2 vp vs fa ke ve bl qu rp) (z : Int) : XBox (W.setCell ⟨b, 9, none⟩ (.int .i64 z)) b nm x1 x2 vp vs fa ke ve bl z rp := heap_setCell_same W b 9 _ _ (.int .i64 z) h
theorem XBox.s10 {W : World} {b : Nat} {nm : ByteArray} {x1 : Int} {x2 : Int} {vp : Value} {vs : Value} {fa : Bool} {ke : Bool} {ve : Value} {bl : Int} {qu : Int} {rp : Int} (h : XBox W b nm x1 x2 vp vs fa ke ve bl qu rp) (z : Int) : XBox (W.setCell ⟨b, 10, none⟩ (.int .i64 z)) b nm x1 x2 vp vs fa ke ve bl qu z := heap_setCell_same W b 10 _ _ (.int .i64 z) h
/-- All eleven cells written, one behind the other. -/
def fillX (W : World) (q : Nat) (u0 u1 u2 u3 u4 u5 u6 u7 u8 u9 u10 : Value) : World := ((((((((((W.setCell ⟨q, 0, none⟩ u0).setCell ⟨q, 1, none⟩ u1).setCell ⟨q, 2, none⟩ u2).setCell ⟨q, 3, none⟩ u3).setCell ⟨q, 4, none⟩ u4).setCell ⟨q, 5, none⟩ u5).setCell ⟨q, 6, none⟩ u6).setCell ⟨q, 7, none⟩ u7).setCell ⟨q, 8, none⟩ u8).setCell ⟨q, 9, none⟩ u9).setCell ⟨q, 10, none⟩ u10
theorem XBox.fill {W : World} {q : Nat} {nm : ByteArray} {x1 : Int} {x2 : Int} {vp : Value} {vs : Value} {fa : Bool} {ke : Bool} {ve : Value} {bl : Int} {qu : Int} {rp : Int} (h : XBox W q nm x1 x2 vp vs fa ke ve bl qu rp) (nm' : ByteArray) (x1' : Int) (x2' : Int) (vp' : Value) (vs' : Value) (fa' : Bool) (ke' : Bool) (ve' : Value) (bl' : Int) (qu' : Int) (rp' : Int) : XBox (fillX W q (.string nm') (.int .i64 x1') (.int .i64 x2') (vp') (vs') (.bool fa') (.bool ke') (ve') (.int .i64 bl') (.int .i64 qu') (.int .i64 rp')) q nm' x1' x2' vp' vs' fa' ke' ve' bl' qu' rp' := (((((((((((h.s0 nm').s1 x1').s2 x2').s3 vp').s4 vs').s5 fa').s6 ke').s7 ve').s8 bl').s9 qu').s10 rp')
/-- The slices that rules hold are as they were. -/
def KS (W W' : World) : Prop := KT 68 W W' ∧ KT 106 W W' ∧ KT 3 W W' ∧ KT 70 W W'
theorem KS.refl (W : World) : KS W W := ⟨KT.refl _ _, KT.refl _ _, KT.refl _ _, KT.refl _ _⟩
theorem KS.trans {W W1 W2 : World} (h : KS W W1) (k : KS W1 W2) : KS W W2 := ⟨h.1.trans k.1, h.2.1.trans k.2.1, h.2.2.1.trans k.2.2.1, h.2.2.2.trans k.2.2.2⟩
theorem KS.st {B b : Nat} {W W' : World} {s t : PS} (hp : PAt W b s) (h : StAt B b W W' t) : KS W W' := ⟨hp.kt h.2 (by decide), hp.kt h.2 (by decide), hp.kt h.2 (by decide), hp.kt h.2 (by decide)⟩
theorem KS.of {W W' : World} (h : Below W.heap.size W W') : KS W W' := ⟨KT.of h, KT.of h, KT.of h, KT.of h⟩
/-- A block of rules, whatever it holds. -/
def RBlk (W : World) (q : Nat) : Prop := ∃ cs, W.heap[q]? = some (.cells cs 26 (0, 0))
theorem RBlk.set {W : World} {q : Nat} (h : RBlk W q) (i : Nat) (u : Value) : RBlk (W.setCell ⟨q, i, none⟩ u) q := by
  obtain ⟨cs, h⟩ := h
  exact ⟨_, heap_setCell_same W q i _ _ u h⟩
theorem KT.set {W : World} {q : Nat} {t : TypeId} (h : RBlk W q) (ht : t ≠ 26) (i : Nat) (u : Value) : KT t W (W.setCell ⟨q, i, none⟩ u) := by
  intro k cs fr hc
  refine (heap_setCell_other W ⟨q, i, none⟩ k u (fun e => ht ?_)).trans hc
  obtain ⟨cs2, h⟩ := h
  have e : k = q := e
  rw [e, h] at hc
  simp only [Option.some.injEq, Obj.cells.injEq] at hc
  exact hc.2.1.symm
theorem KS.set {W : World} {q : Nat} (h : RBlk W q) (i : Nat) (u : Value) : KS W (W.setCell ⟨q, i, none⟩ u) := ⟨KT.set h (by decide) i u, KT.set h (by decide) i u, KT.set h (by decide) i u, KT.set h (by decide) i u⟩
theorem XBox.blk {W : World} {q : Nat} {nm : ByteArray} {x1 : Int} {x2 : Int} {vp : Value} {vs : Value} {fa : Bool} {ke : Bool} {ve : Value} {bl : Int} {qu : Int} {rp : Int} (h : XBox W q nm x1 x2 vp vs fa ke ve bl qu rp) : RBlk W q := ⟨_, h⟩
theorem KS.fill {W : World} {q : Nat} (h : RBlk W q) (u0 u1 u2 u3 u4 u5 u6 u7 u8 u9 u10 : Value) : KS W (fillX W q u0 u1 u2 u3 u4 u5 u6 u7 u8 u9 u10) := ((((((((((KS.set h 0 u0).trans (KS.set (h.set 0 u0) 1 u1)).trans (KS.set ((h.set 0 u0).set 1 u1) 2 u2)).trans (KS.set (((h.set 0 u0).set 1 u1).set 2 u2) 3 u3)).trans (KS.set ((((h.set 0 u0).set 1 u1).set 2 u2).set 3 u3) 4 u4)).trans (KS.set (((((h.set 0 u0).set 1 u1).set 2 u2).set 3 u3).set 4 u4) 5 u5)).trans (KS.set ((((((h.set 0 u0).set 1 u1).set 2 u2).set 3 u3).set 4 u4).set 5 u5) 6 u6)).trans (KS.set (((((((h.set 0 u0).set 1 u1).set 2 u2).set 3 u3).set 4 u4).set 5 u5).set 6 u6) 7 u7)).trans (KS.set ((((((((h.set 0 u0).set 1 u1).set 2 u2).set 3 u3).set 4 u4).set 5 u5).set 6 u6).set 7 u7) 8 u8)).trans (KS.set (((((((((h.set 0 u0).set 1 u1).set 2 u2).set 3 u3).set 4 u4).set 5 u5).set 6 u6).set 7 u7).set 8 u8) 9 u9)).trans (KS.set ((((((((((h.set 0 u0).set 1 u1).set 2 u2).set 3 u3).set 4 u4).set 5 u5).set 6 u6).set 7 u7).set 8 u8).set 9 u9) 10 u10)
theorem StAt.fillX {B b : Nat} {w W : World} {s : PS} (h : StAt B b w W s) {q : Nat} (hq : w.heap.size ≤ q) (hb : b < w.heap.size) (hB : B ≤ w.heap.size) (u0 u1 u2 u3 u4 u5 u6 u7 u8 u9 u10 : Value) : StAt B b w (fillX W q u0 u1 u2 u3 u4 u5 u6 u7 u8 u9 u10) s := (((((((((((h.far hq hb hB 0 u0).far hq hb hB 1 u1).far hq hb hB 2 u2).far hq hb hB 3 u3).far hq hb hB 4 u4).far hq hb hB 5 u5).far hq hb hB 6 u6).far hq hb hB 7 u7).far hq hb hB 8 u8).far hq hb hB 9 u9).far hq hb hB 10 u10)
/-- Rules in the making: the parser's state, the variable, the result's own. -/
def GS (B b : Nat) (w W : World) (s : PS) (nm : ByteArray) (x1 : Int) (x2 : Int) (vp : Value) (vs : Value) (fa : Bool) (ke : Bool) (ve : Value) (bl : Int) (qu : Int) (rp : Int) : Prop := StAt B b w W s ∧ XBox W (w.heap.size + 1) nm x1 x2 vp vs fa ke ve bl qu rp ∧ XBox W w.heap.size ⟨#[]⟩ 0 0 (.slice none 0 0) (.slice none 0 0) false false (.slice none 0 0) 0 0 0
theorem GS.step {B b : Nat} {w W W' : World} {s t : PS} {nm : ByteArray} {x1 : Int} {x2 : Int} {vp : Value} {vs : Value} {fa : Bool} {ke : Bool} {ve : Value} {bl : Int} {qu : Int} {rp : Int} (h : GS B b w W s nm x1 x2 vp vs fa ke ve bl qu rp) (k : StAt B b W W' t) (hb : b < w.heap.size) : GS B b w W' t nm x1 x2 vp vs fa ke ve bl qu rp :=
  ⟨h.1.trans k, h.2.1.fr k.2 (by omega), h.2.2.fr k.2 (by omega)⟩
theorem GS.below {B b : Nat} {w W W' : World} {s : PS} {nm : ByteArray} {x1 : Int} {x2 : Int} {vp : Value} {vs : Value} {fa : Bool} {ke : Bool} {ve : Value} {bl : Int} {qu : Int} {rp : Int} (h : GS B b w W s nm x1 x2 vp vs fa ke ve bl qu rp) (k : Below W.heap.size W W') (hB : B ≤ b) : GS B b w W' s nm x1 x2 vp vs fa ke ve bl qu rp :=
  ⟨h.1.below k hB, h.2.1.below k, h.2.2.below k⟩
theorem GS.s0 {B b : Nat} {w W : World} {s : PS} {nm : ByteArray} {x1 : Int} {x2 : Int} {vp : Value} {vs : Value} {fa : Bool} {ke : Bool} {ve : Value} {bl : Int} {qu : Int} {rp : Int} (h : GS B b w W s nm x1 x2 vp vs fa ke ve bl qu rp) (hb : b < w.heap.size) (hB : B ≤ w.heap.size) (z : ByteArray) : GS B b w (W.setCell ⟨w.heap.size + 1, 0, none⟩ (.string z)) s z x1 x2 vp vs fa ke ve bl qu rp := ⟨h.1.far (by omega) hb hB 0 _, h.2.1.s0 z, h.2.2.other (by omega) _⟩
theorem GS.s1 {B b : Nat} {w W : World} {s : PS} {nm : ByteArray} {x1 : Int} {x2 : Int} {vp : Value} {vs : Value} {fa : Bool} {ke : Bool} {ve : Value} {bl : Int} {qu : Int} {rp : Int} (h : GS B b w W s nm x1 x2 vp vs fa ke ve bl qu rp) (hb : b < w.heap.size) (hB : B ≤ w.heap.size) (z : Int) : GS B b w (W.setCell ⟨w.heap.size + 1, 1, none⟩ (.int .i64 z)) s nm z x2 vp vs fa ke ve bl qu rp := ⟨h.1.far (by omega) hb hB 1 _, h.2.1.s1 z, h.2.2.other (by omega) _⟩
theorem GS.s2 {B b : Nat} {w W : World} {s : PS} {nm : ByteArray} {x1 : Int} {x2 : Int} {vp : Value} {vs : Value} {fa : Bool} {ke : Bool} {ve : Value} {bl : Int} {qu : Int} {rp : Int} (h : GS B b w W s nm x1 x2 vp vs fa ke ve bl qu rp) (hb : b < w.heap.size) (hB : B ≤ w.heap.size) (z : Int) : GS B b w (W.setCell ⟨w.heap.size + 1, 2, none⟩ (.int .i64 z)) s nm x1 z vp vs fa ke ve bl qu rp := ⟨h.1.far (by omega) hb hB 2 _, h.2.1.s2 z, h.2.2.other (by omega) _⟩
theorem GS.s3 {B b : Nat} {w W : World} {s : PS} {nm : ByteArray} {x1 : Int} {x2 : Int} {vp : Value} {vs : Value} {fa : Bool} {ke : Bool} {ve : Value} {bl : Int} {qu : Int} {rp : Int} (h : GS B b w W s nm x1 x2 vp vs fa ke ve bl qu rp) (hb : b < w.heap.size) (hB : B ≤ w.heap.size) (z : Value) : GS B b w (W.setCell ⟨w.heap.size + 1, 3, none⟩ (z)) s nm x1 x2 z vs fa ke ve bl qu rp := ⟨h.1.far (by omega) hb hB 3 _, h.2.1.s3 z, h.2.2.other (by omega) _⟩
theorem GS.s4 {B b : Nat} {w W : World} {s : PS} {nm : ByteArray} {x1 : Int} {x2 : Int} {vp : Value} {vs : Value} {fa : Bool} {ke : Bool} {ve : Value} {bl : Int} {qu : Int} {rp : Int} (h : GS B b w W s nm x1 x2 vp vs fa ke ve bl qu rp) (hb : b < w.heap.size) (hB : B ≤ w.heap.size) (z : Value) : GS B b w (W.setCell ⟨w.heap.size + 1, 4, none⟩ (z)) s nm x1 x2 vp z fa ke ve bl qu rp := ⟨h.1.far (by omega) hb hB 4 _, h.2.1.s4 z, h.2.2.other (by omega) _⟩
theorem GS.s5 {B b : Nat} {w W : World} {s : PS} {nm : ByteArray} {x1 : Int} {x2 : Int} {vp : Value} {vs : Value} {fa : Bool} {ke : Bool} {ve : Value} {bl : Int} {qu : Int} {rp : Int} (h : GS B b w W s nm x1 x2 vp vs fa ke ve bl qu rp) (hb : b < w.heap.size) (hB : B ≤ w.heap.size) (z : Bool) : GS B b w (W.setCell ⟨w.heap.size + 1, 5, none⟩ (.bool z)) s nm x1 x2 vp vs z ke ve bl qu rp := ⟨h.1.far (by omega) hb hB 5 _, h.2.1.s5 z, h.2.2.other (by omega) _⟩
theorem GS.s6 {B b : Nat} {w W : World} {s : PS} {nm : ByteArray} {x1 : Int} {x2 : Int} {vp : Value} {vs : Value} {fa : Bool} {ke : Bool} {ve : Value} {bl : Int} {qu : Int} {rp : Int} (h : GS B b w W s nm x1 x2 vp vs fa ke ve bl qu rp) (hb : b < w.heap.size) (hB : B ≤ w.heap.size) (z : Bool) : GS B b w (W.setCell ⟨w.heap.size + 1, 6, none⟩ (.bool z)) s nm x1 x2 vp vs fa z ve bl qu rp := ⟨h.1.far (by omega) hb hB 6 _, h.2.1.s6 z, h.2.2.other (by omega) _⟩
theorem GS.s7 {B b : Nat} {w W : World} {s : PS} {nm : ByteArray} {x1 : Int} {x2 : Int} {vp : Value} {vs : Value} {fa : Bool} {ke : Bool} {ve : Value} {bl : Int} {qu : Int} {rp : Int} (h : GS B b w W s nm x1 x2 vp vs fa ke ve bl qu rp) (hb : b < w.heap.size) (hB : B ≤ w.heap.size) (z : Value) : GS B b w (W.setCell ⟨w.heap.size + 1, 7, none⟩ (z)) s nm x1 x2 vp vs fa ke z bl qu rp := ⟨h.1.far (by omega) hb hB 7 _, h.2.1.s7 z, h.2.2.other (by omega) _⟩
theorem GS.s8 {B b : Nat} {w W : World} {s : PS} {nm : ByteArray} {x1 : Int} {x2 : Int} {vp : Value} {vs : Value} {fa : Bool} {ke : Bool} {ve : Value} {bl : Int} {qu : Int} {rp : Int} (h : GS B b w W s nm x1 x2 vp vs fa ke ve bl qu rp) (hb : b < w.heap.size) (hB : B ≤ w.heap.size) (z : Int) : GS B b w (W.setCell ⟨w.heap.size + 1, 8, none⟩ (.int .i64 z)) s nm x1 x2 vp vs fa ke ve z qu rp := ⟨h.1.far (by omega) hb hB 8 _, h.2.1.s8 z, h.2.2.other (by omega) _⟩
theorem GS.s9 {B b : Nat} {w W : World} {s : PS} {nm : ByteArray} {x1 : Int} {x2 : Int} {vp : Value} {vs : Value} {fa : Bool} {ke : Bool} {ve : Value} {bl : Int} {qu : Int} {rp : Int} (h : GS B b w W s nm x1 x2 vp vs fa ke ve bl qu rp) (hb : b < w.heap.size) (hB : B ≤ w.heap.size) (z : Int) : GS B b w (W.setCell ⟨w.heap.size + 1, 9, none⟩ (.int .i64 z)) s nm x1 x2 vp vs fa ke ve bl z rp := ⟨h.1.far (by omega) hb hB 9 _, h.2.1.s9 z, h.2.2.other (by omega) _⟩
theorem GS.s10 {B b : Nat} {w W : World} {s : PS} {nm : ByteArray} {x1 : Int} {x2 : Int} {vp : Value} {vs : Value} {fa : Bool} {ke : Bool} {ve : Value} {bl : Int} {qu : Int} {rp : Int} (h : GS B b w W s nm x1 x2 vp vs fa ke ve bl qu rp) (hb : b < w.heap.size) (hB : B ≤ w.heap.size) (z : Int) : GS B b w (W.setCell ⟨w.heap.size + 1, 10, none⟩ (.int .i64 z)) s nm x1 x2 vp vs fa ke ve bl qu z := ⟨h.1.far (by omega) hb hB 10 _, h.2.1.s10 z, h.2.2.other (by omega) _⟩
end Go.Proofs.YtomclohfppbegaaGreatDoor

set_option maxRecDepth 100000
namespace Go.Proofs.YtomclohfppbegaaGreatDoor
open Go.ChangeShapes Go.WideShapes Go.ChangeAt Go.RowKit
attribute [local go_sem ↓] Go.wp_at_zero Go.wp_at_succ

theorem psGo_len : ∀ (f : Nat) (s : PS), (psGo f s).1.length ≤ f
  | 0, _ => Nat.le_refl _
  | f + 1, s => by
    unfold psGo
    split
    · split
      · have := psGo_len f (headS s)
        simp only [List.length_cons]; omega
      · simp
    · simp
theorem promGo_len (ps : List PieceD) : ∀ (l : List (PieceD × List UInt8)) (s : PS), (promGo ps l s).1.length = l.length
  | [], _ => rfl
  | (x, wo) :: l, s => by simp only [promGo, List.length_cons]; rw [promGo_len ps l]
theorem piecesM_len (s : PS) : (piecesM s).1.length ≤ s.ls.length := by
  rw [piecesM, promGo_len]; exact psGo_len _ _
theorem PAt.len {W : World} {b : Nat} {s : PS} (h : PAt W b s) : s.ls.length ≤ 9000 := by
  obtain ⟨a, c, _, h1, h2, _⟩ := h
  omega
theorem side_range (x : List UInt8) (s : PS) : 0 ≤ (sideM x s).1 ∧ (sideM x s).1 ≤ 8 := by
  unfold sideM
  split
  · rename_i h; rw [inB_iff] at h; omega
  · simp
theorem pieces_k {B b : Nat} {w V : World} {σ : PS} (hE : Env B w) (hB : B ≤ b) (hV : StAt B b w V σ) : Calls Tryz.prog 59 #[.pointer (some ⟨b, 0, none⟩)] V (fun e w' => ∃ v, e = .returned v ∧ IsSl PieceT 4 w' v (piecesM σ).1 ∧ StAt B b V w' (piecesM σ).2) :=
  (pieces_par B b σ V hV.1 hB (hV.env hE)).mono fun _ _ ⟨v, h1, h2, h3, h4⟩ => ⟨v, h1, h2, h3, h4⟩
theorem ks_p {W W' : World} {v : Value} {xs : List PieceD} (h : IsSl PieceT 4 W v xs) (k : KS W W') : IsSl PieceT 4 W' v xs := isSl_map h fun _ _ _ hx => hx.kt k.1 k.2.1
theorem ks_i {W W' : World} {v : Value} {xs : List Int} (h : IsSl IntT 1 W v xs) (k : KS W W') : IsSl IntT 1 W' v xs := isSl_map h fun _ _ _ hx => hx.kt k.2.2.1
theorem ks_e {W W' : World} {v : Value} {xs : List EndD} (h : IsSl EndT 4 W v xs) (k : KS W W') : IsSl EndT 4 W' v xs := isSl_map h fun _ _ _ hx => hx.kt k.2.2.2
/-- What a line of one word leaves. -/
def Line1P (B b : Nat) (X : ByteArray) (s : PS) (w : World) (e : Ending) (w' : World) : Prop := ∃ g o c, e = .returned (.slice (some ⟨g, o, none⟩) 1 c) ∧ g ≠ b ∧ TyBlk w' g 9 ∧ 1 ≤ c ∧ w'.cell? ⟨g, o, none⟩ = some (.string X) ∧ StAt B b w w' s
theorem line1_k {B b : Nat} {w V : World} {σ : PS} (k : List UInt8) (hE : Env B w) (hB : B ≤ b) (hk : k.length ≤ 100) (hV : StAt B b w V σ) : Calls Tryz.prog 57 #[.pointer (some ⟨b, 0, none⟩), .string (str k), .int .i64 1] V (Line1P B b (str (wd (lineM k 1 σ).1 0)) (lineM k 1 σ).2 w) := by
  refine (line_par B b k 1 σ V hV.1 hk (by decide) hB (hV.env hE)).mono ?_
  rintro e w' ⟨a, c, rfl, hws, hp, hf⟩
  have hwl := (lineM_rd k 1 σ).2
  obtain ⟨c4, c9, g, o, rfl, hgb, htb, hcw, hsm⟩ := words_at hws hwl (by decide)
  have x0 := hcw 0 (by decide)
  rw [Nat.add_zero] at x0
  exact ⟨g, o, c, by rw [hwl], hgb, htb, c4, x0, hp, hV.2.trans hf⟩
theorem far_box {W : World} {g q : Nat} {nm : ByteArray} {x1 x2 : Int} {vp vs : Value} {fa ke : Bool} {ve : Value} {bl qu rp : Int} (ht : TyBlk W g 9) (hx : XBox W q nm x1 x2 vp vs fa ke ve bl qu rp) : g ≠ q := by
  intro e
  obtain ⟨cs, fr, hh⟩ := ht
  unfold XBox at hx
  rw [e, hx] at hh
  simp at hh
theorem far_cell {g q : Nat} (h : g ≠ q) (U : World) (i j : Nat) (u : Value) : (U.setCell ⟨q, i, none⟩ u).cell? ⟨g, j, none⟩ = U.cell? ⟨g, j, none⟩ := World.cell?_of_block (Below.heap_setCell U ⟨q, i, none⟩ u g h)
theorem wd_small {k : List UInt8} {σ : PS} {W : World} {b : Nat} (hp : PAt W b σ) : (wd (lineM k 1 σ).1 0).length ≤ 8192 := by
  obtain ⟨a, c, _, _, _, _, h4⟩ := hp
  unfold lineM
  split
  · rename_i hb
    obtain ⟨l, r, hl, _, _⟩ := beg_cases hb
    split
    · have h1 := (rest_small (k := k) (h4 l (by rw [hl]; simp))).1
      rw [hl]
      simp only [List.headD_cons]
      unfold wd
      cases hx : (restW k l)[0]? with
      | none => simp
      | some x => exact h1 x (List.mem_of_getElem? hx)
    · simp [wd]
  · simp [wd]
def RulesP (B b : Nat) (s : PS) (w : World) (e : Ending) (w' : World) : Prop := ∃ vp vs ve, e = .returned (RulesV (rulesM s) vp vs ve) ∧ IsSl PieceT 4 w' vp (rulesM s).pieces ∧ IsSl IntT 1 w' vs (rulesM s).start ∧ IsSl EndT 4 w' ve (rulesM s).ends ∧ StAt B b w w' (gA s).2
set_option maxHeartbeats 16000000 in
theorem rules_par (B b : Nat) (s : PS) (w : World) (h : PAt w b s) (hB : B ≤ b) (hE : Env B w) :
    Calls Tryz.prog 26 #[.pointer (some ⟨b, 0, none⟩)] w (RulesP B b s w) := by
  have hbw := h.lt
  have hBw : B ≤ w.heap.size := by omega
  have HE := Lib.hid hE
  obtain ⟨V, hV⟩ : ∃ V, V = (w.alloc (.cells (XCells ⟨#[]⟩ 0 0 (.slice none 0 0) (.slice none 0 0) false false (.slice none 0 0) 0 0 0) 26)).alloc (.cells (XCells ⟨#[]⟩ 0 0 (.slice none 0 0) (.slice none 0 0) false false (.slice none 0 0) 0 0 0) 26) := ⟨_, rfl⟩
  have hb1 := (Below.refl w.heap.size w).alloc (Nat.le_refl _) (.cells (XCells ⟨#[]⟩ 0 0 (.slice none 0 0) (.slice none 0 0) false false (.slice none 0 0) 0 0 0) 26)
  have HG0 : Hid (GS B b w V s ⟨#[]⟩ 0 0 (.slice none 0 0) (.slice none 0 0) false false (.slice none 0 0) 0 0 0) := Lib.hid (by
    rw [hV]
    refine ⟨(StAt.refl h).below (hb1.alloc (by simp) _) hB, ?_, ?_⟩
    · have := XBox.new (w.alloc (.cells (XCells ⟨#[]⟩ 0 0 (.slice none 0 0) (.slice none 0 0) false false (.slice none 0 0) 0 0 0) 26)) ⟨#[]⟩ 0 0 (.slice none 0 0) (.slice none 0 0) false false (.slice none 0 0) 0 0 0
      simpa using this
    · exact (Below.heap_alloc _ _ _ (by simp)).trans (heap_alloc_new w _))
  have HVW : Hid (_ = V) := Lib.hid hV.symm
  unfold XCells at HVW
  clear h hE hV hb1
  go_enter Tryz.func26, Tryz.ntmps26
  have HLN : Hid (Calls Tryz.prog 57 #[.pointer (some ⟨b, 0, none⟩), .string ⟨#[103, 97, 109, 101]⟩, .int .i64 (3 : Nat)] V (WordsP B b (g0 s).1 (g0 s).2 V)) := Lib.hid (line_par B b kGame 3 s V HG0.out.1.1 (by decide) (by decide) hB (HG0.out.1.env HE.out))
  go_wp2_with fail
  rw [HVW.out]
  go_at_call 57; refine HLN.out.mono ?_; rintro e W ⟨wa, wc, rfl, hws, hpW, hfW⟩
  have hwl : (g0 s).1.length = 3 := (lineM_rd kGame 3 s).2
  obtain ⟨c4, c9, g, o, rfl, hgb, htb, hcw, hsm⟩ := words_at hws hwl (by decide)
  rw [hwl]
  have x0 := hcw 0 (by decide)
  have x1 := hcw 1 (by decide)
  have x2 := hcw 2 (by decide)
  rw [Nat.add_zero] at x0
  have HG1 := Lib.hid (HG0.out.step ⟨hpW, hfW⟩ hbw)
  have HSD : Hid (StAt B b W W.drew (g0 s).2) := Lib.hid ((StAt.refl hpW).drew hB)
  have HEW : Hid (Env B W) := Lib.hid (HG1.out.1.env HE.out)
  have K1 : Hid (∀ U, StAt B b W U (g0 s).2 → Calls Tryz.prog 58 #[.pointer (some ⟨b, 0, none⟩), .string (str (wd (g0 s).1 1))] U (StP B b W (.int .i64 (g1 s).1) (g1 s).2)) := Lib.hid (fun U hU => par_st hU (side_par B b _ _ U hU.1 (hsm 1) hB (hU.env HEW.out)))
  have K2 : Hid (∀ U, StAt B b W U (g1 s).2 → Calls Tryz.prog 58 #[.pointer (some ⟨b, 0, none⟩), .string (str (wd (g0 s).1 2))] U (StP B b W (.int .i64 (g2 s).1) (g2 s).2)) := Lib.hid (fun U hU => par_st hU (side_par B b _ _ U hU.1 (hsm 2) hB (hU.env HEW.out)))
  have hge : g ≠ w.heap.size + 1 := by
    intro e
    obtain ⟨cs, fr, hh⟩ := htb
    have := HG1.out.2.1
    unfold XBox at this
    rw [e, this] at hh
    simp at hh
  have hst : ∀ (U : World) (i j : Nat) (u : Value), (U.setCell ⟨w.heap.size + 1, i, none⟩ u).cell? ⟨g, j, none⟩ = U.cell? ⟨g, j, none⟩ := fun U i j u => World.cell?_of_block (Below.heap_setCell U ⟨w.heap.size + 1, i, none⟩ u g hge)
  have HSM := Lib.hid hsm
  obtain ⟨Wn, hWn⟩ : ∃ n : Nat, (g1 s).1 = (n : Int) := Int.eq_ofNat_of_zero_le (side_range _ _).1
  obtain ⟨Hn, hHn⟩ : ∃ n : Nat, (g2 s).1 = (n : Int) := Int.eq_ofNat_of_zero_le (side_range _ _).1
  have hW8 : Wn ≤ 8 := by have h1 : (g1 s).1 ≤ 8 := (side_range _ _).2; omega
  have hH8 : Hn ≤ 8 := by have h1 : (g2 s).1 ≤ 8 := (side_range _ _).2; omega
  obtain ⟨X0, hX0⟩ : ∃ X, X = str (wd (g0 s).1 0) := ⟨_, rfl⟩
  obtain ⟨X1, hX1⟩ : ∃ X, X = str (wd (g0 s).1 1) := ⟨_, rfl⟩
  obtain ⟨X2, hX2⟩ : ∃ X, X = str (wd (g0 s).1 2) := ⟨_, rfl⟩
  rw [← hX0] at x0
  rw [← hX1] at x1
  rw [← hX2] at x2
  rw [← hX1, hWn] at K1
  rw [← hX2, hHn] at K2
  have HX0 := Lib.hid hX0
  have HWN := Lib.hid hWn
  have HHN := Lib.hid hHn
  have hxb : w.heap.size + 1 ≠ b := by omega
  clear hws hpW hfW hsm hcw hwl htb hWn hHn hX0 hX1 hX2 HLN HG0 HVW
  obtain ⟨⟨q0, q1, q2, -⟩, z0, z1, z2, -⟩ := HG1.out.2.1.facts
  go_wp2_with fail
  go_region_held3 (fun w' => w'.cell? ⟨g, o, none⟩ = some (.string X0) ∧ w'.cell? ⟨g, o + 1, none⟩ = some (.string X1) ∧ w'.cell? ⟨g, o + 2, none⟩ = some (.string X2)) (go_keep) (first
    | (go_at_call 58; refine (K2.out _ H1.out).mono ?_; rintro e W2 ⟨rfl, h2⟩; have HG2 := Lib.hid (HG1.out.step h2 hbw); obtain ⟨⟨q0, q1, q2, -⟩, z0, z1, z2, -⟩ := HG2.out.2.1.facts; have y0 := h2.2.cell hgb x0; have y1 := h2.2.cell hgb x1; have y2 := h2.2.cell hgb x2; clear h2)
    | (go_at_call 58; refine (K1.out _ HSD.out).mono ?_; rintro e W1 ⟨rfl, h1⟩; have H1 := Lib.hid h1; have HGA := Lib.hid (HG1.out.step h1 hbw); obtain ⟨⟨q0, q1, q2, -⟩, z0, z1, z2, -⟩ := HGA.out.2.1.facts; have y0 := h1.2.cell hgb x0; have y1 := h1.2.cell hgb x1; have y2 := h1.2.cell hgb x2; clear h1))
  have HG3 := Lib.hid (((HG2.out.s0 hbw hBw X0).s1 hbw hBw (Wn : Int)).s2 hbw hBw (Hn : Int))
  clear q0 q1 q2 z0 z1 z2 x0 x1 x2 y0 y1 y2 hst hge K1 K2 HSD HEW HG1 HG2 HGA H1
  generalize ((W2.setCell ⟨w.heap.size + 1, 0, none⟩ (.string X0)).setCell ⟨w.heap.size + 1, 1, none⟩ (.int .i64 (Wn : Int))).setCell ⟨w.heap.size + 1, 2, none⟩ (.int .i64 (Hn : Int)) = U3 at HG3 ⊢
  go_wp2_with fail
  go_at_call 59; refine (pieces_k (HG3.out.1.env HE.out) hB (StAt.refl HG3.out.1.1)).mono ?_; rintro e W4 ⟨vp, rfl, hsp, h4⟩
  have HG4 := Lib.hid (HG3.out.step h4 hbw)
  have hpl : (g3 s).1.length ≤ 9000 := Nat.le_trans (piecesM_len _) HG3.out.1.1.len
  have HFT : Hid (LettersFit (g3 s).1) := Lib.hid (piecesM_rd (g2 s).2).2
  obtain ⟨pn, hpn⟩ : ∃ n, n = (g3 s).1.length := ⟨_, rfl⟩
  obtain ⟨pa, pc, rfl, -, -⟩ := hsp.shape hpn
  have HPL := Lib.hid hpl
  have HSP : Hid (IsSl PieceT 4 W4 (.slice pa pn pc) (g3 s).1) := Lib.hid hsp
  obtain ⟨⟨q0, q1, q2, q3, q4, q5, q6, q7, q8, q9, q10⟩, -, -, -, z3, -⟩ := HG4.out.2.1.facts
  clear h4 hsp hpn hpl HG3
  go_wp2_with fail
  have HG4s := Lib.hid (HG4.out.s3 hbw hBw (.slice pa pn pc))
  have HSP4 : Hid (IsSl PieceT 4 (W4.setCell ⟨w.heap.size + 1, 3, none⟩ (.slice pa pn pc)) (.slice pa pn pc) (g3 s).1) := Lib.hid (isSl_map HSP.out fun _ _ _ hx => hx.kt (KS.set HG4.out.2.1.blk 3 _).1 (KS.set HG4.out.2.1.blk 3 _).2.1)
  clear q0 q1 q2 q3 q4 q5 q6 q7 q8 q9 q10 z3 HSP
  generalize W4.setCell ⟨w.heap.size + 1, 3, none⟩ (.slice pa pn pc) = U4 at HG4s HSP4 ⊢
  have HKR : Hid (Calls Tryz.prog 60 #[.pointer (some ⟨b, 0, none⟩), .agg #[.string X0, .int .i64 (Wn : Int), .int .i64 (Hn : Int), .slice pa pn pc, .slice none 0 0, .bool false, .bool false, .slice none 0 0, .int .i64 0, .int .i64 0, .int .i64 0]] U4 fun e w' => ∃ u, e = .returned u ∧ IsSl IntT 1 w' u (g4 s).1 ∧ StAt B b U4 w' (g4 s).2) := Lib.hid (by
    have h1 := rows_par B b ⟨X0, (Wn : Int), (Hn : Int), (g3 s).1, [], false, false, [], 0, 0, 0⟩ (.slice pa pn pc) (.slice none 0 0) (.slice none 0 0) (g3 s).2 U4 Wn Hn HG4s.out.1.1 hB (HG4s.out.1.env HE.out) HSP4.out HPL.out HFT.out rfl rfl hW8 hH8
    rw [show g4 s = rowsM (g3 s).1 Wn Hn (g3 s).2 by rw [g4, HWN.out, HHN.out]; rfl]
    exact h1)
  go_at_call 60; refine HKR.out.mono ?_; rintro e W5 ⟨vs, rfl, hss, h5⟩
  have HG5 := Lib.hid (HG4s.out.step h5 hbw)
  have HSP5 := Lib.hid (ks_p HSP4.out (KS.st HG4s.out.1.1 h5))
  obtain ⟨sn, hsn⟩ : ∃ n, n = (g4 s).1.length := ⟨_, rfl⟩
  obtain ⟨sa, sc, rfl, -, -⟩ := hss.shape hsn
  have HSS5 := Lib.hid hss
  obtain ⟨⟨-, -, -, -, q4, -⟩, -, -, -, -, z4, -⟩ := HG5.out.2.1.facts
  clear h5 hss hsn HG4s HSP4 HKR
  go_wp2_with fail
  have HG5s := Lib.hid (HG5.out.s4 hbw hBw (.slice sa sn sc))
  have HSP5s := Lib.hid (ks_p HSP5.out (KS.set HG5.out.2.1.blk 4 (.slice sa sn sc)))
  have HSS5s := Lib.hid (ks_i HSS5.out (KS.set HG5.out.2.1.blk 4 (.slice sa sn sc)))
  clear q4 z4 HSP5 HSS5 HG5
  generalize W5.setCell ⟨w.heap.size + 1, 4, none⟩ (.slice sa sn sc) = U5 at HG5s HSP5s HSS5s ⊢
  have HK5 : Hid (Calls Tryz.prog 61 #[.pointer (some ⟨b, 0, none⟩), .string ⟨#[102, 97, 108, 108, 115]⟩] U5 (StP B b U5 (.bool (g5 s).1) (g5 s).2)) := Lib.hid (par_st (StAt.refl HG5s.out.1.1) (flag_par B b kFalls _ U5 HG5s.out.1.1 (by decide) hB (HG5s.out.1.env HE.out)))
  go_at_call 61; refine HK5.out.mono ?_; rintro e W6 ⟨rfl, h6⟩
  have HG6 := Lib.hid (HG5s.out.step h6 hbw)
  have HSP6 := Lib.hid (ks_p HSP5s.out (KS.st HG5s.out.1.1 h6))
  have HSS6 := Lib.hid (ks_i HSS5s.out (KS.st HG5s.out.1.1 h6))
  obtain ⟨⟨-, -, -, -, -, q5, -⟩, -, -, -, -, -, z5, -⟩ := HG6.out.2.1.facts
  clear h6 HG5s HSP5s HSS5s HK5
  go_wp2_with fail
  have HG6s := Lib.hid (HG6.out.s5 hbw hBw (g5 s).1)
  have HSP6s := Lib.hid (ks_p HSP6.out (KS.set HG6.out.2.1.blk 5 (.bool (g5 s).1)))
  have HSS6s := Lib.hid (ks_i HSS6.out (KS.set HG6.out.2.1.blk 5 (.bool (g5 s).1)))
  clear q5 z5 HSP6 HSS6 HG6
  generalize W6.setCell ⟨w.heap.size + 1, 5, none⟩ (.bool (g5 s).1) = U6 at HG6s HSP6s HSS6s ⊢
  have HK6 : Hid (Calls Tryz.prog 61 #[.pointer (some ⟨b, 0, none⟩), .string ⟨#[107, 101, 101, 112, 115]⟩] U6 (StP B b U6 (.bool (g6 s).1) (g6 s).2)) := Lib.hid (par_st (StAt.refl HG6s.out.1.1) (flag_par B b kKeeps _ U6 HG6s.out.1.1 (by decide) hB (HG6s.out.1.env HE.out)))
  go_at_call 61; refine HK6.out.mono ?_; rintro e W7 ⟨rfl, h7⟩
  have HG7 := Lib.hid (HG6s.out.step h7 hbw)
  have HSP7 := Lib.hid (ks_p HSP6s.out (KS.st HG6s.out.1.1 h7))
  have HSS7 := Lib.hid (ks_i HSS6s.out (KS.st HG6s.out.1.1 h7))
  obtain ⟨⟨-, -, -, q3, -, -, q6, -⟩, -, -, -, -, -, -, z6, -⟩ := HG7.out.2.1.facts
  clear h7 HG6s HSP6s HSS6s HK6
  go_wp2_with fail
  have HG7s := Lib.hid (HG7.out.s6 hbw hBw (g6 s).1)
  have HSP7s := Lib.hid (ks_p HSP7.out (KS.set HG7.out.2.1.blk 6 (.bool (g6 s).1)))
  have HSS7s := Lib.hid (ks_i HSS7.out (KS.set HG7.out.2.1.blk 6 (.bool (g6 s).1)))
  clear q3 q6 z6 HSP7 HSS7 HG7
  generalize W7.setCell ⟨w.heap.size + 1, 6, none⟩ (.bool (g6 s).1) = U7 at HG7s HSP7s HSS7s ⊢
  have HK7 : Hid (Calls Tryz.prog 62 #[.pointer (some ⟨b, 0, none⟩), .slice pa pn pc] U7 fun e w' => ∃ u, e = .returned u ∧ IsSl EndT 4 w' u (g7 s).1 ∧ StAt B b U7 w' (g7 s).2) := Lib.hid (ends_par B b (g3 s).1 (.slice pa pn pc) (g6 s).2 U7 HG7s.out.1.1 hB (HG7s.out.1.env HE.out) HSP7s.out HPL.out HFT.out)
  go_at_call 62; refine HK7.out.mono ?_; rintro e W8 ⟨ve, rfl, hee, h8⟩
  have HG8 := Lib.hid (HG7s.out.step h8 hbw)
  have HSP8 := Lib.hid (ks_p HSP7s.out (KS.st HG7s.out.1.1 h8))
  have HSS8 := Lib.hid (ks_i HSS7s.out (KS.st HG7s.out.1.1 h8))
  obtain ⟨en, hen⟩ : ∃ n, n = (g7 s).1.length := ⟨_, rfl⟩
  obtain ⟨ea, ec, rfl, -, -⟩ := hee.shape hen
  have HEE8 := Lib.hid hee
  obtain ⟨⟨-, -, -, -, -, -, -, q7, -⟩, -, -, -, -, -, -, -, z7, -⟩ := HG8.out.2.1.facts
  clear h8 hee hen HG7s HSP7s HSS7s HK7
  go_wp2_with fail
  have HG8s := Lib.hid (HG8.out.s7 hbw hBw (.slice ea en ec))
  have HSP8s := Lib.hid (ks_p HSP8.out (KS.set HG8.out.2.1.blk 7 (.slice ea en ec)))
  have HSS8s := Lib.hid (ks_i HSS8.out (KS.set HG8.out.2.1.blk 7 (.slice ea en ec)))
  have HEE8s := Lib.hid (ks_e HEE8.out (KS.set HG8.out.2.1.blk 7 (.slice ea en ec)))
  clear q7 z7 HSP8 HSS8 HEE8 HG8
  generalize W8.setCell ⟨w.heap.size + 1, 7, none⟩ (.slice ea en ec) = U8 at HG8s HSP8s HSS8s HEE8s ⊢
  have HSD8 : Hid (StAt B b U8 U8.drew (g7 s).2) := Lib.hid ((StAt.refl HG8s.out.1.1).drew hB)
  have HE8 : Hid (Env B U8) := Lib.hid (HG8s.out.1.env HE.out)
  obtain ⟨X8, hX8⟩ : ∃ X, X = str (wd (lineM kBlocked 1 (g7 s).2).1 0) := ⟨_, rfl⟩
  have KL8 : Hid (∀ U, StAt B b U8 U (g7 s).2 → Calls Tryz.prog 57 #[.pointer (some ⟨b, 0, none⟩), .string ⟨#[98, 108, 111, 99, 107, 101, 100]⟩, .int .i64 1] U (Line1P B b X8 (lineM kBlocked 1 (g7 s).2).2 U8)) := Lib.hid (fun U hU => by rw [hX8]; exact line1_k kBlocked HE8.out hB (by decide) hU)
  have KC8 : Hid (∀ U gt, StAt B b U8 U (lineM kBlocked 1 (g7 s).2).2 → WBlk U gt wBlk → Calls Tryz.prog 63 #[.pointer (some ⟨b, 0, none⟩), .string X8, .slice (some ⟨gt, 0, none⟩) 3 3] U (StP B b U (.int .i64 (g8 s).1) (g8 s).2)) := Lib.hid (fun U gt hU hwb => by rw [hX8]; exact par_st (StAt.refl hU.1) (choice_par B b gt _ wBlk _ U hU.1 hwb hB (by decide)))
  clear hX8
  go_wp2_with fail
  refine wp_region_held_drew (S := fun _ => True) (by kernel_rfl) trivial (fun hHeld => ?_)
  refine wpAnyH_take (i := 0) (v := ?_) rfl (by kernel_rfl) (by kernel_rfl) (by kernel_rfl) (fun _ _ _ h => h) (Or.inl ⟨by rfl, ?_⟩) (by assumption) ?_
  rotate_left
  · intro w hSw
    (try dsimp only at hSw)
    go_simp
    all_goals with_reducible rfl
  simp only [Act.put, List.setIfInBounds_toArray, List.set_cons_zero, List.set_cons_succ, List.getElem_toArray, List.getElem_cons_zero]
  refine wpAnyH_take (i := 1) (v := ?_) rfl (by kernel_rfl) (by kernel_rfl) (by kernel_rfl) (fun _ _ _ h => h) (Or.inl ⟨by rfl, ?_⟩) (by assumption) ?_
  rotate_left
  · intro w hSw
    (try dsimp only at hSw)
    go_simp
    all_goals with_reducible rfl
  simp only [Act.put, List.setIfInBounds_toArray, List.set_cons_zero, List.set_cons_succ, List.getElem_toArray, List.getElem_cons_zero, List.getElem_cons_succ]
  refine wpAnyH_ready (rs := [2]) (by kernel_rfl) (by simp) (AllReadyH.cons rfl (fun K hK => ?_) AllReadyH.nil)
  go_simp
  go_at_call 57; refine (KL8.out _ HSD8.out).mono ?_; rintro e W9 ⟨gk9, o9, n9, rfl, hg9, ht9, hn9, x9, h9⟩; have H9 := Lib.hid h9; have hge9 := far_box ht9 (HG8s.out.step h9 hbw).2.1; clear h9 ht9
  refine hK.out _ _ ?_ (fun hHeld => ?_)
  · go_keep
  clear hK K
  try simp only [Act.put, List.setIfInBounds_toArray, List.set_cons_zero, List.set_cons_succ, List.getElem_toArray, List.getElem_cons_zero, List.getElem_cons_succ]
  refine held_weaken (S' := fun w' => w'.cell? ⟨gk9, o9, none⟩ = some (.string X8)) (fun _ _ => trivial) _ _ _ _ ?_
  clear hHeld
  have hHeld := x9
  refine wpAnyH_take (i := 3) (v := ?_) rfl (by kernel_rfl) (by kernel_rfl) (by kernel_rfl) (fun _ _ _ h => h) (Or.inl ⟨by rfl, ?_⟩) (by assumption) ?_
  rotate_left
  · intro w hSw
    (try dsimp only at hSw)
    go_simp
    all_goals with_reducible rfl
  simp only [Act.put, List.setIfInBounds_toArray, List.set_cons_zero, List.set_cons_succ, List.getElem_toArray, List.getElem_cons_zero, List.getElem_cons_succ]
  refine wpAnyH_take (i := 4) (v := ?_) rfl (by kernel_rfl) (by kernel_rfl) (by kernel_rfl) (fun _ _ _ h => h) (Or.inl ⟨by rfl, ?_⟩) (by assumption) ?_
  rotate_left
  · intro w hSw
    (try dsimp only at hSw)
    go_simp
    all_goals with_reducible rfl
  simp only [Act.put, List.setIfInBounds_toArray, List.set_cons_zero, List.set_cons_succ, List.getElem_toArray, List.getElem_cons_zero, List.getElem_cons_succ]
  refine wpAnyH_ready (rs := [5]) (by kernel_rfl) (by simp) (AllReadyH.cons rfl (fun K hK => ?_) AllReadyH.nil)
  go_simp
  go_at_call 22; refine (blockedWords_any _).mono ?_; rintro e WA ⟨gt, rfl, hwd, hbA⟩; have x9 := cell_keeps hbA (Nat.le_refl _) x9; have HA9 := Lib.hid (H9.out.below hbA hB); have HWA := Lib.hid hwd; clear hwd hbA
  refine hK.out _ _ ?_ (fun hHeld => ?_)
  · go_keep
  clear hK K
  try simp only [Act.put, List.setIfInBounds_toArray, List.set_cons_zero, List.set_cons_succ, List.getElem_toArray, List.getElem_cons_zero, List.getElem_cons_succ]
  refine wpAnyH_ready (rs := [6]) (by kernel_rfl) (by simp) (AllReadyH.cons rfl (fun K hK => ?_) AllReadyH.nil)
  go_simp
  go_at_call 63; refine (KC8.out _ gt HA9.out HWA.out).mono ?_; rintro e WB ⟨rfl, hB9⟩; have x9 := hB9.2.cell (a := ⟨gk9, o9, none⟩) hg9 x9; have HU9 : Hid (StAt B b U8 WB (g8 s).2) := Lib.hid (HA9.out.trans hB9); have HGB := Lib.hid (HG8s.out.step HU9.out hbw); obtain ⟨⟨-, -, -, -, -, -, -, -, q8, -⟩, -, -, -, -, -, -, -, -, z8, -⟩ := HGB.out.2.1.facts; clear hB9
  refine hK.out _ _ ?_ (fun hHeld => ?_)
  · go_keep
  clear hK K
  try simp only [Act.put, List.setIfInBounds_toArray, List.set_cons_zero, List.set_cons_succ, List.getElem_toArray, List.getElem_cons_zero, List.getElem_cons_succ]
  have hst9 := far_cell hge9
  refine wpAnyH_take (i := 7) (v := ?_) rfl (by kernel_rfl) (by kernel_rfl) (by kernel_rfl) (fun _ _ _ h => h) (Or.inl ⟨by rfl, ?_⟩) (by assumption) ?_
  rotate_left
  · intro w hSw
    (try dsimp only at hSw)
    go_simp
    all_goals with_reducible rfl
  simp only [Act.put, List.setIfInBounds_toArray, List.set_cons_zero, List.set_cons_succ, List.getElem_toArray, List.getElem_cons_zero, List.getElem_cons_succ]
  refine wpAnyH_ready (rs := [8]) (by kernel_rfl) (by simp) (AllReadyH.cons rfl (fun K hK => ?_) AllReadyH.nil)
  go_simp
  skip
  refine hK.out _ _ ?_ (fun hHeld => ?_)
  · go_keep
  clear hK K
  try simp only [Act.put, List.setIfInBounds_toArray, List.set_cons_zero, List.set_cons_succ, List.getElem_toArray, List.getElem_cons_zero, List.getElem_cons_succ]
  refine wpAnyH_done (by kernel_rfl) ?_ _
  have HG9 := Lib.hid (HGB.out.s8 hbw hBw (g8 s).1)
  have HSP9 := Lib.hid (ks_p (ks_p HSP8s.out (KS.st HG8s.out.1.1 HU9.out)) (KS.set HGB.out.2.1.blk 8 (.int .i64 (g8 s).1)))
  have HSS9 := Lib.hid (ks_i (ks_i HSS8s.out (KS.st HG8s.out.1.1 HU9.out)) (KS.set HGB.out.2.1.blk 8 (.int .i64 (g8 s).1)))
  have HEE9 := Lib.hid (ks_e (ks_e HEE8s.out (KS.st HG8s.out.1.1 HU9.out)) (KS.set HGB.out.2.1.blk 8 (.int .i64 (g8 s).1)))
  clear q8 z8 HSP8s HSS8s HEE8s HG8s HGB HU9 H9 HA9 HWA KL8 KC8 hst9 hge9 x9 hHeld HSD8 HE8 hg9 hn9
  generalize WB.setCell ⟨w.heap.size + 1, 8, none⟩ (.int .i64 (g8 s).1) = U9 at HG9 HSP9 HSS9 HEE9 ⊢
  obtain ⟨X9, hX9⟩ : ∃ X, X = str (wd (lineM kQuiet 1 (g8 s).2).1 0) := ⟨_, rfl⟩
  have KL9 : Hid (Calls Tryz.prog 57 #[.pointer (some ⟨b, 0, none⟩), .string ⟨#[113, 117, 105, 101, 116]⟩, .int .i64 1] U9 (Line1P B b X9 (lineM kQuiet 1 (g8 s).2).2 U9)) := Lib.hid (by rw [hX9]; exact line1_k kQuiet (HG9.out.1.env HE.out) hB (by decide) (StAt.refl HG9.out.1.1))
  have KN9 : Hid (∀ U, StAt B b U9 U (lineM kQuiet 1 (g8 s).2).2 → Calls Tryz.prog 64 #[.pointer (some ⟨b, 0, none⟩), .string X9] U (StP B b U9 (.int .i64 (g9 s).1) (g9 s).2)) := Lib.hid (fun U hU => by rw [hX9]; exact number_k (HG9.out.1.env HE.out) hB (wd_small HG9.out.1.1) hU)
  clear hX9
  go_wp2_with fail
  go_at_call 57; refine KL9.out.mono ?_; rintro e WC ⟨gC, oC, nC, rfl, hgC, -, hnC, xC, hC⟩
  have HC := Lib.hid hC
  clear hC
  go_wp2_with fail
  go_at_call 64; refine (KN9.out _ HC.out).mono ?_; rintro e WD ⟨rfl, hD⟩
  have HGD := Lib.hid (HG9.out.step hD hbw)
  have HSPD := Lib.hid (ks_p HSP9.out (KS.st HG9.out.1.1 hD))
  have HSSD := Lib.hid (ks_i HSS9.out (KS.st HG9.out.1.1 hD))
  have HEED := Lib.hid (ks_e HEE9.out (KS.st HG9.out.1.1 hD))
  obtain ⟨⟨-, -, -, -, -, -, -, -, -, q9, -⟩, -, -, -, -, -, -, -, -, -, z9, -⟩ := HGD.out.2.1.facts
  clear hD HG9 HSP9 HSS9 HEE9 KL9 KN9 xC HC hgC hnC
  go_wp2_with fail
  have HGE := Lib.hid (HGD.out.s9 hbw hBw (g9 s).1)
  have HSPE := Lib.hid (ks_p HSPD.out (KS.set HGD.out.2.1.blk 9 (.int .i64 (g9 s).1)))
  have HSSE := Lib.hid (ks_i HSSD.out (KS.set HGD.out.2.1.blk 9 (.int .i64 (g9 s).1)))
  have HEEE := Lib.hid (ks_e HEED.out (KS.set HGD.out.2.1.blk 9 (.int .i64 (g9 s).1)))
  clear q9 z9 HGD HSPD HSSD HEED
  generalize WD.setCell ⟨w.heap.size + 1, 9, none⟩ (.int .i64 (g9 s).1) = UE at HGE HSPE HSSE HEEE ⊢
  obtain ⟨XE, hXE⟩ : ∃ X, X = str (wd (lineM kRepeat 1 (g9 s).2).1 0) := ⟨_, rfl⟩
  have KLE : Hid (Calls Tryz.prog 57 #[.pointer (some ⟨b, 0, none⟩), .string ⟨#[114, 101, 112, 101, 97, 116]⟩, .int .i64 1] UE (Line1P B b XE (lineM kRepeat 1 (g9 s).2).2 UE)) := Lib.hid (by rw [hXE]; exact line1_k kRepeat (HGE.out.1.env HE.out) hB (by decide) (StAt.refl HGE.out.1.1))
  have KNE : Hid (∀ U, StAt B b UE U (lineM kRepeat 1 (g9 s).2).2 → Calls Tryz.prog 64 #[.pointer (some ⟨b, 0, none⟩), .string XE] U (StP B b UE (.int .i64 (gA s).1) (gA s).2)) := Lib.hid (fun U hU => by rw [hXE]; exact number_k (HGE.out.1.env HE.out) hB (wd_small HGE.out.1.1) hU)
  clear hXE
  go_at_call 57; refine KLE.out.mono ?_; rintro e WF ⟨gF, oF, nF, rfl, hgF, -, hnF, xF, hF⟩
  have HF := Lib.hid hF
  clear hF
  go_wp2_with fail
  go_at_call 64; refine (KNE.out _ HF.out).mono ?_; rintro e WG ⟨rfl, hG⟩
  have HGG := Lib.hid (HGE.out.step hG hbw)
  have HSPG := Lib.hid (ks_p HSPE.out (KS.st HGE.out.1.1 hG))
  have HSSG := Lib.hid (ks_i HSSE.out (KS.st HGE.out.1.1 hG))
  have HEEG := Lib.hid (ks_e HEEE.out (KS.st HGE.out.1.1 hG))
  obtain ⟨⟨q0, q1, q2, q3, q4, q5, q6, q7, q8, q9, q10⟩, -, -, -, -, -, -, -, -, -, -, z10⟩ := HGG.out.2.1.facts
  obtain ⟨⟨r0, r1, r2, r3, r4, r5, r6, r7, r8, r9, r10⟩, y0, y1, y2, y3, y4, y5, y6, y7, y8, y9, y10⟩ := HGG.out.2.2.facts
  clear hG HGE HSPE HSSE HEEE KLE KNE xF HF hgF hnF
  go_wp2_with fail
  have hne : w.heap.size ≠ w.heap.size + 1 := by omega
  have HRF := (HGG.out.2.2.other (c := w.heap.size + 1) (i := 10) hne (.int .i64 (gA s).1)).fill X0 (Wn : Int) (Hn : Int) (.slice pa pn pc) (.slice sa sn sc) (g5 s).1 (g6 s).1 (.slice ea en ec) (g8 s).1 (g9 s).1 (gA s).1
  have hblk : RBlk (WG.setCell ⟨w.heap.size + 1, 10, none⟩ (.int .i64 (gA s).1)) w.heap.size := (HGG.out.2.2.other (c := w.heap.size + 1) (i := 10) hne (.int .i64 (gA s).1)).blk
  have hks := (KS.set HGG.out.2.1.blk 10 (.int .i64 (gA s).1)).trans (KS.fill hblk (.string X0) (.int .i64 (Wn : Int)) (.int .i64 (Hn : Int)) (.slice pa pn pc) (.slice sa sn sc) (.bool (g5 s).1) (.bool (g6 s).1) (.slice ea en ec) (.int .i64 (g8 s).1) (.int .i64 (g9 s).1) (.int .i64 (gA s).1))
  have hsf := (HGG.out.1.far (q := w.heap.size + 1) (by omega) hbw hBw 10 (.int .i64 (gA s).1)).fillX (q := w.heap.size) (Nat.le_refl _) hbw hBw (.string X0) (.int .i64 (Wn : Int)) (.int .i64 (Hn : Int)) (.slice pa pn pc) (.slice sa sn sc) (.bool (g5 s).1) (.bool (g6 s).1) (.slice ea en ec) (.int .i64 (g8 s).1) (.int .i64 (g9 s).1) (.int .i64 (gA s).1)
  refine bodyPost_ret (results_cell_row rfl _ _ w.heap.size 26 _ (0, 0) _ rfl HRF Tryz.underlying26 rfl (by kernel_rfl)) rfl ?_
  refine ⟨.slice pa pn pc, .slice sa sn sc, .slice ea en ec, ?_, ks_p HSPG.out hks, ks_i HSSG.out hks, ks_e HEEG.out hks, hsf⟩
  show Ending.returned (.agg (XCells X0 (Wn : Int) (Hn : Int) _ _ _ _ _ _ _ _)) = _
  rw [← HWN.out, ← HHN.out, HX0.out]
  rfl
end Go.Proofs.YtomclohfppbegaaGreatDoor

set_option maxRecDepth 100000
namespace Go.Proofs.YtomclohfppbegaaGreatDoor
open Go.ChangeShapes Go.WideShapes Go.ChangeAt Go.RowKit

theorem results_row_tmpT {P : Program} {fn : Func} {p u : Tmp} {ty : TypeId} (h : fn.results = #[.cell p ty, .tmp u]) (tmps : Array Value) (w : World) (g : Nat) (t : TypeId) (cs : Array Value) (fr : Nat × Nat) (d : TypeDesc)
    (hp : tmps.getD p undef = .pointer (some ⟨g, 0, none⟩)) (hg : w.heap[g]? = some (.cells cs t fr))
    (hu : P.underlying ty = some d) (hd : (match d with | .struct _ | .array _ _ => true | _ => false) = true) (hi : (P.info? ty).map (·.size) = some cs.size) :
    (results fn tmps).run P w = .ok (.tuple #[.agg cs, tmps.getD u undef]) w := by
  rw [results_cell_tmp h, hp]
  simp [asAddr, run_loadVar_row w g t ty cs fr d hg hu hd hi, Result.andThen]
def zeroD : RulesD := { name := ⟨#[]⟩, width := 0, height := 0, pieces := [], start := [], falls := false, keeps := false, ends := [], blocked := 0, quiet := 0, rep := 0 }
def parseR (l : List UInt8) : RulesD := if parseE l = 0 then rulesM (ok0 (linesB l)) else zeroD
def ParseP (l : List UInt8) (w : World) (e : Ending) (w' : World) : Prop := ∃ vp vs ve, e = .returned (.tuple #[RulesV (parseR l) vp vs ve, .int .i64 (parseE l)]) ∧ RulesIn w' (parseR l) vp vs ve ∧ LettersFit (parseR l).pieces ∧ Below w.heap.size w w'
theorem below_fillX {B q : Nat} {w W : World} (h : Below B w W) (hq : B ≤ q) (u0 u1 u2 u3 u4 u5 u6 u7 u8 u9 u10 : Value) : Below B w (fillX W q u0 u1 u2 u3 u4 u5 u6 u7 u8 u9 u10) := (((((((((((h.setCell (p := ⟨q, 0, none⟩) hq u0).setCell (p := ⟨q, 1, none⟩) hq u1).setCell (p := ⟨q, 2, none⟩) hq u2).setCell (p := ⟨q, 3, none⟩) hq u3).setCell (p := ⟨q, 4, none⟩) hq u4).setCell (p := ⟨q, 5, none⟩) hq u5).setCell (p := ⟨q, 6, none⟩) hq u6).setCell (p := ⟨q, 7, none⟩) hq u7).setCell (p := ⟨q, 8, none⟩) hq u8).setCell (p := ⟨q, 9, none⟩) hq u9).setCell (p := ⟨q, 10, none⟩) hq u10)
theorem zero_post {l : List UInt8} {w F : World} {n : Int} (hn : parseE l = n) (h0 : n ≠ 0) (hF : Below w.heap.size w F) : ParseP l w (.returned (.tuple #[.agg (XCells ⟨#[]⟩ 0 0 (.slice none 0 0) (.slice none 0 0) false false (.slice none 0 0) 0 0 0), .int .i64 n])) F := by
  have e : parseR l = zeroD := by rw [parseR, if_neg (by rw [hn]; exact h0)]
  refine ⟨.slice none 0 0, .slice none 0 0, .slice none 0 0, ?_, ?_, ?_, hF⟩
  · rw [e, hn]; rfl
  · rw [e]; exact ⟨⟨.inl ⟨rfl, _, _, rfl⟩, .inl ⟨rfl, _, _, rfl⟩, .inl ⟨rfl, _, _, rfl⟩⟩, by decide⟩
  · rw [e]; intro x hx; cases hx
theorem wd_len {k : List UInt8} {n i : Nat} {σ : PS} (h4 : ∀ x ∈ σ.ls, x.length ≤ 8192) : (wd (lineM k n σ).1 i).length ≤ 8192 := by
  have key : ∀ m, (wd (List.replicate m ([] : List UInt8)) i).length ≤ 8192 := by
    intro m
    unfold wd
    cases hx : (List.replicate m ([] : List UInt8))[i]? with
    | none => simp
    | some x => rw [List.eq_of_mem_replicate (List.mem_of_getElem? hx)]; simp
  unfold lineM
  split
  · rename_i hb
    obtain ⟨l, r, hl, _, _⟩ := beg_cases hb
    split
    · have h1 := (rest_small (k := k) (h4 l (by rw [hl]; simp))).1
      rw [hl]
      simp only [List.headD_cons]
      unfold wd
      cases hx : (restW k l)[i]? with
      | none => simp
      | some x => exact h1 x (List.mem_of_getElem? hx)
    · exact key n
  · exact key n
theorem lines_small {l : List UInt8} (hl : l.length ≤ 8192) : (∀ x ∈ linesB l, x.length ≤ 8192) ∧ (linesB l).length ≤ 8193 := by
  have h1 : (Lib.trimSuffix l [10]).length ≤ 8192 := by
    unfold Lib.trimSuffix
    split
    · rw [List.length_take]; omega
    · exact hl
  refine ⟨fun x hx => cut_small h1 x hx, ?_⟩
  have := cut_len 10 (Lib.trimSuffix l [10])
  rw [linesB]; omega
def okB (l : List UInt8) : Bool := Lib.hasSuffix l [10] && (!(gA (ok0 (linesB l))).2.bad && decide ((gA (ok0 (linesB l))).2.ls.length = 0))
theorem parse_no {l : List UInt8} (hl : l.length ≤ 8192) (h : okB l = false) : parseE l = 5 := by
  rw [parseE, if_neg (by omega), if_neg]
  intro e; rw [okB] at h; rw [e] at h; cases h
theorem parse_yes {l : List UInt8} (hl : l.length ≤ 8192) (h : okB l = true) : parseE l = rulesE (rulesM (ok0 (linesB l))) := by
  rw [parseE, if_neg (by omega), if_pos (by rw [okB] at h; exact h)]
set_option maxHeartbeats 8000000 in
theorem parse_big (l : List UInt8) (S : ByteArray) (w : World) (hS : S = str l) (hb : 8192 < S.size) :
    Calls Tryz.prog 6 #[.string S] w (ParseP l w) := by
  have HP : Hid (parseE l = 2) := Lib.hid (by rw [parseE, if_pos (by rw [hS, str_size] at hb; exact hb)])
  have HX : Hid (XBox (w.alloc (.cells (XCells ⟨#[]⟩ 0 0 (.slice none 0 0) (.slice none 0 0) false false (.slice none 0 0) 0 0 0) 26)) w.heap.size ⟨#[]⟩ 0 0 (.slice none 0 0) (.slice none 0 0) false false (.slice none 0 0) 0 0 0) := Lib.hid (XBox.new w ⟨#[]⟩ 0 0 (.slice none 0 0) (.slice none 0 0) false false (.slice none 0 0) 0 0 0)
  have HB : Hid (Below w.heap.size w (w.alloc (.cells (XCells ⟨#[]⟩ 0 0 (.slice none 0 0) (.slice none 0 0) false false (.slice none 0 0) 0 0 0) 26))) := Lib.hid ((Below.refl _ _).alloc (Nat.le_refl _) _)
  have hbi : (8192 : Int) < (S.size : Int) := by omega
  clear hS
  go_enter Tryz.func6, Tryz.ntmps6
  go_wp2_with fail
  refine bodyPost_ret (results_row_tmpT rfl _ _ w.heap.size 26 _ (0, 0) _ rfl HX.out Tryz.underlying26 rfl (by kernel_rfl)) rfl ?_
  exact zero_post HP.out (by decide) HB.out
set_option maxHeartbeats 8000000 in
theorem parse_small (l : List UInt8) (S : ByteArray) (w : World) (hS : S = str l) (hb : S.size ≤ 8192) (hE : Env w.heap.size w) :
    Calls Tryz.prog 6 #[.string S] w (ParseP l w) := by
  have hl : l.length ≤ 8192 := by rw [hS, str_size] at hb; exact hb
  obtain ⟨hls1, hls2⟩ := lines_small hl
  obtain ⟨V0, hV0⟩ : ∃ V, V = w.alloc (.cells #[.string ⟨#[]⟩, .int .i64 0, .int .i64 0, .slice none 0 0, .slice none 0 0, .bool false, .bool false, .slice none 0 0, .int .i64 0, .int .i64 0, .int .i64 0] 26) := ⟨_, rfl⟩
  have hX0 : XBox V0 w.heap.size ⟨#[]⟩ 0 0 (.slice none 0 0) (.slice none 0 0) false false (.slice none 0 0) 0 0 0 := by rw [hV0]; exact XBox.new w ⟨#[]⟩ 0 0 (.slice none 0 0) (.slice none 0 0) false false (.slice none 0 0) 0 0 0
  have hB0 : Below w.heap.size w V0 := by rw [hV0]; exact (Below.refl _ _).alloc (Nat.le_refl _) _
  have hs0 : V0.heap.size = w.heap.size + 1 := by rw [hV0]; simp
  obtain ⟨X, hX⟩ : ∃ X, X = str (Lib.trimSuffix l [10]) := ⟨_, rfl⟩
  obtain ⟨en, hen⟩ : ∃ e, e = Lib.hasSuffix l [10] := ⟨_, rfl⟩
  have HCS : Hid (Calls Tryz.prog 24 #[.string S, .string ⟨#[10]⟩] V0 fun e w' => e = .returned (.tuple #[.string X, .bool en]) ∧ V0 = w') := Lib.hid (by
    have h1 := Tryz.strings_CutSuffix S ⟨#[10]⟩ V0 (by omega)
    rw [hX, hen]
    have e1 : S.data.toList = l := by rw [hS, data_str]
    rw [e1] at h1
    exact turned h1)
  obtain ⟨m, hm⟩ : ∃ m, m = (linesB l).length := ⟨_, rfl⟩
  obtain ⟨V1, hV1⟩ : ∃ V, V = V0.alloc (.cells ((linesB l).map fun x => Value.string (str x)).toArray 9) := ⟨_, rfl⟩
  have HSP : Hid (Calls Tryz.prog 25 #[.string X, .string ⟨#[10]⟩] V0 fun e w' => e = .returned (.slice (some ⟨V0.heap.size, 0, none⟩) m m) ∧ V1 = w') := Lib.hid (by
    have hxl : (Lib.trimSuffix l [10]).length ≤ 8192 := by
      unfold Lib.trimSuffix
      split
      · rw [List.length_take]; omega
      · exact hl
    have h1 := split_any 10 X V0 (by rw [hX, str_size]; omega) (hE.below hB0)
    rw [hX, data_str] at h1
    rw [hX, hm, hV1]
    exact h1.mono (fun e w' h => ⟨h.1, h.2.symm⟩))
  have hB1 : Below V0.heap.size V0 V1 := by rw [hV1]; exact (Below.refl _ _).alloc (Nat.le_refl _) _
  have hs1 : V1.heap.size = w.heap.size + 2 := by rw [hV1]; simp; omega
  have hL1 : V1.heap[V0.heap.size]? = some (.cells ((linesB l).map fun x => Value.string (str x)).toArray 9 (0, 0)) := by rw [hV1]; exact heap_alloc_new V0 _
  obtain ⟨b, hbb⟩ : ∃ b, b = V1.heap.size := ⟨_, rfl⟩
  obtain ⟨G, hG⟩ : ∃ G, G = V0.heap.size := ⟨_, rfl⟩
  obtain ⟨V2, hV2⟩ : ∃ V, V = V1.alloc (.cells #[.slice (some ⟨G, 0, none⟩) m m, .bool false] 75) := ⟨_, rfl⟩
  have hB2 : Below V1.heap.size V1 V2 := by rw [hV2]; exact (Below.refl _ _).alloc (Nat.le_refl _) _
  have hPA : PAt V2 b (ok0 (linesB l)) := by
    refine ⟨some ⟨G, 0, none⟩, m, ?_, by show (linesB l).length ≤ m; omega, by omega, fun _ => ⟨G, 0, rfl, by omega, ⟨((linesB l).map fun x => Value.string (str x)).toArray, (0, 0), ?_⟩, fun i x hx => ?_⟩, hls1⟩
    · have := heap_alloc_new V1 (.cells #[.slice (some ⟨G, 0, none⟩) m m, .bool false] 75)
      rw [← hV2, ← hbb] at this
      unfold ParBox
      rw [show (ok0 (linesB l)).ls.length = m from hm.symm]
      exact this
    · rw [hG]; exact (hB2.block _ (by omega)).trans hL1
    · have h2 := (hB2.block V0.heap.size (by omega)).trans hL1
      rw [hG, Nat.zero_add, cell_of_row V2 V0.heap.size i _ _ (0, 0) h2, List.getElem?_toArray, List.getElem?_map]
      rw [show (ok0 (linesB l)).ls = linesB l from rfl] at hx
      rw [hx]; rfl
  have hBB : Below w.heap.size w V2 := (hB0.trans (hB1.mono (by omega))).trans (hB2.mono (by omega))
  obtain ⟨r, hr⟩ : ∃ r, r = rulesM (ok0 (linesB l)) := ⟨_, rfl⟩
  have hnm : r.name.size ≤ 8192 := by
    rw [hr]
    show (str (wd (g0 (ok0 (linesB l))).1 0)).size ≤ 8192
    rw [str_size]; exact wd_len hls1
  have hft : LettersFit r.pieces := by rw [hr]; exact (piecesM_rd (g2 (ok0 (linesB l))).2).2
  have hpe : okB l = (en && (!(gA (ok0 (linesB l))).2.bad && decide ((gA (ok0 (linesB l))).2.ls.length = 0))) := by rw [okB, hen]
  have hpn := parse_no hl
  have hpy := parse_yes hl
  rw [← hr] at hpy
  have hRU := rules_par w.heap.size b (ok0 (linesB l)) V2 hPA (by omega) (hE.below hBB)
  unfold RulesP at hRU
  rw [← hr] at hRU
  obtain ⟨σ, hσ⟩ : ∃ σ, σ = (gA (ok0 (linesB l))).2 := ⟨_, rfl⟩
  rw [← hσ] at hRU hpe
  have HZ0 : Hid (XBox V2 w.heap.size ⟨#[]⟩ 0 0 (.slice none 0 0) (.slice none 0 0) false false (.slice none 0 0) 0 0 0) := Lib.hid ((hX0.below hB1).below hB2)
  have HBB := Lib.hid hBB
  have HRR : Hid (parseE l = 0 → parseR l = r) := Lib.hid (fun h => by rw [parseR, if_pos h, hr])
  obtain ⟨nm, x1, x2, ps, st, fa, ke, es, bl, qu, rp⟩ := r
  have HRU : Hid (Calls Tryz.prog 26 #[.pointer (some ⟨b, 0, none⟩)] V2 fun e w' => ∃ vp vs ve, e = .returned (.agg #[.string nm, .int .i64 x1, .int .i64 x2, vp, vs, .bool fa, .bool ke, ve, .int .i64 bl, .int .i64 qu, .int .i64 rp]) ∧ IsSl PieceT 4 w' vp ps ∧ IsSl IntT 1 w' vs st ∧ IsSl EndT 4 w' ve es ∧ StAt w.heap.size b V2 w' σ) := Lib.hid hRU
  have HPE := Lib.hid hpe
  have HPN := Lib.hid hpn
  have HPY := Lib.hid hpy
  have HNM : Hid (nm.size ≤ 8192) := Lib.hid hnm
  have HFT : Hid (LettersFit ps) := Lib.hid hft
  have HV0 : Hid (w.alloc (.cells #[.string ⟨#[]⟩, .int .i64 0, .int .i64 0, .slice none 0 0, .slice none 0 0, .bool false, .bool false, .slice none 0 0, .int .i64 0, .int .i64 0, .int .i64 0] 26) = V0) := Lib.hid hV0.symm
  have HV2 : Hid (V1.alloc (.cells #[.slice (some ⟨G, 0, none⟩) m m, .bool false] 75) = V2) := Lib.hid hV2.symm
  have HBE := Lib.hid hbb
  have HGE := Lib.hid hG
  have HS1 := Lib.hid hs1
  have hbn : w.heap.size ≠ b := by omega
  have hbs : (S.size : Int) ≤ 8192 := by omega
  clear hV0 hV1 hV2 hX0 hB0 hs0 hX hen hm hB1 hs1 hL1 hbb hG hB2 hPA hBB hr hnm hft hpe hpn hpy hRU hσ hls1 hls2 hl hS hE
  go_enter Tryz.func6, Tryz.ntmps6
  go_wp2_with fail
  rw [HV0.out]
  go_at_call 24; refine HCS.out.mono ?_; rintro e w' ⟨rfl, rfl⟩
  go_wp2_with fail
  go_at_call 25; refine HSP.out.mono ?_; rintro e w' ⟨rfl, rfl⟩
  rw [← HGE.out]
  go_wp2_with fail
  rw [← HBE.out, HV2.out]
  go_at_call 26; refine HRU.out.mono ?_; rintro e W ⟨vp, vs, ve, rfl, hip, hii, hie, hst⟩
  obtain ⟨pn, hpn⟩ : ∃ n, n = ps.length := ⟨_, rfl⟩
  obtain ⟨sn, hsn⟩ : ∃ n, n = st.length := ⟨_, rfl⟩
  obtain ⟨en2, hen2⟩ : ∃ n, n = es.length := ⟨_, rfl⟩
  obtain ⟨pa, pc, rfl, -, -⟩ := hip.shape hpn
  obtain ⟨sa, sc, rfl, -, -⟩ := hii.shape hsn
  obtain ⟨ea, ec, rfl, -, -⟩ := hie.shape hen2
  obtain ⟨Q, hQ⟩ : ∃ Q, Q = W.alloc (.cells #[.string nm, .int .i64 x1, .int .i64 x2, .slice pa pn pc, .slice sa sn sc, .bool fa, .bool ke, .slice ea en2 ec, .int .i64 bl, .int .i64 qu, .int .i64 rp] 26) := ⟨_, rfl⟩
  have hbQ : Below W.heap.size W Q := by rw [hQ]; exact (Below.refl _ _).alloc (Nat.le_refl _) _
  have HXQ : Hid (XBox Q W.heap.size nm x1 x2 (.slice pa pn pc) (.slice sa sn sc) fa ke (.slice ea en2 ec) bl qu rp) := Lib.hid (by rw [hQ]; exact XBox.new W nm x1 x2 (.slice pa pn pc) (.slice sa sn sc) fa ke (.slice ea en2 ec) bl qu rp)
  have HSQ : Hid (IsSl PieceT 4 Q (.slice pa pn pc) ps ∧ IsSl IntT 1 Q (.slice sa sn sc) st ∧ IsSl EndT 4 Q (.slice ea en2 ec) es) := Lib.hid ⟨ks_p hip (KS.of hbQ), ks_i hii (KS.of hbQ), ks_e hie (KS.of hbQ)⟩
  have HBQ : Hid (Below w.heap.size w Q) := Lib.hid ((HBB.out.trans hst.2.1).trans (hbQ.mono (by have h1 := HBB.out.size; have h2 := hst.2.1.size; omega)))
  have HZQ : Hid (XBox Q w.heap.size ⟨#[]⟩ 0 0 (.slice none 0 0) (.slice none 0 0) false false (.slice none 0 0) 0 0 0) := Lib.hid ((HZ0.out.fr hst.2 hbn).below hbQ)
  obtain ⟨la, lc, hpb, -⟩ := hst.1.below hbQ
  obtain ⟨d0, d1, -, -⟩ := hpb.facts
  obtain ⟨bad, hbad⟩ : ∃ c, c = σ.bad := ⟨_, rfl⟩
  obtain ⟨k, hk⟩ : ∃ c, c = σ.ls.length := ⟨_, rfl⟩
  rw [← hk] at d0
  rw [← hbad] at d1
  rw [← hbad, ← hk] at HPE
  obtain ⟨⟨r0, r1, r2, r3, r4, r5, r6, r7, r8, r9, r10⟩, y0, y1, y2, y3, y4, y5, y6, y7, y8, y9, y10⟩ := HZQ.out.facts
  have HQW : Hid (W.alloc (.cells #[.string nm, .int .i64 x1, .int .i64 x2, .slice pa pn pc, .slice sa sn sc, .bool fa, .bool ke, .slice ea en2 ec, .int .i64 bl, .int .i64 qu, .int .i64 rp] 26) = Q) := Lib.hid hQ.symm
  rw [hQ] at d0 d1 r0 r1 r2 r3 r4 r5 r6 r7 r8 r9 r10 y0 y1 y2 y3 y4 y5 y6 y7 y8 y9 y10
  clear hip hii hie hst hpn hsn hen2 hbQ hpb hbad hk hQ HZ0 HRU HV2 HV0 HCS HSP
  go_upto_region 6 with fail
  rw [HQW.out]
  rw [HQW.out] at d0 d1 r0 r1 r2 r3 r4 r5 r6 r7 r8 r9 r10 y0 y1 y2 y3 y4 y5 y6 y7 y8 y9 y10
  clear HQW
  rcases en with _ | _
  · have HN0 : Hid (okB l = false) := Lib.hid (by rw [HPE.out]; rfl)
    have HN : Hid (parseE l = 5) := Lib.hid (HPN.out HN0.out)
    go_wp2_with fail
    have HRF := HZQ.out.fill ⟨#[]⟩ 0 0 (.slice none 0 0) (.slice none 0 0) false false (.slice none 0 0) 0 0 0
    refine bodyPost_ret (results_row_tmpT rfl _ _ w.heap.size 26 _ (0, 0) _ rfl HRF Tryz.underlying26 rfl (by kernel_rfl)) rfl ?_
    exact zero_post HN.out (by decide) (below_fillX HBQ.out (Nat.le_refl _) _ _ _ _ _ _ _ _ _ _ _)
  rcases bad with _ | _
  · rcases k with _ | k
    · have HOK : Hid (parseE l = rulesE ⟨nm, x1, x2, ps, st, fa, ke, es, bl, qu, rp⟩) := Lib.hid (HPY.out (by rw [HPE.out]; rfl))
      have hpl : IsSl PieceAt 4 Q (.slice pa pn pc) ps := isSl_map HSQ.out.1 fun _ _ _ h => h.plain
      obtain ⟨c, hc⟩ : ∃ c, c = rulesE ⟨nm, x1, x2, ps, st, fa, ke, es, bl, qu, rp⟩ := ⟨_, rfl⟩
      have HCK : Hid (Calls Tryz.prog 16 #[.agg #[.string nm, .int .i64 x1, .int .i64 x2, .slice pa pn pc, .slice sa sn sc, .bool fa, .bool ke, .slice ea en2 ec, .int .i64 bl, .int .i64 qu, .int .i64 rp]] Q (BelPost (.int .i64 c) Q)) := Lib.hid (by
        rw [hc]
        exact check_any ⟨nm, x1, x2, ps, st, fa, ke, es, bl, qu, rp⟩ (.slice pa pn pc) (.slice sa sn sc) (.slice ea en2 ec) Q ⟨⟨hpl, isSl_map HSQ.out.2.1 fun _ _ _ h => h.2, isSl_map HSQ.out.2.2 fun _ _ _ h => h.2⟩, by unfold maxLen; have := HNM.out; show nm.size ≤ _; omega⟩)
      rw [← hc] at HOK
      obtain ⟨⟨q0, q1, q2, q3, q4, q5, q6, q7, q8, q9, q10⟩, -⟩ := HXQ.out.facts
      clear hpl hc
      go_wp2_with fail
      go_at_call 16; refine HCK.out.mono ?_; rintro e W9 ⟨rfl, hb9⟩
      have HX9 := Lib.hid (HXQ.out.below hb9)
      have HZ9 := Lib.hid (HZQ.out.below hb9)
      have HB9 : Hid (Below w.heap.size w W9) := Lib.hid (HBQ.out.trans (hb9.mono HBQ.out.size))
      have HS9 : Hid (IsSl PieceT 4 W9 (.slice pa pn pc) ps ∧ IsSl IntT 1 W9 (.slice sa sn sc) st ∧ IsSl EndT 4 W9 (.slice ea en2 ec) es) := Lib.hid ⟨ks_p HSQ.out.1 (KS.of hb9), ks_i HSQ.out.2.1 (KS.of hb9), ks_e HSQ.out.2.2 (KS.of hb9)⟩
      clear hb9 d0 d1 r0 r1 r2 r3 r4 r5 r6 r7 r8 r9 r10 y0 y1 y2 y3 y4 y5 y6 y7 y8 y9 y10 q0 q1 q2 q3 q4 q5 q6 q7 q8 q9 q10 HCK HXQ HZQ HSQ
      obtain ⟨⟨r0, r1, r2, r3, r4, r5, r6, r7, r8, r9, r10⟩, y0, y1, y2, y3, y4, y5, y6, y7, y8, y9, y10⟩ := HZ9.out.facts
      obtain ⟨⟨q0, q1, q2, q3, q4, q5, q6, q7, q8, q9, q10⟩, -⟩ := HX9.out.facts
      by_cases hz : c = 0
      · subst hz
        go_wp2_with fail
        have HRF := HZ9.out.fill nm x1 x2 (.slice pa pn pc) (.slice sa sn sc) fa ke (.slice ea en2 ec) bl qu rp
        have hks := KS.fill HZ9.out.blk (.string nm) (.int .i64 x1) (.int .i64 x2) (.slice pa pn pc) (.slice sa sn sc) (.bool fa) (.bool ke) (.slice ea en2 ec) (.int .i64 bl) (.int .i64 qu) (.int .i64 rp)
        refine bodyPost_ret (results_row_tmpT rfl _ _ w.heap.size 26 _ (0, 0) _ rfl HRF Tryz.underlying26 rfl (by kernel_rfl)) rfl ?_
        refine ⟨.slice pa pn pc, .slice sa sn sc, .slice ea en2 ec, ?_, ?_, ?_, below_fillX HB9.out (Nat.le_refl _) _ _ _ _ _ _ _ _ _ _ _⟩
        · rw [HRR.out HOK.out, HOK.out]; rfl
        · rw [HRR.out HOK.out]
          exact ⟨⟨isSl_map (ks_p HS9.out.1 hks) fun _ _ _ h => h.plain, isSl_map (ks_i HS9.out.2.1 hks) fun _ _ _ h => h.2, isSl_map (ks_e HS9.out.2.2 hks) fun _ _ _ h => h.2⟩, by unfold maxLen; have := HNM.out; show nm.size ≤ _; omega⟩
        · rw [HRR.out HOK.out]; exact HFT.out
      · have hne : (c != 0) = true := by simpa using hz
        go_wp2_with fail
        have HRF := HZ9.out.fill ⟨#[]⟩ 0 0 (.slice none 0 0) (.slice none 0 0) false false (.slice none 0 0) 0 0 0
        refine bodyPost_ret (results_row_tmpT rfl _ _ w.heap.size 26 _ (0, 0) _ rfl HRF Tryz.underlying26 rfl (by kernel_rfl)) rfl ?_
        exact zero_post HOK.out hz (below_fillX HB9.out (Nat.le_refl _) _ _ _ _ _ _ _ _ _ _ _)
    · have HN0 : Hid (okB l = false) := Lib.hid (by rw [HPE.out]; simp)
      have HN : Hid (parseE l = 5) := Lib.hid (HPN.out HN0.out)
      go_wp2_with fail
      have HRF := HZQ.out.fill ⟨#[]⟩ 0 0 (.slice none 0 0) (.slice none 0 0) false false (.slice none 0 0) 0 0 0
      refine bodyPost_ret (results_row_tmpT rfl _ _ w.heap.size 26 _ (0, 0) _ rfl HRF Tryz.underlying26 rfl (by kernel_rfl)) rfl ?_
      exact zero_post HN.out (by decide) (below_fillX HBQ.out (Nat.le_refl _) _ _ _ _ _ _ _ _ _ _ _)
  · have HN0 : Hid (okB l = false) := Lib.hid (by rw [HPE.out]; rfl)
    have HN : Hid (parseE l = 5) := Lib.hid (HPN.out HN0.out)
    go_wp2_with fail
    have HRF := HZQ.out.fill ⟨#[]⟩ 0 0 (.slice none 0 0) (.slice none 0 0) false false (.slice none 0 0) 0 0 0
    refine bodyPost_ret (results_row_tmpT rfl _ _ w.heap.size 26 _ (0, 0) _ rfl HRF Tryz.underlying26 rfl (by kernel_rfl)) rfl ?_
    exact zero_post HN.out (by decide) (below_fillX HBQ.out (Nat.le_refl _) _ _ _ _ _ _ _ _ _ _ _)
end Go.Proofs.YtomclohfppbegaaGreatDoor
