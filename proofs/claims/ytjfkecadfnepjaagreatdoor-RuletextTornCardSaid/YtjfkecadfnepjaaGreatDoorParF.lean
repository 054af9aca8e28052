/- ruletext's parser: ends. -/
import Derived.Test.YtjfkecadfnepjaaGreatDoorParE
set_option maxRecDepth 100000
namespace Go.Proofs.YtjfkecadfnepjaaGreatDoor
open Go.ChangeShapes Go.WideShapes Go.ChangeAt Go.RowKit

theorem info_end : (Tryz.prog.info? 60).map (fun i => (i.zero, i.size, i.bytes)) = some (some (.agg #[.int .i64 0, .int .i64 0, .int .i64 0, .bool false]), 4, 32) := by kernel_rfl
theorem choice_ls (w : List UInt8) (ws : List (List UInt8)) (s : PS) : (choiceM w ws s).2.ls = s.ls := optM_ls _ _
theorem num_ls (w : List UInt8) (s : PS) : (numM w s).2.ls = s.ls := optM_ls _ _
theorem piece_ls (w : List UInt8) (ps : List PieceD) (s : PS) : (pieceM w ps s).2.ls = s.ls := optM_ls _ _
theorem line_short {k : List UInt8} {n : Nat} {s : PS} (h : begM k s = true) : (lineM k n s).2.ls.length < s.ls.length := by
  obtain ⟨l, r, hl, _, _⟩ := beg_cases h
  rw [lineM_ls h, hl]; simp
theorem optM_bad {o : Option Int} {s : PS} (h : s.bad = true) : (optM o s).2.bad = true := by cases o <;> simp [optM, failS, h]
theorem endM_short {ps : List PieceD} {s : PS} : (endM ps s).2.bad = true ∨ (endM ps s).2.ls.length < s.ls.length := by
  unfold endM
  split
  · rename_i h
    refine .inr ?_
    show (choiceM _ _ _).2.ls.length < _
    rw [choice_ls, num_ls]; exact line_short h
  · split
    · rename_i h
      refine .inr ?_
      show (choiceM _ _ _).2.ls.length < _
      rw [choice_ls, piece_ls]; exact line_short h
    · cases h : begM kET s with
      | true =>
        refine .inr ?_
        show (choiceM _ _ _).2.ls.length < _
        rw [choice_ls]
        show (numM _ _).2.ls.length < _
        rw [num_ls]
        show (pieceM _ _ _).2.ls.length < _
        rw [piece_ls]; exact line_short h
      | false =>
        refine .inl ?_
        have e : (lineM kET 3 s).2.bad = true := by rw [lineM_no h]; rfl
        exact optM_bad (optM_bad (optM_bad e))
theorem endsGoM_no {ps : List PieceD} {s : PS} (h : begM kEnd s = false) (f : Nat) : endsGoM ps f s = ([], s) := by
  cases f with
  | zero => rfl
  | succ f => rw [endsGoM, if_neg (by rw [h]; decide)]
set_option maxHeartbeats 4000000 in
theorem ends_par (B b : Nat) (ps : List PieceD) (v : Value) (s : PS) (w : World) (h : PAt w b s) (hB : B ≤ b) (hE : Env B w) (hv : IsSl PieceT 4 w v ps) (hl : ps.length ≤ 9000) (hf : LettersFit ps) :
    Calls Tryz.prog 51 #[.pointer (some ⟨b, 0, none⟩), v] w (fun e w' => ∃ u, e = .returned u ∧ IsSl EndT 4 w' u (endsM ps s).1 ∧ StAt B b w w' (endsM ps s).2) := by
  obtain ⟨i0, hi0, hz0, hz1, hz2⟩ := info_parts info_end
  have hbw := h.lt
  have hN9 : s.ls.length ≤ 9000 := by
    obtain ⟨a, c, _, h1, h2, _⟩ := h
    omega
  obtain ⟨N, hN⟩ : ∃ N, N = s.ls.length := ⟨_, rfl⟩
  have HS0 : Hid (StAt B b w w s) := Lib.hid (StAt.refl h)
  have HR0 : Hid ((([] : List EndD) ++ (endsGoM ps N s).1, (endsGoM ps N s).2) = endsM ps s) := Lib.hid (by rw [hN]; rfl)
  have HL0 : Hid (s.bad = true ∨ s.ls.length ≤ N) := Lib.hid (by omega)
  have HO0 : Hid (w.ownsRow w.heap.size 60 4 (.slice none 0 0) ([] : List EndD).length (cellsL endCells [])) := Lib.hid (World.ownsRow_nil _ _ _ _)
  rw [← hN] at hN9
  obtain ⟨pa, pc, hpv, -, -⟩ := hv.shape (n := ps.length) rfl
  have HEN : Hid (∀ W σ, StAt B b w W σ → Calls Tryz.prog 72 #[.pointer (some ⟨b, 0, none⟩), v] W (EndP B b (endM ps σ).1 (endM ps σ).2 W)) := Lib.hid (fun W σ hW => end_par B b ps v σ W hW.1 hB (hW.env hE) (isSl_map hv fun _ _ _ hx => hx.kt (h.kt hW.2 (by decide)) (h.kt hW.2 (by decide))) hl hf)
  obtain ⟨pn, hpn⟩ : ∃ n, n = ps.length := ⟨_, rfl⟩
  rw [← hpn] at hpv
  subst hpv
  clear h hE hN hv hl hf hpn
  go_enter Tryz.func51, Tryz.ntmps51
  go_wp2_with fail
  go_loopw [5] (fun v wr => ∃ (done : List EndD) (σ : PS) (f : Nat), done.length + f = N ∧ (∃ a cap, v = .slice a done.length cap) ∧ Hid (wr.ownsRow w.heap.size 60 4 v done.length (cellsL endCells done)) ∧ Hid (StAt B b w wr σ) ∧ Hid (σ.bad = true ∨ σ.ls.length ≤ f) ∧ Hid ((done ++ (endsGoM ps f σ).1, (endsGoM ps f σ).2) = endsM ps s)) (fun v _ => N - lenOf v)
  case atStart => exact ⟨[], s, N, by simp, ⟨_, _, rfl⟩, HO0, HS0, HL0, HR0⟩
  case round =>
    clear HO0 HS0 HL0 HR0
    obtain ⟨done, σ, f, hf, ⟨va, vc, rfl⟩, hown, hst, hlen, hrel⟩ := hrel
    obtain ⟨dl, hdl⟩ : ∃ dl, dl = done.length := ⟨_, rfl⟩
    have HDL := Lib.hid hdl
    rw [← hdl] at hf hown ⊢
    clear hdl
    have HBG : Hid (Calls Tryz.prog 68 #[.pointer (some ⟨b, 0, none⟩), .string ⟨#[101, 110, 100]⟩] wr fun e w' => e = .returned (.bool (begM kEnd σ)) ∧ wr = w') := Lib.hid (turned (begins_any b kEnd σ wr hst.out.1 (by decide)))
    cases hb : begM kEnd σ with
    | false =>
      rw [hb] at HBG
      have HP : Hid (IsSl EndT 4 wr (.slice va dl vc) (endsM ps s).1 ∧ StAt B b w wr (endsM ps s).2) := Lib.hid (by
        have h1 := hrel.out
        rw [endsGoM_no hb f, List.append_nil] at h1
        rw [← h1]
        refine ⟨?_, hst.out⟩
        have h2 := hown.out; rw [HDL.out] at h2 ⊢; exact own_ends h2)
      clear hb hown hst hlen hrel
      go_wp2_with fail
      go_at_call 68; refine HBG.out.mono ?_; rintro e w' ⟨rfl, rfl⟩
      go_wp2_with fail
      go_ret
      exact ⟨_, rfl, HP.out⟩
    | true =>
      rw [hb] at HBG
      obtain ⟨f, rfl⟩ : ∃ f', f = f' + 1 := by
        obtain ⟨l, r, hl, hbd, _⟩ := beg_cases hb
        have := hlen.out
        rw [hl, hbd, List.length_cons] at this
        rcases this with h | h
        · cases h
        · exact ⟨f - 1, by omega⟩
      have HRL : Hid ((done ++ [(endM ps σ).1] ++ (endsGoM ps f (endM ps σ).2).1, (endsGoM ps f (endM ps σ).2).2) = endsM ps s) := Lib.hid (by
        rw [← hrel.out, endsGoM, if_pos hb]; simp)
      have HLN : Hid ((endM ps σ).2.bad = true ∨ (endM ps σ).2.ls.length ≤ f) := Lib.hid (by
        rcases endM_short (ps := ps) (s := σ) with h1 | h1
        · exact .inl h1
        · obtain ⟨l, r, hl, hbd, _⟩ := beg_cases hb
          have := hlen.out
          rw [hbd] at this
          rcases this with h | h
          · cases h
          · exact .inr (by omega))
      obtain ⟨x, hx⟩ : ∃ x, x = (endM ps σ).1 := ⟨_, rfl⟩
      obtain ⟨⟨ek, ep, ec, el⟩, hx2⟩ : ∃ y, y = x := ⟨_, rfl⟩
      have HX : Hid ((endM ps σ).1 = ⟨ek, ep, ec, el⟩) := Lib.hid (by rw [← hx, ← hx2])
      have HC : Hid (Calls Tryz.prog 72 #[.pointer (some ⟨b, 0, none⟩), .slice pa pn pc] wr (EndP B b ⟨ek, ep, ec, el⟩ (endM ps σ).2 wr)) := Lib.hid (by have := HEN.out wr σ hst.out; rw [HX.out] at this; exact this)
      clear hb hlen hrel hx hx2
      have hdn : dl ≤ 9000 := by omega
      go_wp2_with fail
      go_at_call 68; refine HBG.out.mono ?_; rintro e w' ⟨rfl, rfl⟩
      go_wp2_with fail
      go_at_call 72; refine HC.out.mono ?_; rintro e W ⟨rfl, hW⟩
      have HOW : Hid (W.ownsRow w.heap.size 60 4 (.slice va dl vc) dl (cellsL endCells done)) := Lib.hid (own_fr hown.out hW.2 hbw)
      have HSW : Hid (StAt B b w W (endM ps σ).2) := Lib.hid (hst.out.trans hW)
      have hWs : w.heap.size ≤ W.heap.size := HSW.out.2.1.size
      clear hW hown hst
      go_wp2_with (at_builtin; refine wpList_append_lies _ rfl _ _ _ rfl w.heap.size 60 i0 _ 4 32 Tryz.underlying24 hi0 hz0 hz1 hz2 rfl (by omega) (.slice va dl vc) dl (cellsL endCells done) rfl (HOW.out.alloc _) ⟨W.heap.size, 0, none⟩ 1 1 [.int .i64 ek, .int .i64 ep, .int .i64 ec, .bool el] rfl rfl (World.news_of_block (cs := #[.int .i64 ek, .int .i64 ep, .int .i64 ec, .bool el]) (t := 60) (fr := (0, 0)) (heap_alloc_new W _)) (by simp [Value.oneCell']) (by omega) (by unfold maxLen; omega) (by omega) (by simp; omega) (W.heap.size + 1) (by simp) ?_)
      intro gg cap W6 hown6 hgrow hat hlt
      have HO7 : Hid (W6.ownsRow w.heap.size 60 4 (.slice (some ⟨gg, 0, none⟩) (dl + 1) cap) (done ++ [(endM ps σ).1]).length (cellsL endCells (done ++ [(endM ps σ).1]))) := Lib.hid (by
        rw [cellsL_snoc, HX.out, List.length_append, ← HDL.out]; exact hown6)
      have HS7 : Hid (StAt B b w W6 (endM ps σ).2) := Lib.hid ((HSW.out.below ((Below.refl _ _).alloc (Nat.le_refl _) _) hB).grown hgrow (fun k hk => (own_block HOW.out k hk).1) (by omega) hbw)
      clear hown6 hgrow hat hlt
      go_wp2_with fail
      go_roundw
      case rel => exact ⟨done ++ [(endM ps σ).1], (endM ps σ).2, f, by rw [List.length_append, ← HDL.out]; simp; omega, ⟨_, _, by rw [List.length_append, ← HDL.out]; rfl⟩, HO7, HS7, HLN, HRL⟩
      case measure => simp [lenOf]; omega
end Go.Proofs.YtjfkecadfnepjaaGreatDoor
