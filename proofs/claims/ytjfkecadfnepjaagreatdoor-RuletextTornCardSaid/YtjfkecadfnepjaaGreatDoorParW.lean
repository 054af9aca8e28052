/- ruletext's parser: ways. -/
import Derived.Test.YtjfkecadfnepjaaGreatDoorParO
set_option maxRecDepth 100000
namespace Go.Proofs.YtjfkecadfnepjaaGreatDoor
open Go.ChangeShapes Go.WideShapes Go.ChangeAt Go.RowKit
attribute [local go_sem ↓] Go.wp_at_zero Go.wp_at_succ

theorem lineM_ls {k : List UInt8} {n : Nat} {s : PS} (h : begM k s = true) : (lineM k n s).2.ls = s.ls.tail := by
  rw [lineM, if_pos h]
  split <;> rfl
theorem optM_ls (o : Option Int) (s : PS) : (optM o s).2.ls = s.ls := by cases o <;> rfl
theorem wayM_ls {s : PS} (h : begM kWay s = true) : (wayM s).2.ls = s.ls.tail := by
  show (choiceM _ _ _).2.ls = _
  rw [choiceM, optM_ls]
  show (numM _ _).2.ls = _
  rw [numM, optM_ls]
  show (numM _ _).2.ls = _
  rw [numM, optM_ls]
  show (numM _ _).2.ls = _
  rw [numM, optM_ls, lineM_ls h]
theorem waysGo_no {s : PS} (h : begM kWay s = false) (f : Nat) : waysGo f s = ([], s) := by
  cases f with
  | zero => rfl
  | succ f => rw [waysGo, if_neg (by rw [h]; decide)]
theorem words_at {W : World} {ok : Nat → Prop} {ws : List (List UInt8)} {a : Option Addr} {c n : Nat} (h : Strs W ok ws a c) (hn : ws.length = n) (h0 : 0 < n) : n ≤ c ∧ c ≤ 9000 ∧ ∃ g o, a = some ⟨g, o, none⟩ ∧ ok g ∧ StrBlk W g ∧ (∀ i, i < n → W.cell? ⟨g, o + i, none⟩ = some (.string (str (wd ws i)))) ∧ ∀ i, (wd ws i).length ≤ 8192 := by
  obtain ⟨h1, h2, h3, h4⟩ := h
  obtain ⟨g, o, e, hg, ht, hc⟩ := h3 (by intro e; rw [e] at hn; simp at hn; omega)
  refine ⟨by omega, h2, g, o, e, hg, ht, fun i hi => ?_, fun i => ?_⟩
  · have hx : ws[i]? = some ws[i] := List.getElem?_eq_getElem (by omega)
    rw [hc i _ hx, wd, hx]; rfl
  · unfold wd
    cases hx : ws[i]? with
    | none => simp
    | some x => exact h4 x (List.mem_of_getElem? hx)
theorem info_way : (Tryz.prog.info? 81).map (fun i => (i.zero, i.size, i.bytes)) = some (some (.agg #[.int .i64 0, .int .i64 0, .int .i64 0, .int .i64 0]), 4, 32) := by kernel_rfl
def WaysP (B b : Nat) (s : PS) (w : World) (e : Ending) (w' : World) : Prop := ∃ v, e = .returned v ∧ IsSl WayT 4 w' v (waysM s).1 ∧ PAt w' b (waysM s).2 ∧ Fr B b w w'
set_option maxHeartbeats 8000000 in
theorem ways_par (B b : Nat) (s : PS) (w : World) (h : PAt w b s) (hB : B ≤ b) (hE : Env B w) :
    Calls Tryz.prog 69 #[.pointer (some ⟨b, 0, none⟩)] w (WaysP B b s w) := by
  obtain ⟨i0, hi0, hz0, hz1, hz2⟩ := info_parts info_way
  have hbw := h.lt
  have hN9 : s.ls.length ≤ 9000 := by
    obtain ⟨a, c, _, h1, h2, _⟩ := h
    omega
  obtain ⟨N, hN⟩ : ∃ N, N = s.ls.length := ⟨_, rfl⟩
  have HN := Lib.hid hN
  have HE := Lib.hid hE
  have HS0 : Hid (StAt B b w w s) := Lib.hid (StAt.refl h)
  have HR0 : Hid ((([] : List WayD) ++ (waysGo N s).1, (waysGo N s).2) = waysM s) := Lib.hid (by rw [hN]; rfl)
  have HL0 : Hid (s.ls.length ≤ N) := Lib.hid (by omega)
  have HO0 : Hid (w.ownsRow w.heap.size 81 4 (.slice none 0 0) ([] : List WayD).length (cellsL wayCells [])) := Lib.hid (World.ownsRow_nil _ _ _ _)
  rw [← hN] at hN9
  clear h hE hN
  go_enter Tryz.func69, Tryz.ntmps69
  go_wp2_with fail
  go_loopw [3, 4] (fun v _ wr => ∃ (done : List WayD) (σ : PS) (f : Nat), done.length + f = N ∧ (∃ a cap, v = .slice a done.length cap) ∧ Hid (wr.ownsRow w.heap.size 81 4 v done.length (cellsL wayCells done)) ∧ Hid (StAt B b w wr σ) ∧ Hid (σ.ls.length ≤ f) ∧ Hid ((done ++ (waysGo f σ).1, (waysGo f σ).2) = waysM s)) (fun v _ _ => N - lenOf v)
  case atStart => exact ⟨[], s, N, by simp, ⟨_, _, rfl⟩, HO0, HS0, HL0, HR0⟩
  case round =>
    clear HO0 HS0 HL0 HR0
    obtain ⟨done, σ, f, hf, ⟨va, vc, rfl⟩, hown, hst, hlen, hrel⟩ := hrel
    obtain ⟨dl, hdl⟩ : ∃ dl, dl = done.length := ⟨_, rfl⟩
    have HDL := Lib.hid hdl
    rw [← hdl] at hf hown ⊢
    clear hdl
    have HBG : Hid (Calls Tryz.prog 68 #[.pointer (some ⟨b, 0, none⟩), .string ⟨#[119, 97, 121]⟩] wr fun e w' => e = .returned (.bool (begM kWay σ)) ∧ wr = w') := Lib.hid (turned (begins_any b kWay σ wr hst.out.1 (by decide)))
    cases hb : begM kWay σ with
    | false =>
      rw [hb] at HBG
      have HP : Hid (WaysP B b s w (.returned (.slice va dl vc)) wr) := Lib.hid (by
        have h1 := hrel.out
        rw [waysGo_no hb f, List.append_nil] at h1
        refine ⟨_, rfl, ?_, ?_, hst.out.2⟩
        · rw [← h1]; have h2 := hown.out; rw [HDL.out] at h2 ⊢; exact own_ways h2
        · rw [← h1]; exact hst.out.1)
      clear hb hown hst hlen hrel
      go_wp2_with fail
      go_at_call 68; refine HBG.out.mono ?_; rintro e w' ⟨rfl, rfl⟩
      go_wp2_with fail
      go_ret
      exact HP.out
    | true =>
      rw [hb] at HBG
      obtain ⟨f, rfl⟩ : ∃ f', f = f' + 1 := by
        obtain ⟨l, r, hl, _, _⟩ := beg_cases hb
        have := hlen.out
        rw [hl, List.length_cons] at this
        exact ⟨f - 1, by omega⟩
      have HBE := Lib.hid hb
      have HL : Hid (Calls Tryz.prog 46 #[.pointer (some ⟨b, 0, none⟩), .string ⟨#[119, 97, 121]⟩, .int .i64 (4 : Nat)] wr (WordsP B b (lineM kWay 4 σ).1 (lineM kWay 4 σ).2 wr)) := Lib.hid (line_par B b kWay 4 σ wr hst.out.1 (by decide) (by decide) hB (hst.out.env HE.out))
      clear hb
      go_wp2_with fail
      go_at_call 68; refine HBG.out.mono ?_; rintro e w' ⟨rfl, rfl⟩
      go_wp2_with fail
      go_at_call 46; refine HL.out.mono ?_; rintro e W ⟨wa, wc, rfl, hws, hpW, hfW⟩
      have hwl := (lineM_rd kWay 4 σ).2
      obtain ⟨c4, c9, g, o, rfl, hgb, htb, hcw, hsm⟩ := words_at hws hwl (by decide)
      rw [hwl]
      have HSM := Lib.hid hsm
      have HST : Hid (StAt B b W W.drew (lineM kWay 4 σ).2) := Lib.hid ((StAt.refl hpW).drew hB)
      have HOW : Hid (W.ownsRow w.heap.size 81 4 (.slice va dl vc) dl (cellsL wayCells done)) := Lib.hid (own_fr hown.out hfW hbw)
      have HTB : Hid (TyBlk W g 9) := Lib.hid htb
      have HWR : Hid (StAt B b w W (lineM kWay 4 σ).2) := Lib.hid (hst.out.trans ⟨hpW, hfW⟩)
      have x0 := hcw 0 (by decide)
      have x1 := hcw 1 (by decide)
      have x2 := hcw 2 (by decide)
      have x3 := hcw 3 (by decide)
      rw [Nat.add_zero] at x0
      have HEW : Hid (Env B W) := Lib.hid (HWR.out.env HE.out)
      obtain ⟨X0, hX0⟩ : ∃ X, X = str (wd (lineM kWay 4 σ).1 0) := ⟨_, rfl⟩
      obtain ⟨X1, hX1⟩ : ∃ X, X = str (wd (lineM kWay 4 σ).1 1) := ⟨_, rfl⟩
      obtain ⟨X2, hX2⟩ : ∃ X, X = str (wd (lineM kWay 4 σ).1 2) := ⟨_, rfl⟩
      obtain ⟨X3, hX3⟩ : ∃ X, X = str (wd (lineM kWay 4 σ).1 3) := ⟨_, rfl⟩
      have K0 : Hid (∀ V, StAt B b W V (lineM kWay 4 σ).2 → Calls Tryz.prog 53 #[.pointer (some ⟨b, 0, none⟩), .string X0] V (StP B b W (.int .i64 (wayA σ).1) (wayA σ).2)) := Lib.hid (fun V hV => by
        rw [hX0]; exact par_st hV (number_par B b _ _ V hV.1 (hsm 0) hB (hV.env HEW.out)))
      have K1 : Hid (∀ V, StAt B b W V (wayA σ).2 → Calls Tryz.prog 53 #[.pointer (some ⟨b, 0, none⟩), .string X1] V (StP B b W (.int .i64 (wayB2 σ).1) (wayB2 σ).2)) := Lib.hid (fun V hV => by
        rw [hX1]; exact par_st hV (number_par B b _ _ V hV.1 (hsm 1) hB (hV.env HEW.out)))
      have K2 : Hid (∀ V, StAt B b W V (wayB2 σ).2 → Calls Tryz.prog 53 #[.pointer (some ⟨b, 0, none⟩), .string X2] V (StP B b W (.int .i64 (wayC σ).1) (wayC σ).2)) := Lib.hid (fun V hV => by
        rw [hX2]; exact par_st hV (number_par B b _ _ V hV.1 (hsm 2) hB (hV.env HEW.out)))
      have K3 : Hid (∀ V gt, StAt B b W V (wayC σ).2 → WBlk V gt wTakes → Calls Tryz.prog 52 #[.pointer (some ⟨b, 0, none⟩), .string X3, .slice (some ⟨gt, 0, none⟩) 3 3] V (StP B b W (.int .i64 (wayT σ).1) (wayT σ).2)) := Lib.hid (fun V gt hV hw => by
        rw [hX3]; exact par_st hV (choice_par B b gt _ wTakes _ V hV.1 hw hB (by decide)))
      have HRL : Hid ((done ++ [(wayM σ).1] ++ (waysGo f (wayM σ).2).1, (waysGo f (wayM σ).2).2) = waysM s) := Lib.hid (by
        rw [← hrel.out, waysGo, if_pos HBE.out]; simp)
      have HLN : Hid ((wayM σ).2.ls.length ≤ f) := Lib.hid (by
        rw [wayM_ls HBE.out, List.length_tail]; have := hlen.out; omega)
      obtain ⟨n0, hn0⟩ : ∃ n, n = (wayA σ).1 := ⟨_, rfl⟩
      obtain ⟨n1, hn1⟩ : ∃ n, n = (wayB2 σ).1 := ⟨_, rfl⟩
      obtain ⟨n2, hn2⟩ : ∃ n, n = (wayC σ).1 := ⟨_, rfl⟩
      obtain ⟨n3, hn3⟩ : ∃ n, n = (wayT σ).1 := ⟨_, rfl⟩
      obtain ⟨s0, hs0⟩ : ∃ n, n = (lineM kWay 4 σ).2 := ⟨_, rfl⟩
      obtain ⟨s1, hs1⟩ : ∃ n, n = (wayA σ).2 := ⟨_, rfl⟩
      obtain ⟨s2, hs2⟩ : ∃ n, n = (wayB2 σ).2 := ⟨_, rfl⟩
      obtain ⟨s3, hs3⟩ : ∃ n, n = (wayC σ).2 := ⟨_, rfl⟩
      have HWC : Hid (wayCells (wayM σ).1 = [.int .i64 n0, .int .i64 n1, .int .i64 n2, .int .i64 n3]) := Lib.hid (by rw [hn0, hn1, hn2, hn3]; rfl)
      rw [← hX0] at x0
      rw [← hX1] at x1
      rw [← hX2] at x2
      rw [← hX3] at x3
      rw [← hn0, ← hs0, ← hs1] at K0
      rw [← hn1, ← hs1, ← hs2] at K1
      rw [← hn2, ← hs2, ← hs3] at K2
      rw [← hn3, ← hs3] at K3
      rw [← hs0] at HST HWR
      have hdn : dl ≤ 9000 := by omega
      have hWs : Hid (w.heap.size ≤ W.heap.size) := Lib.hid HWR.out.2.1.size
      clear hown hst hlen hrel hws hpW hfW hsm hcw hwl hX0 hX1 hX2 hX3 hn0 hn1 hn2 hn3 hs0 hs1 hs2 hs3 HBG HL htb
      go_wp2_with fail
      go_region_held3 (fun w' => w'.cell? ⟨g, o, none⟩ = some (.string X0) ∧ w'.cell? ⟨g, o + 1, none⟩ = some (.string X1) ∧ w'.cell? ⟨g, o + 2, none⟩ = some (.string X2) ∧ w'.cell? ⟨g, o + 3, none⟩ = some (.string X3)) (go_keep) (first
        | (go_at_call 53; refine (K2.out _ H2.out).mono ?_; rintro e V3 ⟨rfl, h3⟩; have H3 := Lib.hid h3; have y0 := h3.2.cell hgb x0; have y1 := h3.2.cell hgb x1; have y2 := h3.2.cell hgb x2; have y3 := h3.2.cell hgb x3; clear h3)
        | (go_at_call 53; refine (K1.out _ H1.out).mono ?_; rintro e V2 ⟨rfl, h2⟩; have H2 := Lib.hid h2; have y0 := h2.2.cell hgb x0; have y1 := h2.2.cell hgb x1; have y2 := h2.2.cell hgb x2; have y3 := h2.2.cell hgb x3; clear h2)
        | (go_at_call 53; refine (K0.out _ HST.out).mono ?_; rintro e V1 ⟨rfl, h1⟩; have H1 := Lib.hid h1; have y0 := h1.2.cell hgb x0; have y1 := h1.2.cell hgb x1; have y2 := h1.2.cell hgb x2; have y3 := h1.2.cell hgb x3; clear h1)
        | (go_at_call 42; refine (takeWords_any _).mono ?_; rintro e V4 ⟨gt, rfl, hwd, hb4⟩; have h4 := H3.out.below hb4 hB; have H4 := Lib.hid h4; have HWD := Lib.hid hwd; have y0 := h4.2.cell hgb x0; have y1 := h4.2.cell hgb x1; have y2 := h4.2.cell hgb x2; have y3 := h4.2.cell hgb x3; clear h4 hwd hb4)
        | (go_at_call 52; refine (K3.out _ gt H4.out HWD.out).mono ?_; rintro e V5 ⟨rfl, h5⟩; have H5 := Lib.hid h5; have HO5 := Lib.hid (own_fr HOW.out h5.2 hbw); have HT5 := Lib.hid (show TyBlk V5 g 9 from let ⟨cs, fr, hh⟩ := HTB.out; ⟨cs, fr, h5.2.heap hgb hh⟩); have y0 := h5.2.cell hgb x0; have y1 := h5.2.cell hgb x1; have y2 := h5.2.cell hgb x2; have y3 := h5.2.cell hgb x3; have hV5 := h5.2.1.size; clear h5)
        | (refine step_append_lies _ (by rfl) _ _ _ (by rfl) w.heap.size 81 i0 _ 4 32 Tryz.underlying56 hi0 hz0 hz1 hz2 rfl (by omega) (.slice va dl vc) dl (cellsL wayCells done) (by rfl) (HO5.out.alloc _) ⟨V5.heap.size, 0, none⟩ 1 1 [.int .i64 n0, .int .i64 n1, .int .i64 n2, .int .i64 n3] (by rfl) (by rfl) (World.news_of_block (cs := #[.int .i64 n0, .int .i64 n1, .int .i64 n2, .int .i64 n3]) (t := 81) (fr := (0, 0)) (heap_alloc_new V5 _)) (by simp [Value.oneCell']) (by omega) (by unfold maxLen; omega) (by omega) (by have := hWs.out; simp; omega) (V5.heap.size + 1) (by simp) ?_; intro gg cap W6 hown6 hgrow hat hlt; have H6 := Lib.hid hgrow; have H7 := Lib.hid hown6; have hk6 : KT 9 V5 W6 := (KT.of ((Below.refl _ _).alloc (Nat.le_refl _) _)).trans (KT.grown (HO5.out.alloc _) hgrow (by decide)); have y0 := HT5.out.cell hk6 y0; have y1 := HT5.out.cell hk6 y1; have y2 := HT5.out.cell hk6 y2; have y3 := HT5.out.cell hk6 y3; clear hown6 hgrow hat hlt hk6))
      have HO7 : Hid (W6.ownsRow w.heap.size 81 4 (.slice (some ⟨gg, 0, none⟩) (dl + 1) cap) (done ++ [(wayM σ).1]).length (cellsL wayCells (done ++ [(wayM σ).1]))) := Lib.hid (by
        rw [cellsL_snoc, HWC.out, List.length_append, ← HDL.out]; exact H7.out)
      have HS7 : Hid (StAt B b w W6 (wayM σ).2) := Lib.hid ((HWR.out.trans (H5.out.below ((Below.refl _ _).alloc (Nat.le_refl _) _) hB)).grown H6.out (fun k hk => (own_block HO5.out k hk).1) (by omega) hbw)
      go_wp2_with fail
      go_roundw
      case rel => exact ⟨done ++ [(wayM σ).1], (wayM σ).2, f, by rw [List.length_append, ← HDL.out]; simp; omega, ⟨_, _, by rw [List.length_append, ← HDL.out]; rfl⟩, HO7, HS7, HLN, HRL⟩
      case measure => simp [lenOf]; omega
end Go.Proofs.YtjfkecadfnepjaaGreatDoor
