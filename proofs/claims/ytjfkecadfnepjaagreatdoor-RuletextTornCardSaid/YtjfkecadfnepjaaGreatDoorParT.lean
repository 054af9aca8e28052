/- ruletext.Parse: what a text is read as. -/
import Derived.Test.YtjfkecadfnepjaaGreatDoorParS
set_option maxRecDepth 100000
namespace Go.Proofs.YtjfkecadfnepjaaGreatDoor
open Go.ChangeShapes Go.WideShapes Go.ChangeAt Go.RowKit

theorem results_row_tmp {P : Program} {fn : Func} {p u : Tmp} {ty : TypeId} (h : fn.results = #[.cell p ty, .tmp u]) (tmps : Array Value) (w : World) (g : Nat) (t : TypeId) (cs : Array Value) (fr : Nat × Nat) (d : TypeDesc)
    (hp : tmps.getD p undef = .pointer (some ⟨g, 0, none⟩)) (hg : w.heap[g]? = some (.cells cs t fr))
    (hu : P.underlying ty = some d) (hd : (match d with | .struct _ | .array _ _ => true | _ => false) = true) (hi : (P.info? ty).map (·.size) = some cs.size) :
    (results fn tmps).run P w = .ok (.tuple #[.agg cs, tmps.getD u undef]) w := by
  rw [results_cell_tmp h, hp]
  simp [asAddr, run_loadVar_row w g t ty cs fr d hg hu hd hi, Result.andThen]
def zeroD : RulesD := { name := ⟨#[]⟩, width := 0, height := 0, pieces := [], start := [], falls := false, keeps := false, ends := [], blocked := 0, quiet := 0, rep := 0 }
def parseR (l : List UInt8) : RulesD := if parseE l = 0 then rulesM (ok0 (linesB l)) else zeroD
def ParseP (l : List UInt8) (w : World) (e : Ending) (w' : World) : Prop := ∃ vp vs ve, e = .returned (.tuple #[RulesV (parseR l) vp vs ve, .int .i64 (parseE l)]) ∧ RulesIn w' (parseR l) vp vs ve ∧ LettersFit (parseR l).pieces ∧ Below w.heap.size w w'
theorem below_fillX {B q : Nat} {w W : World} (h : Below B w W) (hq : B ≤ q) (u0 u1 u2 u3 u4 u5 u6 u7 u8 u9 u10 : Value) : Below B w (fillX W q u0 u1 u2 u3 u4 u5 u6 u7 u8 u9 u10) := (((((((((((h.setCell (p := ⟨q, 0, none⟩) hq u0).setCell (p := ⟨q, 1, none⟩) hq u1).setCell (p := ⟨q, 2, none⟩) hq u2).setCell (p := ⟨q, 3, none⟩) hq u3).setCell (p := ⟨q, 4, none⟩) hq u4).setCell (p := ⟨q, 5, none⟩) hq u5).setCell (p := ⟨q, 6, none⟩) hq u6).setCell (p := ⟨q, 7, none⟩) hq u7).setCell (p := ⟨q, 8, none⟩) hq u8).setCell (p := ⟨q, 9, none⟩) hq u9).setCell (p := ⟨q, 10, none⟩) hq u10)
theorem zero_post {l : List UInt8} {w F : World} {n : Int} (hn : parseE l = n) (h0 : n ≠ 0) (hF : Below w.heap.size w F) : ParseP l w (.returned (.tuple #[.agg (XCells ⟨#[]⟩ 0 0 (.slice none 0 0) (.slice none 0 0) false false (.slice none 0 0) 0 0 0), .int .i64 n])) F := by
  have e : parseR l = zeroD := by rw [parseR, if_neg (by rw [hn]; exact h0)]
  refine ⟨.slice none 0 0, .slice none 0 0, .slice none 0 0, ?_, ?_, ?_, hF⟩
  · rw [e, hn]; rfl
  · rw [e]; exact ⟨⟨.inl ⟨rfl, _, _, rfl⟩, .inl ⟨rfl, _, _, rfl⟩, .inl ⟨rfl, _, _, rfl⟩⟩, by decide⟩
  · rw [e]; intro x hx; cases hx
theorem wd_len {k : List UInt8} {n i : Nat} {σ : PS} (h4 : ∀ x ∈ σ.ls, x.length ≤ 8192) : (wd (lineM k n σ).1 i).length ≤ 8192 := by
  have key : ∀ m, (wd (List.replicate m ([] : List UInt8)) i).length ≤ 8192 := by
    intro m
    unfold wd
    cases hx : (List.replicate m ([] : List UInt8))[i]? with
    | none => simp
    | some x => rw [List.eq_of_mem_replicate (List.mem_of_getElem? hx)]; simp
  unfold lineM
  split
  · rename_i hb
    obtain ⟨l, r, hl, _, _⟩ := beg_cases hb
    split
    · have h1 := (rest_small (k := k) (h4 l (by rw [hl]; simp))).1
      rw [hl]
      simp only [List.headD_cons]
      unfold wd
      cases hx : (restW k l)[i]? with
      | none => simp
      | some x => exact h1 x (List.mem_of_getElem? hx)
    · exact key n
  · exact key n
theorem lines_small {l : List UInt8} (hl : l.length ≤ 8192) : (∀ x ∈ linesB l, x.length ≤ 8192) ∧ (linesB l).length ≤ 8193 := by
  have h1 : (Lib.trimSuffix l [10]).length ≤ 8192 := by
    unfold Lib.trimSuffix
    split
    · rw [List.length_take]; omega
    · exact hl
  refine ⟨fun x hx => cut_small h1 x hx, ?_⟩
  have := cut_len 10 (Lib.trimSuffix l [10])
  rw [linesB]; omega
def okB (l : List UInt8) : Bool := Lib.hasSuffix l [10] && (!(gA (ok0 (linesB l))).2.bad && decide ((gA (ok0 (linesB l))).2.ls.length = 0))
theorem parse_no {l : List UInt8} (hl : l.length ≤ 8192) (h : okB l = false) : parseE l = 5 := by
  rw [parseE, if_neg (by omega), if_neg]
  intro e; rw [okB] at h; rw [e] at h; cases h
theorem parse_yes {l : List UInt8} (hl : l.length ≤ 8192) (h : okB l = true) : parseE l = rulesE (rulesM (ok0 (linesB l))) := by
  rw [parseE, if_neg (by omega), if_pos (by rw [okB] at h; exact h)]
set_option maxHeartbeats 8000000 in
theorem parse_big (l : List UInt8) (S : ByteArray) (w : World) (hS : S = str l) (hb : 8192 < S.size) :
    Calls Tryz.prog 7 #[.string S] w (ParseP l w) := by
  have HP : Hid (parseE l = 2) := Lib.hid (by rw [parseE, if_pos (by rw [hS, str_size] at hb; exact hb)])
  have HX : Hid (XBox (w.alloc (.cells (XCells ⟨#[]⟩ 0 0 (.slice none 0 0) (.slice none 0 0) false false (.slice none 0 0) 0 0 0) 26)) w.heap.size ⟨#[]⟩ 0 0 (.slice none 0 0) (.slice none 0 0) false false (.slice none 0 0) 0 0 0) := Lib.hid (XBox.new w ⟨#[]⟩ 0 0 (.slice none 0 0) (.slice none 0 0) false false (.slice none 0 0) 0 0 0)
  have HB : Hid (Below w.heap.size w (w.alloc (.cells (XCells ⟨#[]⟩ 0 0 (.slice none 0 0) (.slice none 0 0) false false (.slice none 0 0) 0 0 0) 26))) := Lib.hid ((Below.refl _ _).alloc (Nat.le_refl _) _)
  have hbi : (8192 : Int) < (S.size : Int) := by omega
  clear hS
  go_enter Tryz.func7, Tryz.ntmps7
  go_wp2_with fail
  refine bodyPost_ret (results_row_tmp rfl _ _ w.heap.size 26 _ (0, 0) _ rfl HX.out Tryz.underlying26 rfl (by kernel_rfl)) rfl ?_
  exact zero_post HP.out (by decide) HB.out
set_option maxHeartbeats 8000000 in
theorem parse_small (l : List UInt8) (S : ByteArray) (w : World) (hS : S = str l) (hb : S.size ≤ 8192) (hE : Env w.heap.size w) :
    Calls Tryz.prog 7 #[.string S] w (ParseP l w) := by
  have hl : l.length ≤ 8192 := by rw [hS, str_size] at hb; exact hb
  obtain ⟨hls1, hls2⟩ := lines_small hl
  obtain ⟨V0, hV0⟩ : ∃ V, V = w.alloc (.cells #[.string ⟨#[]⟩, .int .i64 0, .int .i64 0, .slice none 0 0, .slice none 0 0, .bool false, .bool false, .slice none 0 0, .int .i64 0, .int .i64 0, .int .i64 0] 26) := ⟨_, rfl⟩
  have hX0 : XBox V0 w.heap.size ⟨#[]⟩ 0 0 (.slice none 0 0) (.slice none 0 0) false false (.slice none 0 0) 0 0 0 := by rw [hV0]; exact XBox.new w ⟨#[]⟩ 0 0 (.slice none 0 0) (.slice none 0 0) false false (.slice none 0 0) 0 0 0
  have hB0 : Below w.heap.size w V0 := by rw [hV0]; exact (Below.refl _ _).alloc (Nat.le_refl _) _
  have hs0 : V0.heap.size = w.heap.size + 1 := by rw [hV0]; simp
  obtain ⟨X, hX⟩ : ∃ X, X = str (Lib.trimSuffix l [10]) := ⟨_, rfl⟩
  obtain ⟨en, hen⟩ : ∃ e, e = Lib.hasSuffix l [10] := ⟨_, rfl⟩
  have HCS : Hid (Calls Tryz.prog 23 #[.string S, .string ⟨#[10]⟩] V0 fun e w' => e = .returned (.tuple #[.string X, .bool en]) ∧ V0 = w') := Lib.hid (by
    have h1 := Tryz.strings_CutSuffix S ⟨#[10]⟩ V0 (by omega)
    rw [hX, hen]
    have e1 : S.data.toList = l := by rw [hS, data_str]
    rw [e1] at h1
    exact turned h1)
  obtain ⟨m, hm⟩ : ∃ m, m = (linesB l).length := ⟨_, rfl⟩
  obtain ⟨V1, hV1⟩ : ∃ V, V = V0.alloc (.cells ((linesB l).map fun x => Value.string (str x)).toArray 9) := ⟨_, rfl⟩
  have HSP : Hid (Calls Tryz.prog 24 #[.string X, .string ⟨#[10]⟩] V0 fun e w' => e = .returned (.slice (some ⟨V0.heap.size, 0, none⟩) m m) ∧ V1 = w') := Lib.hid (by
    have hxl : (Lib.trimSuffix l [10]).length ≤ 8192 := by
      unfold Lib.trimSuffix
      split
      · rw [List.length_take]; omega
      · exact hl
    have h1 := split_any 10 X V0 (by rw [hX, str_size]; omega) (hE.below hB0)
    rw [hX, data_str] at h1
    rw [hX, hm, hV1]
    exact h1.mono (fun e w' h => ⟨h.1, h.2.symm⟩))
  have hB1 : Below V0.heap.size V0 V1 := by rw [hV1]; exact (Below.refl _ _).alloc (Nat.le_refl _) _
  have hs1 : V1.heap.size = w.heap.size + 2 := by rw [hV1]; simp; omega
  have hL1 : V1.heap[V0.heap.size]? = some (.cells ((linesB l).map fun x => Value.string (str x)).toArray 9 (0, 0)) := by rw [hV1]; exact heap_alloc_new V0 _
  obtain ⟨b, hbb⟩ : ∃ b, b = V1.heap.size := ⟨_, rfl⟩
  obtain ⟨G, hG⟩ : ∃ G, G = V0.heap.size := ⟨_, rfl⟩
  obtain ⟨V2, hV2⟩ : ∃ V, V = V1.alloc (.cells #[.slice (some ⟨G, 0, none⟩) m m, .bool false] 64) := ⟨_, rfl⟩
  have hB2 : Below V1.heap.size V1 V2 := by rw [hV2]; exact (Below.refl _ _).alloc (Nat.le_refl _) _
  have hPA : PAt V2 b (ok0 (linesB l)) := by
    refine ⟨some ⟨G, 0, none⟩, m, ?_, by show (linesB l).length ≤ m; omega, by omega, fun _ => ⟨G, 0, rfl, by omega, ⟨((linesB l).map fun x => Value.string (str x)).toArray, (0, 0), ?_⟩, fun i x hx => ?_⟩, hls1⟩
    · have := heap_alloc_new V1 (.cells #[.slice (some ⟨G, 0, none⟩) m m, .bool false] 64)
      rw [← hV2, ← hbb] at this
      unfold ParBox
      rw [show (ok0 (linesB l)).ls.length = m from hm.symm]
      exact this
    · rw [hG]; exact (hB2.block _ (by omega)).trans hL1
    · have h2 := (hB2.block V0.heap.size (by omega)).trans hL1
      rw [hG, Nat.zero_add, cell_of_row V2 V0.heap.size i _ _ (0, 0) h2, List.getElem?_toArray, List.getElem?_map]
      rw [show (ok0 (linesB l)).ls = linesB l from rfl] at hx
      rw [hx]; rfl
  have hBB : Below w.heap.size w V2 := (hB0.trans (hB1.mono (by omega))).trans (hB2.mono (by omega))
  obtain ⟨r, hr⟩ : ∃ r, r = rulesM (ok0 (linesB l)) := ⟨_, rfl⟩
  have hnm : r.name.size ≤ 8192 := by
    rw [hr]
    show (str (wd (g0 (ok0 (linesB l))).1 0)).size ≤ 8192
    rw [str_size]; exact wd_len hls1
  have hft : LettersFit r.pieces := by rw [hr]; exact (piecesM_rd (g2 (ok0 (linesB l))).2).2
  have hpe : okB l = (en && (!(gA (ok0 (linesB l))).2.bad && decide ((gA (ok0 (linesB l))).2.ls.length = 0))) := by rw [okB, hen]
  have hpn := parse_no hl
  have hpy := parse_yes hl
  rw [← hr] at hpy
  have hRU := rules_par w.heap.size b (ok0 (linesB l)) V2 hPA (by omega) (hE.below hBB)
  unfold RulesP at hRU
  rw [← hr] at hRU
  obtain ⟨σ, hσ⟩ : ∃ σ, σ = (gA (ok0 (linesB l))).2 := ⟨_, rfl⟩
  rw [← hσ] at hRU hpe
  have HZ0 : Hid (XBox V2 w.heap.size ⟨#[]⟩ 0 0 (.slice none 0 0) (.slice none 0 0) false false (.slice none 0 0) 0 0 0) := Lib.hid ((hX0.below hB1).below hB2)
  have HBB := Lib.hid hBB
  have HRR : Hid (parseE l = 0 → parseR l = r) := Lib.hid (fun h => by rw [parseR, if_pos h, hr])
  obtain ⟨nm, x1, x2, ps, st, fa, ke, es, bl, qu, rp⟩ := r
  have HRU : Hid (Calls Tryz.prog 25 #[.pointer (some ⟨b, 0, none⟩)] V2 fun e w' => ∃ vp vs ve, e = .returned (.agg #[.string nm, .int .i64 x1, .int .i64 x2, vp, vs, .bool fa, .bool ke, ve, .int .i64 bl, .int .i64 qu, .int .i64 rp]) ∧ IsSl PieceT 4 w' vp ps ∧ IsSl IntT 1 w' vs st ∧ IsSl EndT 4 w' ve es ∧ StAt w.heap.size b V2 w' σ) := Lib.hid hRU
  have HPE := Lib.hid hpe
  have HPN := Lib.hid hpn
  have HPY := Lib.hid hpy
  have HNM : Hid (nm.size ≤ 8192) := Lib.hid hnm
  have HFT : Hid (LettersFit ps) := Lib.hid hft
  have HV0 : Hid (w.alloc (.cells #[.string ⟨#[]⟩, .int .i64 0, .int .i64 0, .slice none 0 0, .slice none 0 0, .bool false, .bool false, .slice none 0 0, .int .i64 0, .int .i64 0, .int .i64 0] 26) = V0) := Lib.hid hV0.symm
  have HV2 : Hid (V1.alloc (.cells #[.slice (some ⟨G, 0, none⟩) m m, .bool false] 64) = V2) := Lib.hid hV2.symm
  have HBE := Lib.hid hbb
  have HGE := Lib.hid hG
  have HS1 := Lib.hid hs1
  have hbn : w.heap.size ≠ b := by omega
  have hbs : (S.size : Int) ≤ 8192 := by omega
  clear hV0 hV1 hV2 hX0 hB0 hs0 hX hen hm hB1 hs1 hL1 hbb hG hB2 hPA hBB hr hnm hft hpe hpn hpy hRU hσ hls1 hls2 hl hS hE
  go_enter Tryz.func7, Tryz.ntmps7
  go_wp2_with fail
  rw [HV0.out]
  go_at_call 23; refine HCS.out.mono ?_; rintro e w' ⟨rfl, rfl⟩
  go_wp2_with fail
  go_at_call 24; refine HSP.out.mono ?_; rintro e w' ⟨rfl, rfl⟩
  rw [← HGE.out]
  go_wp2_with fail
  rw [← HBE.out, HV2.out]
  go_at_call 25; refine HRU.out.mono ?_; rintro e W ⟨vp, vs, ve, rfl, hip, hii, hie, hst⟩
  obtain ⟨pn, hpn⟩ : ∃ n, n = ps.length := ⟨_, rfl⟩
  obtain ⟨sn, hsn⟩ : ∃ n, n = st.length := ⟨_, rfl⟩
  obtain ⟨en2, hen2⟩ : ∃ n, n = es.length := ⟨_, rfl⟩
  obtain ⟨pa, pc, rfl, -, -⟩ := hip.shape hpn
  obtain ⟨sa, sc, rfl, -, -⟩ := hii.shape hsn
  obtain ⟨ea, ec, rfl, -, -⟩ := hie.shape hen2
  obtain ⟨Q, hQ⟩ : ∃ Q, Q = W.alloc (.cells #[.string nm, .int .i64 x1, .int .i64 x2, .slice pa pn pc, .slice sa sn sc, .bool fa, .bool ke, .slice ea en2 ec, .int .i64 bl, .int .i64 qu, .int .i64 rp] 26) := ⟨_, rfl⟩
  have hbQ : Below W.heap.size W Q := by rw [hQ]; exact (Below.refl _ _).alloc (Nat.le_refl _) _
  have HXQ : Hid (XBox Q W.heap.size nm x1 x2 (.slice pa pn pc) (.slice sa sn sc) fa ke (.slice ea en2 ec) bl qu rp) := Lib.hid (by rw [hQ]; exact XBox.new W nm x1 x2 (.slice pa pn pc) (.slice sa sn sc) fa ke (.slice ea en2 ec) bl qu rp)
  have HSQ : Hid (IsSl PieceT 4 Q (.slice pa pn pc) ps ∧ IsSl IntT 1 Q (.slice sa sn sc) st ∧ IsSl EndT 4 Q (.slice ea en2 ec) es) := Lib.hid ⟨ks_p hip (KS.of hbQ), ks_i hii (KS.of hbQ), ks_e hie (KS.of hbQ)⟩
  have HBQ : Hid (Below w.heap.size w Q) := Lib.hid ((HBB.out.trans hst.2.1).trans (hbQ.mono (by have h1 := HBB.out.size; have h2 := hst.2.1.size; omega)))
  have HZQ : Hid (XBox Q w.heap.size ⟨#[]⟩ 0 0 (.slice none 0 0) (.slice none 0 0) false false (.slice none 0 0) 0 0 0) := Lib.hid ((HZ0.out.fr hst.2 hbn).below hbQ)
  obtain ⟨la, lc, hpb, -⟩ := hst.1.below hbQ
  obtain ⟨d0, d1, -, -⟩ := hpb.facts
  obtain ⟨bad, hbad⟩ : ∃ c, c = σ.bad := ⟨_, rfl⟩
  obtain ⟨k, hk⟩ : ∃ c, c = σ.ls.length := ⟨_, rfl⟩
  rw [← hk] at d0
  rw [← hbad] at d1
  rw [← hbad, ← hk] at HPE
  obtain ⟨⟨r0, r1, r2, r3, r4, r5, r6, r7, r8, r9, r10⟩, y0, y1, y2, y3, y4, y5, y6, y7, y8, y9, y10⟩ := HZQ.out.facts
  have HQW : Hid (W.alloc (.cells #[.string nm, .int .i64 x1, .int .i64 x2, .slice pa pn pc, .slice sa sn sc, .bool fa, .bool ke, .slice ea en2 ec, .int .i64 bl, .int .i64 qu, .int .i64 rp] 26) = Q) := Lib.hid hQ.symm
  rw [hQ] at d0 d1 r0 r1 r2 r3 r4 r5 r6 r7 r8 r9 r10 y0 y1 y2 y3 y4 y5 y6 y7 y8 y9 y10
  clear hip hii hie hst hpn hsn hen2 hbQ hpb hbad hk hQ HZ0 HRU HV2 HV0 HCS HSP
  go_upto_region 6 with fail
  rw [HQW.out]
  rw [HQW.out] at d0 d1 r0 r1 r2 r3 r4 r5 r6 r7 r8 r9 r10 y0 y1 y2 y3 y4 y5 y6 y7 y8 y9 y10
  clear HQW
  rcases en with _ | _
  · have HN0 : Hid (okB l = false) := Lib.hid (by rw [HPE.out]; rfl)
    have HN : Hid (parseE l = 5) := Lib.hid (HPN.out HN0.out)
    go_wp2_with fail
    have HRF := HZQ.out.fill ⟨#[]⟩ 0 0 (.slice none 0 0) (.slice none 0 0) false false (.slice none 0 0) 0 0 0
    refine bodyPost_ret (results_row_tmp rfl _ _ w.heap.size 26 _ (0, 0) _ rfl HRF Tryz.underlying26 rfl (by kernel_rfl)) rfl ?_
    exact zero_post HN.out (by decide) (below_fillX HBQ.out (Nat.le_refl _) _ _ _ _ _ _ _ _ _ _ _)
  rcases bad with _ | _
  · rcases k with _ | k
    · have HOK : Hid (parseE l = rulesE ⟨nm, x1, x2, ps, st, fa, ke, es, bl, qu, rp⟩) := Lib.hid (HPY.out (by rw [HPE.out]; rfl))
      have hpl : IsSl PieceAt 4 Q (.slice pa pn pc) ps := isSl_map HSQ.out.1 fun _ _ _ h => h.plain
      obtain ⟨c, hc⟩ : ∃ c, c = rulesE ⟨nm, x1, x2, ps, st, fa, ke, es, bl, qu, rp⟩ := ⟨_, rfl⟩
      have HCK : Hid (Calls Tryz.prog 15 #[.agg #[.string nm, .int .i64 x1, .int .i64 x2, .slice pa pn pc, .slice sa sn sc, .bool fa, .bool ke, .slice ea en2 ec, .int .i64 bl, .int .i64 qu, .int .i64 rp]] Q (BelPost (.int .i64 c) Q)) := Lib.hid (by
        rw [hc]
        exact check_any ⟨nm, x1, x2, ps, st, fa, ke, es, bl, qu, rp⟩ (.slice pa pn pc) (.slice sa sn sc) (.slice ea en2 ec) Q ⟨⟨hpl, isSl_map HSQ.out.2.1 fun _ _ _ h => h.2, isSl_map HSQ.out.2.2 fun _ _ _ h => h.2⟩, by unfold maxLen; have := HNM.out; show nm.size ≤ _; omega⟩)
      rw [← hc] at HOK
      obtain ⟨⟨q0, q1, q2, q3, q4, q5, q6, q7, q8, q9, q10⟩, -⟩ := HXQ.out.facts
      clear hpl hc
      go_wp2_with fail
      go_at_call 15; refine HCK.out.mono ?_; rintro e W9 ⟨rfl, hb9⟩
      have HX9 := Lib.hid (HXQ.out.below hb9)
      have HZ9 := Lib.hid (HZQ.out.below hb9)
      have HB9 : Hid (Below w.heap.size w W9) := Lib.hid (HBQ.out.trans (hb9.mono HBQ.out.size))
      have HS9 : Hid (IsSl PieceT 4 W9 (.slice pa pn pc) ps ∧ IsSl IntT 1 W9 (.slice sa sn sc) st ∧ IsSl EndT 4 W9 (.slice ea en2 ec) es) := Lib.hid ⟨ks_p HSQ.out.1 (KS.of hb9), ks_i HSQ.out.2.1 (KS.of hb9), ks_e HSQ.out.2.2 (KS.of hb9)⟩
      clear hb9 d0 d1 r0 r1 r2 r3 r4 r5 r6 r7 r8 r9 r10 y0 y1 y2 y3 y4 y5 y6 y7 y8 y9 y10 q0 q1 q2 q3 q4 q5 q6 q7 q8 q9 q10 HCK HXQ HZQ HSQ
      obtain ⟨⟨r0, r1, r2, r3, r4, r5, r6, r7, r8, r9, r10⟩, y0, y1, y2, y3, y4, y5, y6, y7, y8, y9, y10⟩ := HZ9.out.facts
      obtain ⟨⟨q0, q1, q2, q3, q4, q5, q6, q7, q8, q9, q10⟩, -⟩ := HX9.out.facts
      by_cases hz : c = 0
      · subst hz
        go_wp2_with fail
        have HRF := HZ9.out.fill nm x1 x2 (.slice pa pn pc) (.slice sa sn sc) fa ke (.slice ea en2 ec) bl qu rp
        have hks := KS.fill HZ9.out.blk (.string nm) (.int .i64 x1) (.int .i64 x2) (.slice pa pn pc) (.slice sa sn sc) (.bool fa) (.bool ke) (.slice ea en2 ec) (.int .i64 bl) (.int .i64 qu) (.int .i64 rp)
        refine bodyPost_ret (results_row_tmp rfl _ _ w.heap.size 26 _ (0, 0) _ rfl HRF Tryz.underlying26 rfl (by kernel_rfl)) rfl ?_
        refine ⟨.slice pa pn pc, .slice sa sn sc, .slice ea en2 ec, ?_, ?_, ?_, below_fillX HB9.out (Nat.le_refl _) _ _ _ _ _ _ _ _ _ _ _⟩
        · rw [HRR.out HOK.out, HOK.out]; rfl
        · rw [HRR.out HOK.out]
          exact ⟨⟨isSl_map (ks_p HS9.out.1 hks) fun _ _ _ h => h.plain, isSl_map (ks_i HS9.out.2.1 hks) fun _ _ _ h => h.2, isSl_map (ks_e HS9.out.2.2 hks) fun _ _ _ h => h.2⟩, by unfold maxLen; have := HNM.out; show nm.size ≤ _; omega⟩
        · rw [HRR.out HOK.out]; exact HFT.out
      · have hne : (c != 0) = true := by simpa using hz
        go_wp2_with fail
        have HRF := HZ9.out.fill ⟨#[]⟩ 0 0 (.slice none 0 0) (.slice none 0 0) false false (.slice none 0 0) 0 0 0
        refine bodyPost_ret (results_row_tmp rfl _ _ w.heap.size 26 _ (0, 0) _ rfl HRF Tryz.underlying26 rfl (by kernel_rfl)) rfl ?_
        exact zero_post HOK.out hz (below_fillX HB9.out (Nat.le_refl _) _ _ _ _ _ _ _ _ _ _ _)
    · have HN0 : Hid (okB l = false) := Lib.hid (by rw [HPE.out]; simp)
      have HN : Hid (parseE l = 5) := Lib.hid (HPN.out HN0.out)
      go_wp2_with fail
      have HRF := HZQ.out.fill ⟨#[]⟩ 0 0 (.slice none 0 0) (.slice none 0 0) false false (.slice none 0 0) 0 0 0
      refine bodyPost_ret (results_row_tmp rfl _ _ w.heap.size 26 _ (0, 0) _ rfl HRF Tryz.underlying26 rfl (by kernel_rfl)) rfl ?_
      exact zero_post HN.out (by decide) (below_fillX HBQ.out (Nat.le_refl _) _ _ _ _ _ _ _ _ _ _ _)
  · have HN0 : Hid (okB l = false) := Lib.hid (by rw [HPE.out]; rfl)
    have HN : Hid (parseE l = 5) := Lib.hid (HPN.out HN0.out)
    go_wp2_with fail
    have HRF := HZQ.out.fill ⟨#[]⟩ 0 0 (.slice none 0 0) (.slice none 0 0) false false (.slice none 0 0) 0 0 0
    refine bodyPost_ret (results_row_tmp rfl _ _ w.heap.size 26 _ (0, 0) _ rfl HRF Tryz.underlying26 rfl (by kernel_rfl)) rfl ?_
    exact zero_post HN.out (by decide) (below_fillX HBQ.out (Nat.le_refl _) _ _ _ _ _ _ _ _ _ _ _)
end Go.Proofs.YtjfkecadfnepjaaGreatDoor
