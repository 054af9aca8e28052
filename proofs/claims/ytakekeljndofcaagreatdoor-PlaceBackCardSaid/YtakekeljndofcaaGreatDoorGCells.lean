/- guessCells: the cells of a board, guessed. -/
import Derived.Test.YtakekeljndofcaaGreatDoorGCell
import Derived.Test.YtakekeljndofcaaGreatDoorGHand
import Derived.Lib.ConvBytes
import Derived.Test.YtakekeljndofcaaGreatDoorZeros
set_option maxRecDepth 100000
namespace Go.Proofs.YtakekeljndofcaaGreatDoor
open Go.ChangeShapes Go.WideShapes Go.ChangeAt Go.RowKit Go.Sort

theorem cut_flat (c : UInt8) : ∀ l : List UInt8, (cutB c l).flatten.length ≤ l.length
  | [] => by simp [cutB]
  | x :: l => by
    have ih := cut_flat c l
    rw [cutB]
    split
    · rw [List.flatten_cons, List.nil_append, List.length_cons]; omega
    · rw [cut_split c l, List.flatten_cons, List.length_append] at ih
      simp only [List.flatten_cons, List.length_append, List.length_cons]
      omega
theorem below_cells {B b : Nat} {a : World} (hb : B ≤ b) : ∀ (vs : List Value) (o : Nat) (w : World), Below B a w → Below B a (w.setCells b o vs)
  | [], _, _, h => h
  | v :: r, o, w, h => below_cells hb r (o + 1) _ (h.setCell (by exact hb) v)
/-- strings.Split's row, turned. -/
theorem rev_words (g : Nat) (ls : List (List UInt8)) (W : World) (h : W.heap[g]? = some (.cells ((ls.map fun x => Value.string (str x)).toArray) 9 (0, 0))) (hn : ls.length ≤ 100000) :
    Calls Tryz.prog 55 #[.slice (some ⟨g, 0, none⟩) ls.length ls.length] W fun e w' => e = .returned (.tuple #[]) ∧ (∀ j x, ls.reverse[j]? = some x → w'.cell? ⟨g, j, none⟩ = some (.string (str x))) ∧ g < w'.heap.size ∧ ∀ B, B ≤ g → Below B W w' := by
  have hc : ∀ i, i < ls.length → W.cell? ⟨g, 0 + i, none⟩ = some (.string (str (ls.getD i []))) := fun i hi => by
    rw [Nat.zero_add, cell_of_row W g i _ _ (0, 0) h]
    simp [hi]
  have hd := Tryz.slices_Reverse_string_cells g 0 ls.length ls.length (fun i => str (ls.getD i [])) W (by omega) hc (fun j _ => by rw [Nat.zero_add]; exact frozen_of_row W g j _ _ h)
  have e0 : Lib.strsOf (fun i => str (ls.getD i [])) ls.length = ls := by
    apply List.ext_getElem?
    intro j
    rw [Lib.strsOf, List.getElem?_map]
    by_cases hj : j < ls.length
    · rw [List.getElem?_range hj, List.getElem?_eq_getElem hj]
      simp [List.getD, hj, str]
    · rw [List.getElem?_eq_none (by simpa using hj), List.getElem?_eq_none (by simpa using hj)]; rfl
  rw [e0] at hd
  refine hd.mono ?_
  rintro e w' ⟨rfl, q, rfl⟩
  have hbB : ∀ B, B ≤ g → Below B W ((W.drewN q).setCells g 0 (ls.reverse.map encStr)) := fun B hB => below_cells (b := g) hB _ 0 _ ⟨rfl, rfl, rfl, Nat.le_refl _, fun _ _ => rfl⟩
  have hall : ∀ j, j < ls.length → ((W.drewN q).cell? ⟨g, 0 + j, none⟩).isSome = true := by
    intro j hj
    have h2 := hc j hj
    show (W.cell? ⟨g, 0 + j, none⟩).isSome = true
    rw [h2]; rfl
  refine ⟨rfl, fun j x hx => ?_, Nat.lt_of_lt_of_le (Array.getElem?_eq_some_iff.1 h).1 (hbB 0 (Nat.zero_le _)).size, hbB⟩
  have hjl : j < ls.reverse.length := (List.getElem?_eq_some_iff.1 hx).1
  have h3 := World.cell?_setCells_in g (ls.reverse.map encStr) 0 (W.drewN q) (fun i hi => hall i (by simpa using hi)) j (by simpa using hjl)
  rw [Nat.zero_add] at h3
  rw [h3, List.getElem_map]
  have := (List.getElem?_eq_some_iff.1 hx).2
  rw [this]; rfl
theorem join_flat : ∀ ls : List (List UInt8), Lib.join ls [] = ls.flatten
  | [] => by simp [Lib.join]
  | x :: r => by
    have ht : ∀ l : List (List UInt8), Lib.joinTail [] l = l.flatten := by intro l; simp [Lib.joinTail]
    rw [Lib.join_cons, ht, List.flatten_cons]
theorem join_none {g : Nat} {ls : List (List UInt8)} {W : World} (hc : ∀ j x, ls[j]? = some x → W.cell? ⟨g, j, none⟩ = some (.string (str x))) (hg : g < W.heap.size) (hl : ls.flatten.length ≤ 100000) (hn : ls.length ≤ 100000) :
    Calls Tryz.prog 15 #[.slice (some ⟨g, 0, none⟩) ls.length ls.length, .string ⟨#[]⟩] W (StrP ls.flatten W) := by
  have e1 : (ls.map str).map (·.data.toList) = ls := by
    rw [List.map_map]
    have : ((fun x : ByteArray => x.data.toList) ∘ str) = id := by funext x; simp [str]
    rw [this, List.map_id]
  have h1 := Tryz.strings_Join g 0 ls.length (ls.map str) ⟨#[]⟩ W (by
    intro j x hx
    rw [List.getElem?_map, Option.map_eq_some_iff] at hx
    obtain ⟨y, hy, rfl⟩ := hx
    rw [Nat.zero_add]; exact hc j y hy) hg (by rw [List.length_map]; omega) (by rw [List.length_map]; exact Nat.le_refl _) (by
    rw [e1]
    have : (⟨#[]⟩ : ByteArray).data.toList = [] := rfl
    rw [this, join_flat]; omega)
  rw [e1, List.length_map] at h1
  have e2 : Lib.join ls (⟨#[]⟩ : ByteArray).data.toList = ls.flatten := join_flat ls
  rw [e2] at h1
  exact h1
/-- Bytes, in a block of their own. -/
def BytesAt (W : World) (bb n : Nat) (l : List UInt8) : Prop := ∀ t, t < n → W.cell? ⟨bb, t, none⟩ = some (.int .u8 ((l[t]?.getD 0).toNat : Int))
theorem conv_bytes (l : List UInt8) (n : Nat) (W : World) (hn : n = l.length) : ∃ G Wb, (convert 9 59 (.string (str l))).run Tryz.prog W = .ok (.slice (some ⟨W.heap.size, 0, none⟩) n G) Wb ∧ Below W.heap.size W Wb ∧ BytesAt Wb W.heap.size n l ∧ W.heap.size < Wb.heap.size := by
  have h := Lib.run_convert_string_bytes (P := Tryz.prog) W 9 59 5 (str l) Tryz.underlying9 Tryz.underlying59 Tryz.underlying5
  rw [str_size, ← hn] at h
  exact ⟨_, _, h, Lib.bytesWorld_below _ _ _, fun t ht => by rw [Lib.bytesWorld_cell W _ (str l) t (by rw [str_size]; omega), data_str, List.getD], by rw [Lib.bytesWorld_size]; omega⟩
set_option maxHeartbeats 8000000 in
theorem guessCells_any (r : RulesD) (vp vs ve : Value) (S : List UInt8) (w : World) (hr : IsSl PieceAt 4 w vp r.pieces) (h6 : r.pieces.length ≤ 6) (hcap : ∀ x ∈ r.pieces, 65 ≤ x.letter ∧ x.letter ≤ 90) (hS : S.length ≤ 8192) (hE : Env w.heap.size w) :
    Calls Tryz.prog 37 #[RulesV r vp vs ve, .string (str S)] w (IntsP (guessCells r.pieces S) w) := by
  obtain ⟨i0, hi, hz0, hz1, hz2⟩ := info_parts infoIntR
  have HEV : Hid (∀ W, Below w.heap.size w W → Env W.heap.size W) := Lib.hid (fun W h => hE.up h h.size)
  obtain ⟨ls, hls⟩ : ∃ ls, ls = cutB 47 S := ⟨_, rfl⟩
  obtain ⟨nl, hnl⟩ : ∃ nl, nl = ls.length := ⟨_, rfl⟩
  obtain ⟨J, hJ⟩ : ∃ J, J = ls.reverse.flatten := ⟨_, rfl⟩
  have hl1 : nl ≤ 8193 := by rw [hnl, hls]; have := cut_len 47 S; omega
  have hJl : J.length ≤ 8192 := by
    have h1 := cut_flat 47 S
    have h2 : ls.reverse.flatten.length = ls.flatten.length := by simp [List.length_flatten]
    rw [hJ, h2, hls]; omega
  have HSP : Hid (∀ W, Below w.heap.size w W → Calls Tryz.prog 36 #[.string (str S), .string ⟨#[47]⟩] W fun e w' => e = .returned (.slice (some ⟨W.heap.size, 0, none⟩) nl nl) ∧ w' = W.alloc (.cells (ls.map fun x => Value.string (str x)).toArray 9)) := Lib.hid (fun W h => by
    have h1 := split_any 47 (str S) W (by rw [str_size]; omega) (HEV.out W h)
    rwa [data_str, ← hls, ← hnl] at h1)
  have HRV : Hid (∀ g W, W.heap[g]? = some (.cells ((ls.map fun x => Value.string (str x)).toArray) 9 (0, 0)) → Calls Tryz.prog 55 #[.slice (some ⟨g, 0, none⟩) nl nl] W fun e w' => e = .returned (.tuple #[]) ∧ (∀ j x, ls.reverse[j]? = some x → w'.cell? ⟨g, j, none⟩ = some (.string (str x))) ∧ g < w'.heap.size ∧ ∀ B, B ≤ g → Below B W w') := Lib.hid (fun g W h => by
    have h1 := rev_words g ls W h (by omega)
    rwa [← hnl] at h1)
  have HJN : Hid (∀ g W, (∀ j x, ls.reverse[j]? = some x → W.cell? ⟨g, j, none⟩ = some (.string (str x))) → g < W.heap.size → Calls Tryz.prog 15 #[.slice (some ⟨g, 0, none⟩) nl nl, .string ⟨#[]⟩] W (StrP J W)) := Lib.hid (fun g W h h2 => by
    have h1 := join_none h h2 (by rw [← hJ]; omega) (by rw [List.length_reverse]; omega)
    rwa [List.length_reverse, ← hnl, ← hJ] at h1)
  have HGC : Hid (∀ c W, Below w.heap.size w W → Calls Tryz.prog 57 #[RulesV r vp vs ve, .int .u8 ((c : UInt8).toNat : Int)] W (BelPost (.int .i64 (guessCell r.pieces c)) W)) := Lib.hid (fun c W h => guessCell_any r vp vs ve c W (hr.below piece_keeps h (Nat.le_refl _)) h6 hcap)
  have HRES : Hid (guessCells r.pieces S = decL r.pieces J) := Lib.hid (by rw [guessCells, hJ, hls])
  obtain ⟨jn, hjn⟩ : ∃ jn, jn = J.length := ⟨_, rfl⟩
  have HJL := Lib.hid hjn
  have hjn8 : jn ≤ 8192 := by omega
  have hX := boxR_new w r vp vs ve 26
  have HX := Lib.hid hX
  have HB := Lib.hid ((Below.refl w.heap.size w).alloc (Nat.le_refl _) (.cells (RulesCells r vp vs ve) 26))
  obtain ⟨w1, hw1⟩ : ∃ w1, w1 = w.alloc (.cells (RulesCells r vp vs ve) 26) := ⟨_, rfl⟩
  have HW1 : Hid (w.alloc (.cells #[.string r.name, .int .i64 r.width, .int .i64 r.height, vp, vs, .bool r.falls, .bool r.keeps, ve, .int .i64 r.blocked, .int .i64 r.quiet, .int .i64 r.rep] 26) = w1) := Lib.hid hw1.symm
  rw [← hw1] at HX HB
  unfold RulesV at HGC ⊢
  clear hr h6 hcap hS hE hls hnl hJ hJl hX hw1 hjn
  go_enter Tryz.func37, Tryz.ntmps37
  go_wp2_with fail
  rw [HW1.out]
  clear HW1
  go_at_call 36; refine (HSP.out _ HB.out).mono ?_; rintro e w2 ⟨rfl, rfl⟩
  have hbk := heap_alloc_new w1 (.cells (ls.map fun x => Value.string (str x)).toArray 9)
  have hal := (Below.refl w1.heap.size w1).alloc (Nat.le_refl _) (.cells (ls.map fun x => Value.string (str x)).toArray 9)
  have HB2 := Lib.hid hal
  have HBK := Lib.hid hbk
  clear hal hbk
  obtain ⟨g, hg⟩ : ∃ g, g = w1.heap.size := ⟨_, rfl⟩
  rw [← hg] at HBK ⊢
  have HGE : Hid (w1.heap.size ≤ g) := Lib.hid (by omega)
  clear hg
  generalize w1.alloc (.cells (ls.map fun x => Value.string (str x)).toArray 9) = w2 at HBK HB2 ⊢
  go_wp2_with fail
  go_at_call 55; refine (HRV.out g w2 HBK.out).mono ?_; rintro e w3 ⟨rfl, hcs, hg3, hb⟩
  have HB3 := Lib.hid (HB2.out.trans (hb w1.heap.size HGE.out))
  have HCS := Lib.hid hcs
  have HG3 := Lib.hid hg3
  clear hb hcs hg3 HB2 HBK
  go_wp2_with fail
  go_at_call 15; refine (HJN.out g w3 HCS.out HG3.out).mono ?_; rintro e w4 ⟨rfl, hb⟩
  have HB4 := Lib.hid (HB3.out.trans (hb.mono HB3.out.size))
  clear hb HB3 HCS HG3
  obtain ⟨G, Wb, hcv, hbb, hby, hlt⟩ := conv_bytes J jn w4 HJL.out
  have HB5 := Lib.hid (HB4.out.trans (hbb.mono HB4.out.size))
  have HBY := Lib.hid hby
  generalize w4.heap.size = bb at hcv HBY hlt ⊢
  have HLT := Lib.hid hlt
  clear hbb hby hlt HB4
  go_wp2_with fail
  obtain ⟨B0, hB0⟩ : ∃ B0, B0 = Wb.heap.size := ⟨_, rfl⟩
  have HB0 := Lib.hid hB0
  go_loopw [6, 8, 17] (fun v6 _ i wr => ∃ k m : Nat, k ≤ jn ∧ i = .int .i64 (k : Int) ∧ wr.ownsRow B0 3 1 v6 m ((decL r.pieces (J.take k)).map (.int .i64)) ∧ m ≤ 9 * k ∧ Hid (Below B0 Wb wr)) (fun _ _ i _ => jn - (intOf i).toNat)
  case atStart => exact ⟨0, 0, by omega, rfl, World.ownsRow_nil _ _ _ _, by omega, Lib.hid (by rw [hB0]; exact Below.refl _ _)⟩
  case round =>
    clear hB0
    obtain ⟨k, m, hk, rfl, hown, hm9, hbel⟩ := hrel
    have hbs : B0 ≤ wr.heap.size := by have := hbel.out.size; have := HB0.out; omega
    have hbw : Below w.heap.size w wr := (HB.out.trans (HB5.out.mono HB.out.size)).trans (hbel.out.mono (by rw [HB0.out]; exact Nat.le_trans HB.out.size HB5.out.size))
    have HBW := Lib.hid hbw
    by_cases hlt : k < jn
    · obtain ⟨c, hc⟩ : ∃ c, J[k]? = some c := ⟨_, List.getElem?_eq_getElem (by rw [← HJL.out]; exact hlt)⟩
      have c0 : wr.cell? ⟨bb, k, none⟩ = some (.int .u8 (c.toNat : Int)) := by
        have h1 := HBY.out k hlt
        rw [hc] at h1
        exact (hbel.out.cell (p := ⟨bb, k, none⟩) (by rw [HB0.out]; exact HLT.out)).trans h1
      obtain ⟨z, hz⟩ : ∃ z, z = Lib.indexByte digL c := ⟨_, rfl⟩
      have hzi := dig_index c
      rw [← hz] at hzi
      have HIX : Hid (∀ W, Calls Tryz.prog 56 #[.string ⟨#[48, 49, 50, 51, 52, 53, 54, 55, 56, 57]⟩, .int .u8 (c.toNat : Int)] W fun e w' => e = .returned (.int .i64 z) ∧ W = w') := Lib.hid (fun W => by
        have h1 := Tryz.strings_IndexByte ⟨#[48, 49, 50, 51, 52, 53, 54, 55, 56, 57]⟩ (c.toNat : Int) W
        have e1 : ((c.toNat : Int)).toNat.toUInt8 = c := by rw [Int.toNat_natCast]; exact UInt8.ofNat_toNat
        rw [e1] at h1
        rw [hz]
        exact turned h1)
      have HSU : Hid ((decL r.pieces (J.take (k + 1))).map (Value.int .i64) = (decL r.pieces (J.take k)).map (Value.int .i64) ++ (decB r.pieces c).map (Value.int .i64)) := Lib.hid (by rw [decL_succ hc, List.map_append])
      have HOW := Lib.hid hown
      clear hc hz hown hbw
      by_cases hd : isDig c = true
      · have hz0' : (0 : Int) ≤ z := by rw [hd] at hzi; exact of_decide_eq_true hzi
        obtain ⟨d, hdd⟩ : ∃ d, d = c.toNat - 48 := ⟨_, rfl⟩
        have hd2 : 48 ≤ c.toNat ∧ c.toNat ≤ 57 := by simpa [isDig] using hd
        have HDB : Hid ((decB r.pieces c).map (Value.int .i64) = List.replicate d (.int .i64 0)) := Lib.hid (by rw [decB, if_pos hd, List.map_replicate, hdd])
        have q1 : IntKind.u8.wrap ((c.toNat : Int) - 48) = (d : Int) := by
          rw [show (c.toNat : Int) - 48 = (d : Int) by omega]
          simp [IntKind.wrap, IntKind.signed, IntKind.bits]; omega
        have q2 : IntKind.i64.wrap (d : Int) = (d : Int) := IntWalk.i64_in _ (by omega)
        have hd9 : d ≤ 9 := by omega
        clear hzi hd hdd hd2
        go_wp2_with fail
        go_at_call 56; refine (HIX.out _).mono ?_; rintro e w' ⟨rfl, rfl⟩
        go_wp2_with (at_builtin; obtain ⟨v', w5, hr5, hown5, hgrow5⟩ := append_zeros B0 i0 hi hz0 hz1 hz2 wr _ m _ HOW.out d (by omega) hbs; refine Lib.wpList_append_run _ rfl _ _ _ _ rfl _ _ rfl rfl _ _ hr5 ?_)
        refine ⟨⟨k + 1, m + d, by omega, by go_num, by rw [HSU.out, HDB.out]; exact hown5, by omega, Lib.hid (hbel.out.grown hgrow5 hbs (fun k e => (HOW.out.lt k e).1))⟩, by simp [intOf]; omega⟩
      · have hz0' : ¬ ((0 : Int) ≤ z) := fun h => hd (by rw [← hzi]; exact decide_eq_true h)
        have HDB : Hid ((decB r.pieces c).map (Value.int .i64) = [.int .i64 (guessCell r.pieces c)]) := Lib.hid (by rw [decB, if_neg hd]; rfl)
        have HG := Lib.hid (HGC.out c wr HBW.out)
        obtain ⟨gc, hgc⟩ : ∃ gc, gc = guessCell r.pieces c := ⟨_, rfl⟩
        rw [← hgc] at HG HDB
        obtain ⟨x0, x1, x2, x3, x4, x5, x6, x7, x8, x9, x10⟩ := HX.out.below ((HB5.out.trans (hbel.out.mono (by rw [HB0.out]; exact HB5.out.size)))) (Nat.le_refl _)
        clear hzi hd hgc
        go_wp2_with fail
        go_at_call 56; refine (HIX.out _).mono ?_; rintro e w' ⟨rfl, rfl⟩
        go_wp2_with fail
        go_at_call 57; refine HG.out.mono ?_; rintro e w5 ⟨rfl, hb⟩
        have HB6 := Lib.hid (hbel.out.trans (hb.mono hbs))
        have ho5 := own_keepP HOW.out hb
        have hs5 : B0 ≤ w5.heap.size := Nat.le_trans hbs hb.size
        clear hb x0 x1 x2 x3 x4 x5 x6 x7 x8 x9 x10 c0
        go_wp2_with (at_builtin; refine wpList_append_own _ rfl _ _ 23 rfl B0 3 i0 (.int .i64 0) 1 8 Tryz.underlying23 hi hz0 hz1 hz2 rfl (by decide) _ _ _ rfl (ho5.alloc _) ⟨w5.heap.size, 0, none⟩ 1 1 [.int .i64 gc] rfl rfl (cell_one_new _ _ _) (by simp [Value.oneCell']) (by unfold maxLen; omega) (by omega) (by simp; omega) ?_; intro v' w6 hown6 hgrow6 _)
        have hb6 : Below B0 Wb w6 := (HB6.out.alloc hs5 _).grown hgrow6 (by simp; omega) (fun k e => (ho5.lt k e).1)
        refine ⟨⟨k + 1, m + 1, by omega, by go_num, by rw [HSU.out, HDB.out]; exact hown6, by omega, Lib.hid hb6⟩, by simp [intOf]; omega⟩
    · obtain rfl : k = jn := by omega
      have hl : m = (decL r.pieces (J.take k)).length := by have := hown.1; rw [List.length_map] at this; omega
      have hi2 := ints_of_ownB (d := fun k => w.heap.size ≤ k) hown hl (fun k hk => Nat.le_trans (Nat.le_trans HB.out.size HB5.out.size) (by rw [← HB0.out]; exact hk))
      have ht : J.take k = J := List.take_of_length_le (by rw [← HJL.out]; exact Nat.le_refl _)
      rw [ht, ← HRES.out] at hi2
      obtain ⟨ra, rn, rc, rfl⟩ := hi2.form
      have HI := Lib.hid hi2
      clear hown hi2 hl ht hbw
      go_wp2_with fail
      go_ret
      exact ⟨_, _, _, rfl, HI.out, HBW.out⟩
end Go.Proofs.YtakekeljndofcaaGreatDoor
