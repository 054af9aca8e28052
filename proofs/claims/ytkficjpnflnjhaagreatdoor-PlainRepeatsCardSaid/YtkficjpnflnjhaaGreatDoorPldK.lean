/- gamehallkeep1.played: that a game works. -/
import Derived.Test.YtkficjpnflnjhaaGreatDoorGmeT
import Derived.Test.YtkficjpnflnjhaaGreatDoorPlayK
set_option maxRecDepth 100000
namespace Go.Proofs.YtkficjpnflnjhaaGreatDoor
open Go.ChangeShapes Go.WideShapes Go.ChangeAt Go.RowKit

set_option maxHeartbeats 8000000 in
theorem played_any (w : World) (hT : Dir w) : Calls Tryz.prog 7 #[] w (BelPost (.bool true) w) := by
  have HT : Hid (∀ W, Below w.heap.size w W → Dir W) := Lib.hid (fun W h => hT.below h (Nat.le_refl _))
  clear hT
  go_enter Tryz.func7, Tryz.ntmps7
  go_wp2_with fail
  go_at_call 21; refine (three_keep _).mono ?_; rintro e w1 ⟨vp1, vs1, ve1, rfl, hin, hb⟩
  have HB1 := Lib.hid hb
  have HI1 := Lib.hid hin
  clear hb hin
  go_wp2_with fail
  go_at_call 35; refine (put_any _ _).mono ?_; rintro e w2 ⟨rfl, hb⟩
  have HB2 := Lib.hid (HB1.out.trans (hb.mono HB1.out.size))
  have HI2 := Lib.hid (HI1.out.below hb (Nat.le_refl _))
  clear hb HB1 HI1
  go_wp2_with fail
  go_at_call 35; refine (put_any _ _).mono ?_; rintro e w3 ⟨rfl, hb⟩
  have HB3 := Lib.hid (HB2.out.trans (hb.mono HB2.out.size))
  have HI3 := Lib.hid (HI2.out.below hb (Nat.le_refl _))
  clear hb HB2 HI2
  go_wp2_with fail
  go_at_call 35; refine (put_any _ _).mono ?_; rintro e w4 ⟨rfl, hb⟩
  have HB4 := Lib.hid (HB3.out.trans (hb.mono HB3.out.size))
  have HI4 := Lib.hid (HI3.out.below hb (Nat.le_refl _))
  clear hb HB3 HI3
  go_wp2_with fail
  go_at_call 35; refine (put_any _ _).mono ?_; rintro e w5 ⟨rfl, hb⟩
  have HB5 := Lib.hid (HB4.out.trans (hb.mono HB4.out.size))
  have HI5 := Lib.hid (HI4.out.below hb (Nat.le_refl _))
  clear hb HB4 HI4
  go_wp2_with fail
  go_at_call 35; refine (put_any _ _).mono ?_; rintro e w6 ⟨rfl, hb⟩
  have HB6 := Lib.hid (HB5.out.trans (hb.mono HB5.out.size))
  have HI6 := Lib.hid (HI5.out.below hb (Nat.le_refl _))
  clear hb HB5 HI5
  go_wp2_with fail
  have hal := (Below.refl w6.heap.size w6).alloc (Nat.le_refl _) (.cells fiveV 43)
  have hnw := heap_alloc_new w6 (.cells fiveV 43)
  have HB7 := Lib.hid (HB6.out.trans (hal.mono HB6.out.size))
  have HRN := Lib.hid (run_five vp1 vs1 ve1 w6.heap.size _ (HI6.out.below hal (Nat.le_refl _)) (HT.out _ HB7.out) hnw)
  unfold fiveV at HB7 HRN
  clear hal hnw HB6 HI6
  go_at_call 16; refine HRN.out.mono ?_; rintro e w8 ⟨q, hq9, ca, cn, cc, a0, n0, c0, a1, n1, c1, rfl, hpf, hb⟩
  have hcn : cn = 9 := by
    have := hpf.plain.c.shape rfl
    obtain ⟨b, cap, e1, _, _⟩ := this
    simp only [Value.slice.injEq] at e1
    omega
  subst hcn
  have hb8 := HB7.out.trans (hb.mono HB7.out.size)
  have hX := boxP_new w8 q (.slice ca 9 cc) (.slice a0 n0 c0) (.slice a1 n1 c1) 38
  have hal := (Below.refl w8.heap.size w8).alloc (Nat.le_refl _) (.cells (PlaceCells q (.slice ca 9 cc) (.slice a0 n0 c0) (.slice a1 n1 c1)) 38)
  have hlt9 : w8.heap.size < (w8.alloc (.cells (PlaceCells q (.slice ca 9 cc) (.slice a0 n0 c0) (.slice a1 n1 c1)) 38)).heap.size := by simp
  have HB9 := Lib.hid (hb8.trans (hal.mono hb8.size))
  have HX9 : Hid (∀ W, Below (w8.alloc (.cells (PlaceCells q (.slice ca 9 cc) (.slice a0 n0 c0) (.slice a1 n1 c1)) 38)).heap.size (w8.alloc (.cells (PlaceCells q (.slice ca 9 cc) (.slice a0 n0 c0) (.slice a1 n1 c1)) 38)) W → W.cell? ⟨w8.heap.size, 0, none⟩ = some (.slice ca 9 cc)) := Lib.hid (fun W h => (hX.below h (Nat.le_refl _)).1)
  unfold PlaceCells at HB9 HX9 hlt9
  clear hb hb8 hX hal hpf hq9 HB7 HRN
  go_wp2_with fail
  generalize w8.alloc (.cells #[.slice ca 9 cc, .slice a0 n0 c0, .slice a1 n1 c1, .int .i64 q.turn, .int .i64 q.quiet] 38) = w9 at HB9 HX9 hlt9 ⊢
  generalize w8.heap.size = pb at HX9 hlt9 ⊢
  go_at_call 21; refine (three_keep _).mono ?_; rintro e w10 ⟨vp2, vs2, ve2, rfl, hin, hb⟩
  have HK10 := Lib.hid hb
  have hb10 := HB9.out.trans (hb.mono HB9.out.size)
  have HN := Lib.hid (newG three9 vp2 vs2 ve2 _ hin rules9 (HT.out _ hb10))
  have HB10 := Lib.hid hb10
  clear hb hb10 hin
  go_wp2_with fail
  go_at_call 9; refine HN.out.mono ?_; rintro e w11 ⟨bb, W1, rfl, hga⟩
  have HA := Lib.hid hga
  have HK11 := Lib.hid (HK10.out.trans (hga.bel.mono HK10.out.size))
  have HB11 := Lib.hid (HB10.out.trans (hga.bel.mono HB10.out.size))
  clear hga HN HK10
  go_wp2_with fail
  go_at_call 36; refine (fine2 w11 _ rfl).mono ?_; rintro e w12 ⟨rfl, hb⟩
  have HA12 := Lib.hid (HA.out.keep hb)
  have x0 := HX9.out _ (HK11.out.trans (hb.mono HK11.out.size))
  clear hb HA HX9 HK11
  go_wp2_with fail
  go_at_call 35; refine (put_any _ _).mono ?_; rintro e w13 ⟨rfl, hb⟩
  have HP := Lib.hid ((HA12.out.keep hb).bad (by decide) res9 (-1, 9, 0) put9)
  have HA13 := Lib.hid (HA12.out.keep hb)
  clear hb HA12 x0
  go_wp2_with fail
  go_at_call 14; refine HP.out.mono ?_; rintro e w14 ⟨rfl, hb⟩
  have HA14 := Lib.hid (HA13.out.keep hb)
  clear hb HA13 HP
  go_wp2_with fail
  go_at_call 35; refine (put_any _ _).mono ?_; rintro e w15 ⟨rfl, hb⟩
  have HP := Lib.hid ((HA14.out.keep hb).play (by decide) res9 (-1, 4, 0) put4)
  clear hb HA14
  go_wp2_with fail
  go_at_call 14; refine HP.out.mono ?_; rintro e w16 ⟨rfl, hga⟩
  have HA16 := Lib.hid hga
  have HC : Hid (Calls Tryz.prog 22 #[.pointer (some ⟨bb, 0, none⟩)] w16 (BelPost (.int .i64 1) w16)) := Lib.hid (by
    have h := hga.count (by decide)
    rw [List.nil_append, count4] at h
    exact h)
  clear hga HP
  go_wp2_with fail
  go_at_call 22; refine HC.out.mono ?_; rintro e w17 ⟨rfl, hb⟩
  have HA17 := Lib.hid (HA16.out.keep hb)
  clear hb HA16 HC
  obtain ⟨p, fs, hfs, hbk⟩ := HA17.out.back (ns := []) rfl (by decide)
  have HBK := Lib.hid hbk
  clear hbk hfs
  go_wp2_with fail
  go_at_call 10; refine (HBK.out _ (Below.refl _ _)).mono ?_; rintro e w18 ⟨rfl, hga⟩
  have HA18 := Lib.hid hga
  clear hga HBK HA17
  go_wp2_with fail
  go_at_call 10; refine (HA18.out.backNone rfl).mono ?_; rintro e w19 ⟨rfl, hb⟩
  have HA19 := Lib.hid (HA18.out.keep hb)
  clear hb HA18
  go_wp2_with fail
  go_at_call 17; refine (HA19.out.moves (by decide)).mono ?_; rintro e w20 ⟨la, ln, lc, rfl, hI, hln, hb⟩
  have hln0 : ln = 0 := hln
  subst hln0
  have HBE := Lib.hid (HB10.out.trans ((HA19.out.keep hb).bel.mono HB10.out.size))
  clear hb hI HA19 HB10 HB11 HB9 hln
  go_wp2_with fail
  go_ret
  exact ⟨rfl, HBE.out⟩
end Go.Proofs.YtkficjpnflnjhaaGreatDoor
