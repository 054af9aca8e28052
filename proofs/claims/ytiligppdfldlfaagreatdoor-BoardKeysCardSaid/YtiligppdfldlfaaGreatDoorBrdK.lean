/- gamehallkeep1.boarded: that a board works. -/
import Derived.Test.YtiligppdfldlfaaGreatDoorBrdS
import Derived.Test.YtiligppdfldlfaaGreatDoorSameP
import Derived.Test.YtiligppdfldlfaaGreatDoorEndN
import Derived.Test.YtiligppdfldlfaaGreatDoorPlayK
set_option maxRecDepth 100000
namespace Go.Proofs.YtiligppdfldlfaaGreatDoor
open Go.ChangeShapes Go.WideShapes Go.ChangeAt Go.RowKit

theorem put2_res : resultD three9 (afterD three9 nearD (-1, 2, 0)) = 1 := by decide +kernel
theorem put2_legal : legalB three9 nearD (-1, 2, 0) = true := by decide +kernel
set_option maxHeartbeats 4000000 in
theorem boarded_any (w : World) (hT : Dir w) : Calls Tryz.prog 7 #[] w (BelPost (.bool true) w) := by
  have HT := Lib.hid hT
  clear hT
  go_enter Tryz.func7, Tryz.ntmps7
  go_wp2_with fail
  go_at_call 42; refine (three_keep _).mono ?_; rintro e w1 ⟨vp1, vs1, ve1, rfl, hin, hb⟩
  have HB1 := Lib.hid hb
  have HI1 := Lib.hid hin
  clear hb hin
  go_wp2_with fail
  go_at_call 43; refine (near_any _).mono ?_; rintro e w2 ⟨uc, u0, u1, rfl, hpn, hb⟩
  have HB2 := Lib.hid (HB1.out.trans (hb.mono HB1.out.size))
  have HI2 := Lib.hid (HI1.out.below hb (Nat.le_refl _))
  have HN2 := Lib.hid hpn
  clear hb hpn HB1 HI1
  go_wp2_with fail
  go_at_call 8; refine (newB three9 nearD _ _ _ _ _ _ _ HI2.out HN2.out near_ok (HT.out.below HB2.out (Nat.le_refl _))).mono ?_; rintro e w3 ⟨bb, W1, rfl, hba⟩
  have HA := Lib.hid hba
  clear hba HI2 HN2
  go_wp2_with fail
  go_at_call 44; refine (put_any _ _).mono ?_; rintro e w4 ⟨rfl, hb⟩
  have HD := Lib.hid ((HA.out.keep hb).doOk near_res (-1, 2, 0) put2_legal (by simp))
  clear hb HA
  go_wp2_with fail
  go_at_call 11; refine HD.out.mono ?_; rintro e w5 ⟨rfl, hba⟩
  have HA5 := Lib.hid hba
  obtain ⟨q, hq⟩ : ∃ q, q = afterD three9 nearD (-1, 2, 0) := ⟨_, rfl⟩
  have HQ : Hid (resultD three9 q = 1) := Lib.hid (by rw [hq]; exact put2_res)
  rw [← hq] at HA5
  clear hba HD hq
  go_wp2_with fail
  have HR := Lib.hid HA5.out.result
  rw [HQ.out] at HR
  go_at_call 23; refine HR.out.mono ?_; rintro e w6 ⟨rfl, hb⟩
  have HA6 := Lib.hid (HA5.out.keep hb)
  clear hb HA5 HR
  have HL : Hid (Calls Tryz.prog 13 #[.pointer (some ⟨bb, 0, none⟩)] w6 (BelPost (.int .i64 1) w6)) := Lib.hid HA6.out.len
  go_wp2_with fail
  go_at_call 13; refine HL.out.mono ?_; rintro e w7 ⟨rfl, hb⟩
  have HA7 := Lib.hid (HA6.out.keep hb)
  clear hb HA6 HL
  go_wp2_with fail
  go_at_call 10; refine (HA7.out.over (by rw [HQ.out]; decide)).mono ?_; rintro e w8 ⟨rfl, hb⟩
  have HA8 := Lib.hid (HA7.out.keep hb)
  clear hb HA7
  go_wp2_with fail
  go_at_call 44; refine (put_any _ _).mono ?_; rintro e w9 ⟨rfl, hb⟩
  have HA9 := Lib.hid (HA8.out.keep hb)
  clear hb HA8
  go_wp2_with fail
  go_at_call 11; refine (HA9.out.doOver (by rw [HQ.out]; decide) (-1, 5, 0)).mono ?_; rintro e w10 ⟨rfl, hb⟩
  have HA10 := Lib.hid (HA9.out.keep hb)
  clear hb HA9
  go_wp2_with fail
  go_at_call 14; refine (HA10.out.undoOk (fs := []) (p := nearD) rfl (by simp)).mono ?_; rintro e w11 ⟨rfl, hba⟩
  have HA11 := Lib.hid hba
  clear hba HA10
  go_wp2_with fail
  go_at_call 16; refine HA11.out.position.mono ?_; rintro e w12 ⟨ca, cn, cc, a0, n0, c0, a1, n1, c1, rfl, hpf, hb⟩
  have HA12 := Lib.hid (HA11.out.keep hb)
  have HP12 := Lib.hid hpf.plain
  clear hb hpf HA11
  go_wp2_with fail
  go_at_call 43; refine (near_any _).mono ?_; rintro e w13 ⟨tc, t0, t1, rfl, hpn, hb⟩
  have HA13 := Lib.hid (HA12.out.keep hb)
  have HP13 := Lib.hid (HP12.out.below hb (Nat.le_refl _))
  have HN13 := Lib.hid hpn
  clear hb hpn HA12 HP12
  go_wp2_with fail
  go_at_call 15; refine (same_eq nearD _ _ _ _ _ _ _ HP13.out HN13.out near_ok.short).mono ?_; rintro e w14 ⟨rfl, hb⟩
  have HA14 := Lib.hid (HA13.out.keep hb)
  clear hb HA13 HP13 HN13
  have HTU : Hid (Calls Tryz.prog 28 #[.pointer (some ⟨bb, 0, none⟩)] w14 (BelPost (.int .i64 0) w14)) := Lib.hid HA14.out.turn
  go_wp2_with fail
  go_at_call 28; refine HTU.out.mono ?_; rintro e w15 ⟨rfl, hb⟩
  have HBE := Lib.hid (HB2.out.trans ((HA14.out.keep hb).bel.mono HB2.out.size))
  clear hb HA14 HTU HB2
  go_wp2_with fail
  go_ret
  exact ⟨rfl, HBE.out⟩
end Go.Proofs.YtiligppdfldlfaaGreatDoor
