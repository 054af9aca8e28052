/- gamehallkeep1.keyed: that keys are computed. -/
import Derived.Test.YtiligppdfldlfaaGreatDoorZobC
import Derived.Test.YtiligppdfldlfaaGreatDoorPlayD
import Derived.Test.YtiligppdfldlfaaGreatDoorPlayK
import Derived.Test.YtiligppdfldlfaaGreatDoorFine
set_option maxRecDepth 100000
namespace Go.Proofs.YtiligppdfldlfaaGreatDoor
open Go.ChangeShapes Go.WideShapes Go.ChangeAt Go.RowKit

theorem put2_E : afterE three9 nearD (-1, 2, 0) = 0 := by decide +kernel
theorem keyed_eq : keyZ (afterD three9 nearD (-1, 2, 0)) - keyZ nearD = mixZ 33 - mixZ 2000 + mixZ 3000 := by decide +kernel
theorem mix33_ne : mixZ 33 ≠ 0#64 := by decide +kernel
set_option maxHeartbeats 4000000 in
theorem keyed_any (w : World) : Calls Tryz.prog 17 #[] w (BelPost (.bool true) w) := by
  obtain ⟨k0, hk0⟩ : ∃ k, k = keyZ nearD := ⟨_, rfl⟩
  obtain ⟨c0, hc0⟩ : ∃ c, c = keyZ (afterD three9 nearD (-1, 2, 0)) := ⟨_, rfl⟩
  obtain ⟨M1, hM1⟩ : ∃ M, M = mixZ 33 := ⟨_, rfl⟩
  obtain ⟨M2, hM2⟩ : ∃ M, M = mixZ 2000 := ⟨_, rfl⟩
  obtain ⟨M3, hM3⟩ : ∃ M, M = mixZ 3000 := ⟨_, rfl⟩
  obtain ⟨D, hD⟩ : ∃ D, D = c0 - k0 := ⟨_, rfl⟩
  obtain ⟨E, hE⟩ : ∃ E, E = M1 - M2 := ⟨_, rfl⟩
  have e1 : IntKind.u64.wrap ((c0.toNat : Int) - (k0.toNat : Int)) = (D.toNat : Int) := by rw [b_sub, hD]
  have e2 : IntKind.u64.wrap ((M1.toNat : Int) - (M2.toNat : Int)) = (E.toNat : Int) := by rw [b_sub, hE]
  have e3 : IntKind.u64.wrap ((E.toNat : Int) + (M3.toNat : Int)) = (D.toNat : Int) := by rw [b_add, hE, hD, hc0, hk0, hM1, hM2, hM3, keyed_eq]
  have e4 : ((M1.toNat : Int) != 0) = true := by
    have h : M1.toNat ≠ 0 := fun h => mix33_ne (by rw [← hM1]; exact BitVec.eq_of_toNat_eq h)
    simp only [bne_iff_ne, ne_eq]; omega
  have e5 : ((D.toNat : Int) == (D.toNat : Int)) = true := by simp
  have HM1 : Hid (∀ W, Calls Tryz.prog 40 #[.int .i64 33] W fun e w' => e = .returned (.int .u64 (M1.toNat : Int)) ∧ W = w') := Lib.hid (fun W => by rw [hM1]; exact turned (mix_any _ W))
  have HM2 : Hid (∀ W, Calls Tryz.prog 40 #[.int .i64 2000] W fun e w' => e = .returned (.int .u64 (M2.toNat : Int)) ∧ W = w') := Lib.hid (fun W => by rw [hM2]; exact turned (mix_any _ W))
  have HM3 : Hid (∀ W, Calls Tryz.prog 40 #[.int .i64 3000] W fun e w' => e = .returned (.int .u64 (M3.toNat : Int)) ∧ W = w') := Lib.hid (fun W => by rw [hM3]; exact turned (mix_any _ W))
  have HK : Hid (∀ vp vs ve vc v0 v1 W, RulesIn W three9 vp vs ve → PlaceIn W nearD vc v0 v1 → Calls Tryz.prog 19 #[RulesV three9 vp vs ve, PlaceV nearD vc v0 v1] W (KPost (k0.toNat : Int) 0 W)) := Lib.hid (fun vp vs ve vc v0 v1 W h1 h2 => by
    have h := key_any three9 nearD vp vs ve vc v0 v1 W h1 h2
    have hz : placeE three9 nearD = 0 := placeE_iff.2 near_ok
    rwa [keyI, if_pos hz, hz, ← hk0] at h)
  have HC : Hid (∀ vp vs ve vc v0 v1 W, RulesIn W three9 vp vs ve → PlaceIn W nearD vc v0 v1 → Calls Tryz.prog 49 #[RulesV three9 vp vs ve, PlaceV nearD vc v0 v1, .agg #[.int .i64 (-1), .int .i64 2, .int .i64 0]] W (KPost (c0.toNat : Int) 0 W)) := Lib.hid (fun vp vs ve vc v0 v1 W h1 h2 => by
    have h := change_any three9 nearD vp vs ve vc v0 v1 (-1, 2, 0) W h1 h2
    rwa [changeI, if_pos put2_E, put2_E, ← hc0] at h)
  clear hk0 hc0 hM1 hM2 hM3 hD hE
  go_enter Tryz.func17, Tryz.ntmps17
  go_wp2_with fail
  go_at_call 42; refine (three_keep _).mono ?_; rintro e w1 ⟨vp1, vs1, ve1, rfl, hin, hb⟩
  have HB1 := Lib.hid hb
  have HI1 := Lib.hid hin
  clear hb hin
  go_wp2_with fail
  go_at_call 43; refine (near_any _).mono ?_; rintro e w2 ⟨uc, u0, u1, rfl, hpn, hb⟩
  have HB2 := Lib.hid (HB1.out.trans (hb.mono HB1.out.size))
  have HI2 := Lib.hid (HI1.out.below hb (Nat.le_refl _))
  have HN2 := Lib.hid hpn
  clear hb hpn HB1 HI1
  go_wp2_with fail
  go_at_call 19; refine (HK.out _ _ _ _ _ _ _ HI2.out HN2.out).mono ?_; rintro e w3 ⟨rfl, hb⟩
  have HB3 := Lib.hid (HB2.out.trans (hb.mono HB2.out.size))
  clear hb HB2 HI2 HN2 HK
  go_wp2_with fail
  go_at_call 42; refine (three_keep _).mono ?_; rintro e w4 ⟨vp2, vs2, ve2, rfl, hin, hb⟩
  have HB4 := Lib.hid (HB3.out.trans (hb.mono HB3.out.size))
  have HI4 := Lib.hid hin
  clear hb hin HB3
  go_wp2_with fail
  go_at_call 43; refine (near_any _).mono ?_; rintro e w5 ⟨tc, t0, t1, rfl, hpn, hb⟩
  have HB5 := Lib.hid (HB4.out.trans (hb.mono HB4.out.size))
  have HI5 := Lib.hid (HI4.out.below hb (Nat.le_refl _))
  have HN5 := Lib.hid hpn
  clear hb hpn HB4 HI4
  go_wp2_with fail
  go_at_call 44; refine (put_any _ _).mono ?_; rintro e w6 ⟨rfl, hb⟩
  have HB6 := Lib.hid (HB5.out.trans (hb.mono HB5.out.size))
  have HI6 := Lib.hid (HI5.out.below hb (Nat.le_refl _))
  have HN6 := Lib.hid (HN5.out.below hb (Nat.le_refl _))
  clear hb HB5 HI5 HN5
  go_wp2_with fail
  go_at_call 49; refine (HC.out _ _ _ _ _ _ _ HI6.out HN6.out).mono ?_; rintro e w7 ⟨rfl, hb⟩
  have HB7 := Lib.hid (HB6.out.trans (hb.mono HB6.out.size))
  clear hb HB6 HI6 HN6 HC
  go_wp2_with fail
  go_at_call 22; refine (fine2 w7 _ rfl).mono ?_; rintro e w8 ⟨rfl, hb⟩
  have HB8 := Lib.hid (HB7.out.trans (hb.mono HB7.out.size))
  clear hb HB7
  go_wp2_with fail
  go_at_call 40; refine (HM1.out _).mono ?_; rintro e w' ⟨rfl, rfl⟩
  go_wp2_with fail
  go_at_call 40; refine (HM2.out _).mono ?_; rintro e w' ⟨rfl, rfl⟩
  go_wp2_with fail
  go_at_call 40; refine (HM3.out _).mono ?_; rintro e w' ⟨rfl, rfl⟩
  go_wp2_with fail
  go_at_call 40; refine (HM1.out _).mono ?_; rintro e w' ⟨rfl, rfl⟩
  go_wp2_with fail
  go_ret
  exact ⟨rfl, HB8.out⟩
end Go.Proofs.YtiligppdfldlfaaGreatDoor
