/- gamehallref1.Named: whether a text is a name. -/
import Derived.Test.YtakekeljndofcaaDoorName
namespace Go.Proofs.YtakekeljndofcaaDoor
open Go.ChangeShapes Go.WideShapes Go.ChangeAt Go.RowKit

theorem dig_cap {x : Int} (h : digB x = true) : capB x = false := by
  rw [digB, inB_iff] at h; rw [capB, inB_no]; omega
theorem wrap_byte (b : UInt8) : wrap64 ((b.toNat : Nat) : Int) = ((b.toNat : Nat) : Int) := by
  have := b.toNat_lt
  unfold wrap64; omega
set_option maxHeartbeats 2000000 in
theorem named_any (s : ByteArray) (w : World) (hs : s.size ≤ maxLen) :
    Calls Tryd.prog 24 #[.string s] w fun e w' => e = .returned (.bool (nameB s.data.toList)) ∧ w = w' := by
  unfold maxLen at hs
  go_enter Tryd.func24, Tryd.ntmps24
  go_wp2
  go_loop [7] (fun i => ∃ k : Nat, k ≤ s.size ∧ i = .int .i64 (k : Int) ∧ Hid (∀ j, j < k → (capB (nb s.data.toList j) || digB (nb s.data.toList j)) = true) ∧ Hid (0 < k → capB (nb s.data.toList 0) = true)) (fun i => s.size - (intOf i).toNat)
  case atStart => exact ⟨0, by omega, rfl, Lib.hid (fun j hj => by omega), Lib.hid (fun h => by omega)⟩
  case round =>
    obtain ⟨k, hk, rfl, hall, hfst⟩ := hrel
    by_cases hlt : k < s.size
    · have hn := nb_at s k hlt
      cases hd : digB (nb s.data.toList k)
      · cases hc : capB (nb s.data.toList k)
        · have K : Hid (false = nameB s.data.toList) := Lib.hid (nameB_bad (k := k) (by rw [size_list]; exact hlt) hc hd).symm
          rw [hn] at hc hd
          have HC : Hid (inB (wrap64 ↑(s[k]).toNat) 65 90 = false) := Lib.hid (by rw [wrap_byte]; exact hc)
          have HD : Hid (inB (wrap64 ↑(s[k]).toNat) 48 57 = false) := Lib.hid (by rw [wrap_byte]; exact hd)
          clear hc hd hn
          go_wp2_with fail
          go_at_call 21; refine (turned (in_any _ _ _ _)).mono ?_; rintro e w' ⟨rfl, rfl⟩
          rw [HD.out]
          go_wp2_with fail
          go_at_call 21; refine (turned (in_any _ _ _ _)).mono ?_; rintro e w' ⟨rfl, rfl⟩
          rw [HC.out]
          go_wp2_with fail
          go_ret
          exact ⟨ret_bool K.out, rfl⟩
        · have K : Hid ((capB (nb s.data.toList k) || digB (nb s.data.toList k)) = true ∧ (0 < k + 1 → capB (nb s.data.toList 0) = true)) := Lib.hid ⟨by rw [hc]; simp, fun _ => by
            by_cases e : k = 0
            · subst e; exact hc
            · exact hfst.out (by omega)⟩
          rw [hn] at hc hd
          have HC : Hid (inB (wrap64 ↑(s[k]).toNat) 65 90 = true) := Lib.hid (by rw [wrap_byte]; exact hc)
          have HD : Hid (inB (wrap64 ↑(s[k]).toNat) 48 57 = false) := Lib.hid (by rw [wrap_byte]; exact hd)
          clear hc hd hn
          go_wp2_with fail
          go_at_call 21; refine (turned (in_any _ _ _ _)).mono ?_; rintro e w' ⟨rfl, rfl⟩
          rw [HD.out]
          go_wp2_with fail
          go_at_call 21; refine (turned (in_any _ _ _ _)).mono ?_; rintro e w' ⟨rfl, rfl⟩
          rw [HC.out]
          go_wp2_with fail
          go_round
          case rel =>
            refine ⟨k + 1, by omega, by go_num, Lib.hid (fun j hj => ?_), Lib.hid K.out.2⟩
            by_cases e : j = k
            · rw [e]; exact K.out.1
            · exact hall.out j (by omega)
          case measure => simp [intOf]; omega
      · by_cases h0 : k = 0
        · subst h0
          have K : Hid (false = nameB s.data.toList) := Lib.hid (nameB_first (dig_cap hd)).symm
          rw [hn] at hd
          have HD : Hid (inB (wrap64 ↑(s[0]).toNat) 48 57 = true) := Lib.hid (by rw [wrap_byte]; exact hd)
          clear hd hn
          go_wp2_with fail
          go_at_call 21; refine (turned (in_any _ _ _ _)).mono ?_; rintro e w' ⟨rfl, rfl⟩
          rw [HD.out]
          go_wp2_with fail
          go_ret
          exact ⟨ret_bool K.out, rfl⟩
        · have K : Hid ((capB (nb s.data.toList k) || digB (nb s.data.toList k)) = true ∧ (0 < k + 1 → capB (nb s.data.toList 0) = true)) := Lib.hid ⟨by rw [hd]; simp, fun _ => hfst.out (by omega)⟩
          rw [hn] at hd
          have HD : Hid (inB (wrap64 ↑(s[k]).toNat) 48 57 = true) := Lib.hid (by rw [wrap_byte]; exact hd)
          have hne : ((k : Int) == 0) = false := by simp; omega
          clear hd hn
          go_wp2_with fail
          go_at_call 21; refine (turned (in_any _ _ _ _)).mono ?_; rintro e w' ⟨rfl, rfl⟩
          rw [HD.out]
          go_wp2_with fail
          go_round
          case rel =>
            refine ⟨k + 1, by omega, by go_num, Lib.hid (fun j hj => ?_), Lib.hid K.out.2⟩
            by_cases e : j = k
            · rw [e]; exact K.out.1
            · exact hall.out j (by omega)
          case measure => simp [intOf]; omega
    · have K : Hid (inB s.size 1 8 = nameB s.data.toList) := Lib.hid (by
        cases h : inB (s.size : Int) 1 8
        · exact (nameB_size (by rw [size_list]; exact h)).symm
        · refine (nameB_good (by rw [size_list]; exact h) (hfst.out ?_) (fun j hj => hall.out j (by rw [size_list] at hj; omega))).symm
          rw [inB_iff] at h; omega)
      go_wp2_with fail
      go_at_call 21; refine (turned (in_any _ _ _ _)).mono ?_; rintro e w' ⟨rfl, rfl⟩
      go_wp2_with fail
      go_ret
      exact ⟨ret_bool K.out, rfl⟩
end Go.Proofs.YtakekeljndofcaaDoor
