/- rules.Name and gamehallref1.Named: whether a text is a name. -/
import Derived.Test.YthbilpgecombiaaSmallR
namespace Go.Proofs.Ythbilpgecombiaa
open Go.ChangeShapes Go.WideShapes Go.ChangeAt Go.RowKit

theorem nb_at (s : ByteArray) (k : Nat) (h : k < s.size) : nb s.data.toList k = ((s[k]).toNat : Int) := by
  have h2 : k < s.data.toList.length := by simpa using h
  simp only [nb]
  rw [List.getElem?_eq_getElem h2]
  rfl
theorem size_list (s : ByteArray) : s.data.toList.length = s.size := by rw [Array.length_toList]; rfl
set_option maxHeartbeats 1000000 in
theorem name_any (s : ByteArray) (w : World) (hs : s.size ≤ maxLen) :
    Calls Try.prog 49 #[.string s] w fun e w' => e = .returned (.bool (nameB s.data.toList)) ∧ w = w' := by
  unfold maxLen at hs
  by_cases h0 : s.size < 1
  · have K : Hid (false = nameB s.data.toList) := Lib.hid (nameB_size (by rw [inB_no, size_list]; omega)).symm
    go_enter Try.func49, Try.ntmps49
    go_wp2
    go_ret
    exact ⟨ret_bool K.out, rfl⟩
  · by_cases h8 : 8 < s.size
    · have K : Hid (false = nameB s.data.toList) := Lib.hid (nameB_size (by rw [inB_no, size_list]; omega)).symm
      go_enter Try.func49, Try.ntmps49
      go_wp2
      go_ret
      exact ⟨ret_bool K.out, rfl⟩
    · have hp : 0 < s.size := by omega
      have hn0 := nb_at s 0 hp
      cases hc : capB (nb s.data.toList 0)
      · have K : Hid (false = nameB s.data.toList) := Lib.hid (nameB_first hc).symm
        rw [hn0] at hc
        have HC : Hid _ := Lib.hid hc
        clear hc hn0
        go_enter Try.func49, Try.ntmps49
        go_wp2_with fail
        go_at_call 74; refine (turned (isCapital_any _ _)).mono ?_; rintro e w' ⟨rfl, rfl⟩
        rw [HC.out]
        go_wp2
        go_ret
        exact ⟨ret_bool K.out, rfl⟩
      · have HN : Hid (capB (nb s.data.toList 0) = true ∧ inB s.data.toList.length 1 8 = true) := Lib.hid ⟨hc, by rw [inB_iff, size_list]; omega⟩
        rw [hn0] at hc
        have HC : Hid _ := Lib.hid hc
        clear hc hn0
        go_enter Try.func49, Try.ntmps49
        go_wp2_with fail
        go_at_call 74; refine (turned (isCapital_any _ _)).mono ?_; rintro e w' ⟨rfl, rfl⟩
        rw [HC.out]
        go_wp2_with fail
        go_loop [3] (fun i => ∃ k : Nat, 1 ≤ k ∧ k ≤ s.size ∧ i = .int .i64 (k : Int) ∧ Hid (∀ j, j < k → (capB (nb s.data.toList j) || digB (nb s.data.toList j)) = true)) (fun i => s.size - (intOf i).toNat)
        case atStart => exact ⟨1, by omega, by omega, rfl, Lib.hid (fun j hj => by
          have e : j = 0 := by omega
          rw [e, HN.out.1]; rfl)⟩
        case round =>
          obtain ⟨k, hk1, hk, rfl, hall⟩ := hrel
          by_cases hlt : k < s.size
          · have hn := nb_at s k hlt
            cases hc : capB (nb s.data.toList k)
            · cases hd : digB (nb s.data.toList k)
              · have K : Hid (false = nameB s.data.toList) := Lib.hid (nameB_bad (k := k) (by rw [size_list]; exact hlt) hc hd).symm
                rw [hn] at hc hd
                have HC : Hid _ := Lib.hid hc
                have HD : Hid _ := Lib.hid hd
                clear hc hd hn
                go_wp2_with fail
                go_at_call 74; refine (turned (isCapital_any _ _)).mono ?_; rintro e w' ⟨rfl, rfl⟩
                rw [HC.out]
                go_wp2_with fail
                go_at_call 75; refine (turned (isDigit_any _ _)).mono ?_; rintro e w' ⟨rfl, rfl⟩
                rw [HD.out]
                go_wp2_with fail
                go_ret
                exact ⟨ret_bool K.out, rfl⟩
              · have K : Hid ((capB (nb s.data.toList k) || digB (nb s.data.toList k)) = true) := Lib.hid (by rw [hd]; simp)
                rw [hn] at hc hd
                have HC : Hid _ := Lib.hid hc
                have HD : Hid _ := Lib.hid hd
                clear hc hd hn
                go_wp2_with fail
                go_at_call 74; refine (turned (isCapital_any _ _)).mono ?_; rintro e w' ⟨rfl, rfl⟩
                rw [HC.out]
                go_wp2_with fail
                go_at_call 75; refine (turned (isDigit_any _ _)).mono ?_; rintro e w' ⟨rfl, rfl⟩
                rw [HD.out]
                go_wp2_with fail
                go_round
                case rel =>
                  refine ⟨k + 1, by omega, by omega, by go_num, Lib.hid (fun j hj => ?_)⟩
                  by_cases e : j = k
                  · rw [e]; exact K.out
                  · exact hall.out j (by omega)
                case measure => simp [intOf]; omega
            · have K : Hid ((capB (nb s.data.toList k) || digB (nb s.data.toList k)) = true) := Lib.hid (by rw [hc]; simp)
              rw [hn] at hc
              have HC : Hid _ := Lib.hid hc
              clear hc hn
              go_wp2_with fail
              go_at_call 74; refine (turned (isCapital_any _ _)).mono ?_; rintro e w' ⟨rfl, rfl⟩
              rw [HC.out]
              go_wp2_with fail
              go_round
              case rel =>
                refine ⟨k + 1, by omega, by omega, by go_num, Lib.hid (fun j hj => ?_)⟩
                by_cases e : j = k
                · rw [e]; exact K.out
                · exact hall.out j (by omega)
              case measure => simp [intOf]; omega
          · have K : Hid (true = nameB s.data.toList) := Lib.hid (nameB_good HN.out.2 HN.out.1 (fun j hj => hall.out j (by rw [size_list] at hj; omega))).symm
            go_wp2
            go_ret
            exact ⟨ret_bool K.out, rfl⟩
end Go.Proofs.Ythbilpgecombiaa
