/- bits.Fill and bits.Parts: what they return. -/
import Derived.Test.YtffnnpjgfjkmjaaDoorParts
import Derived.Test.YtffnnpjgfjkmjaaDoorOf
import Derived.Test.YtffnnpjgfjkmjaaDoorBack
namespace Go.Proofs.YtffnnpjgfjkmjaaDoor
open Go.RowKit Go.Shelf

theorem nb_any (r : BitVec 64) (w : World) :
    Calls Tryd.prog 25 #[.int .u64 (r.toNat : Int)] w fun e w' => e = .returned (.int .u64 ((nbW r).toNat : Int)) ∧ w' = w := by
  have K : Hid (bits BinOp.or IntKind.u64 (bits BinOp.or IntKind.u64 (bits BinOp.or IntKind.u64 ((shiftV r 1 0).toNat : Int) ((shiftV r (-1) 0).toNat : Int)) ((shiftV r 0 1).toNat : Int)) ((shiftV r 0 (-1)).toNat : Int) = ((nbW r).toNat : Int)) :=
    Lib.hid (by rw [b_or, b_or, b_or, nbW])
  go_enter Tryd.func25, Tryd.ntmps25
  go_wp2_with fail
  go_at_call 15; refine (turned (shift_any r 1 0 _)).mono ?_; rintro e w' ⟨rfl, rfl⟩
  go_wp2_with fail
  go_at_call 15; refine (turned (shift_any r (-1) 0 _)).mono ?_; rintro e w' ⟨rfl, rfl⟩
  go_wp2_with fail
  go_at_call 15; refine (turned (shift_any r 0 1 _)).mono ?_; rintro e w' ⟨rfl, rfl⟩
  go_wp2_with fail
  go_at_call 15; refine (turned (shift_any r 0 (-1) _)).mono ?_; rintro e w' ⟨rfl, rfl⟩
  go_wp2_with fail
  go_ret
  exact ⟨ret_u64 K.out, rfl⟩
def FillPost (a wi : BitVec 64) (w : World) (e : Ending) (w' : World) : Prop := ∃ f : BitVec 64, e = .returned (.int .u64 (f.toNat : Int)) ∧ IsFill a wi f ∧ w = w'
theorem fill_any (a wi : BitVec 64) (w : World) : Calls Tryd.prog 12 #[.int .u64 (a.toNat : Int), .int .u64 (wi.toNat : Int)] w (FillPost a wi w) := by
  have h0 : Hid (bits BinOp.and IntKind.u64 (a.toNat : Int) (wi.toNat : Int) = ((a &&& wi).toNat : Int)) := Lib.hid (b_and _ _)
  go_enter Tryd.func12, Tryd.ntmps12
  go_wp2
  go_loop [5] (fun s => ∃ r : BitVec 64, s = .int .u64 (r.toNat : Int) ∧ Hid (Filling a wi r)) (fun s => wi.toNat - (intOf s).toNat)
  case atStart => exact ⟨a &&& wi, by rw [h0.out], Lib.hid (filling_start a wi)⟩
  case round =>
    obtain ⟨r, rfl, hf⟩ := hrel
    clear h0
    obtain ⟨g, hg⟩ : ∃ g : BitVec 64, g = growW wi r := ⟨_, rfl⟩
    have hr : bits BinOp.and IntKind.u64 (wi.toNat : Int) (bits BinOp.or IntKind.u64 (r.toNat : Int) ((nbW r).toNat : Int)) = (g.toNat : Int) := by
      rw [b_or, b_and, hg, growW]
    by_cases e : g = r
    · have hd : Hid (IsFill a wi r) := Lib.hid (filling_done hf.out (by rw [← hg, e]))
      have heq : ((g.toNat : Int) == (r.toNat : Int)) = true := by rw [e]; simp
      clear hg e
      go_wp2_with (go_at_call 25; refine (turned (nb_any r _)).mono ?_; rintro e w' ⟨rfl, rfl⟩)
      go_ret
      exact ⟨r, rfl, hd.out, rfl⟩
    · have hn : Hid (Filling a wi g) := Lib.hid (by rw [hg]; exact filling_grow hf.out)
      have hlt : Hid (r.toNat < g.toNat ∧ g.toNat ≤ wi.toNat) := Lib.hid (by
        have h1 := sub_toNat (grow_sub hf.out)
        rw [← hg] at h1
        have h2 := sub_toNat hn.out.2.1
        have h3 : g.toNat ≠ r.toNat := fun h => e (BitVec.eq_of_toNat_eq h)
        omega)
      have heq : ((g.toNat : Int) == (r.toNat : Int)) = false := by
        have h3 : g.toNat ≠ r.toNat := fun h => e (BitVec.eq_of_toNat_eq h)
        simp; omega
      clear hg e
      go_wp2_with (go_at_call 25; refine (turned (nb_any r _)).mono ?_; rintro e w' ⟨rfl, rfl⟩)
      go_round
      case rel => exact ⟨g, rfl, hn⟩
      case measure => simp only [intOf, Int.toNat_natCast]; have := hlt.out; omega
end Go.Proofs.YtffnnpjgfjkmjaaDoor
