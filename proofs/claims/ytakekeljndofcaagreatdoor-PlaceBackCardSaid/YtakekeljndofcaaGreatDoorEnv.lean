/- What the library's functions read; strings.Split and strconv.Atoi; guessNumber. -/
import Derived.Test.YtakekeljndofcaaGreatDoorTab
import Derived.Test.YtakekeljndofcaaGreatDoorCutM
import Derived.Test.YtakekeljndofcaaGreatDoorPlcG
set_option maxRecDepth 100000
namespace Go.Proofs.YtakekeljndofcaaGreatDoor
open Go.ChangeShapes Go.WideShapes Go.ChangeAt Go.RowKit

/-- A package's variable that lies below B, of a known value. -/
def Glo (B g : Nat) (v : Value) (w : World) : Prop := g < B ∧ w.cell? ⟨g, 0, none⟩ = some v
theorem Glo.below {B g : Nat} {v : Value} {w w' : World} (h : Glo B g v w) (hb : Below B w w') : Glo B g v w' := ⟨h.1, (hb.cell (p := ⟨g, 0, none⟩) h.1).trans h.2⟩
theorem Glo.up {B B' g : Nat} {v : Value} {w w' : World} (h : Glo B g v w) (hb : Below B w w') (hB : B ≤ B') : Glo B' g v w' := ⟨Nat.lt_of_lt_of_le h.1 hB, (h.below hb).2⟩
/-- What the library's functions here read. -/
def Env (B : Nat) (w : World) : Prop := Tb B w ∧ (∃ m, Glo B 1 (.int .i64 m) w) ∧ (∃ t p, Glo B 2 (.iface t p) w) ∧ ∃ t p, Glo B 3 (.iface t p) w
theorem Env.below {B : Nat} {w w' : World} (h : Env B w) (hb : Below B w w') : Env B w' := by
  obtain ⟨h1, ⟨m, h2⟩, ⟨t, p, h3⟩, t2, p2, h4⟩ := h
  exact ⟨h1.below hb, ⟨m, h2.below hb⟩, ⟨t, p, h3.below hb⟩, t2, p2, h4.below hb⟩
theorem Env.up {B B' : Nat} {w w' : World} (h : Env B w) (hb : Below B w w') (hB : B ≤ B') : Env B' w' := by
  obtain ⟨h1, ⟨m, h2⟩, ⟨t, p, h3⟩, t2, p2, h4⟩ := h
  exact ⟨h1.up hb hB, ⟨m, h2.up hb hB⟩, ⟨t, p, h3.up hb hB⟩, t2, p2, h4.up hb hB⟩
theorem str_data (x : ByteArray) : str x.data.toList = x := Lib.mk_data x
theorem data_str (x : List UInt8) : (str x).data.toList = x := by simp [str]
theorem strs_cells (ls : List (List UInt8)) (xs : List ByteArray) (h : xs.map (·.data.toList) = ls) : xs.map Value.string = ls.map fun x => Value.string (str x) := by
  subst h
  rw [List.map_map]
  apply List.map_congr_left
  intro x _
  simp only [Function.comp_apply, str_data]
theorem split_any {B : Nat} (c : UInt8) (X : ByteArray) (w : World) (hX : X.size ≤ 100000) (hE : Env B w) :
    Calls Tryz.prog 36 #[.string X, .string ⟨#[c]⟩] w fun e w' => e = .returned (.slice (some ⟨w.heap.size, 0, none⟩) (cutB c X.data.toList).length (cutB c X.data.toList).length) ∧ w' = w.alloc (.cells ((cutB c X.data.toList).map fun x => Value.string (str x)).toArray 9) := by
  obtain ⟨_, ⟨m, _, hm⟩, _⟩ := hE
  have h1 : 1 ≤ (⟨#[c]⟩ : ByteArray).size := Nat.le_refl 1
  have e0 : Lib.countB X ⟨#[c]⟩ = Lib.count X.data.toList [c] := rfl
  have e1 : (Lib.splitB ⟨#[c]⟩ 0 (Lib.countB X ⟨#[c]⟩) X).map (·.data.toList) = cutB c X.data.toList := by
    rw [Lib.splitB_data]
    exact lib_splitK c _ _ (Nat.le_refl _) _ e0.symm
  have e2 : Lib.countB X ⟨#[c]⟩ + 1 = (cutB c X.data.toList).length := by
    rw [← e1, List.length_map, Lib.splitB_all _ h1 0 _ X rfl]
  have h := Tryz.strings_Split X ⟨#[c]⟩ m w (by omega) hm h1
  rw [e2, strs_cells _ _ e1] at h
  exact h
theorem atoi_ok {x : List UInt8} {v : Int} (hx : x.length ≤ 8192) (h : Lib.atoiAll x = .ok v) (w : World) : Calls Tryz.prog 59 #[.string (str x)] w (fun e w' => e = .returned (.tuple #[.int .i64 v, .nilIface]) ∧ Below w.heap.size w w') := by
  refine (Tryz.strconv_Atoi_ok (str x) (by rw [str_size]; omega) v (by rw [data_str]; exact h) w).mono ?_
  rintro e w' ⟨rfl, rfl | ⟨t, rfl⟩⟩
  · exact ⟨rfl, Below.refl _ _⟩
  · exact ⟨rfl, Lib.bytesWorld_below _ _ _⟩
theorem atoi_bad {B : Nat} {x : List UInt8} (hx : x.length ≤ 8192) (h : ∀ v, Lib.atoiAll x ≠ .ok v) (w : World) (hE : Env B w) : Calls Tryz.prog 59 #[.string (str x)] w (fun e w' => ∃ z t p, e = .returned (.tuple #[.int .i64 z, .iface t p]) ∧ Below w.heap.size w w') := by
  obtain ⟨_, _, ⟨t1, p1, _, h1⟩, t2, p2, _, h2⟩ := hE
  cases hq : Lib.atoiAll x
  · exact absurd hq (h _)
  · refine (Tryz.strconv_Atoi_syntax (str x) (by rw [str_size]; omega) (by rw [data_str]; exact hq) _ w h1 (.inr ⟨t1, p1, rfl⟩)).mono ?_
    rintro e w' ⟨N, rfl, _, _, hb⟩
    exact ⟨_, _, _, rfl, hb⟩
  · refine (Tryz.strconv_Atoi_range (str x) (by rw [str_size]; omega) (by rw [data_str]; exact hq) _ w h2 (.inr ⟨t2, p2, rfl⟩)).mono ?_
    rintro e w' ⟨N, rfl, _, _, hb⟩
    exact ⟨_, _, _, rfl, hb⟩
set_option maxHeartbeats 1000000 in
theorem guessNumber_any {B : Nat} (x : List UInt8) (w : World) (hx : x.length ≤ 8192) (hE : Env B w) : Calls Tryz.prog 39 #[.string (str x)] w (BelPost (.int .i64 (numG x)) w) := by
  by_cases hok : ∃ v, Lib.atoiAll x = .ok v
  · obtain ⟨v, hv⟩ := hok
    have HA := Lib.hid (atoi_ok hx hv w)
    have HN : Hid (numG x = v) := Lib.hid (by rw [numG, hv])
    clear hE hv
    go_enter Tryz.func39, Tryz.ntmps39
    go_wp2_with fail
    go_at_call 59; refine HA.out.mono ?_; rintro e w' ⟨rfl, hb⟩
    go_wp2_with fail
    go_ret
    exact ⟨by rw [HN.out]; rfl, hb⟩
  · have HA := Lib.hid (atoi_bad hx (fun v h => hok ⟨v, h⟩) w hE)
    have HN : Hid (numG x = 0) := Lib.hid (by
      rw [numG]
      split
      · rename_i v hv; exact absurd ⟨v, hv⟩ hok
      · rfl)
    clear hE hok
    go_enter Tryz.func39, Tryz.ntmps39
    go_wp2_with fail
    go_at_call 59; refine HA.out.mono ?_; rintro e w' ⟨z, t, p, rfl, hb⟩
    go_wp2_with fail
    go_ret
    exact ⟨by rw [HN.out]; rfl, hb⟩
end Go.Proofs.YtakekeljndofcaaGreatDoor
