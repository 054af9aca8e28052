/- Print of good rules, and Parse of what is printed: as the laws want them. -/
import Derived.Test.YtomclohfppbegaaGreatDoorParB
import Derived.Test.YtomclohfppbegaaGreatDoorPrint
import Derived.Test.YtomclohfppbegaaGreatDoorOpnA
set_option maxRecDepth 100000
namespace Go.Proofs.YtomclohfppbegaaGreatDoor
open Go.ChangeShapes Go.WideShapes Go.ChangeAt Go.RowKit

theorem parse_all (S : ByteArray) (w : World) (hE : Env w.heap.size w) : Calls Tryz.prog 6 #[.string S] w (ParseP S.data.toList w) := by
  have hS : S = str S.data.toList := (str_data S).symm
  by_cases hb : S.size ≤ 8192
  · exact parse_small S.data.toList S w hS hb hE
  · exact parse_big S.data.toList S w hS (by omega)
theorem text_short {r : RulesD} (h : rulesE r = 0) : (textB r).length ≤ 8192 := by
  obtain ⟨a, b, c, d, e, f, g, i, j⟩ := text_le (rOk h)
  simp only [textB, List.length_append]; omega
/-- Rules that were read: their fields, and where their slices lie. -/
def ReadP (r : RulesD) (w : World) (e : Ending) (w' : World) : Prop := ∃ pa pn pc sa sn sc ea en ec, e = .returned (.tuple #[.agg #[.string r.name, .int .i64 r.width, .int .i64 r.height, .slice pa pn pc, .slice sa sn sc, .bool r.falls, .bool r.keeps, .slice ea en ec, .int .i64 r.blocked, .int .i64 r.quiet, .int .i64 r.rep], .int .i64 0]) ∧ RulesIn w' r (.slice pa pn pc) (.slice sa sn sc) (.slice ea en ec) ∧ Below w.heap.size w w'
theorem read_of {r : RulesD} {w w' : World} {vp vs ve : Value} (hr : RulesIn w' r vp vs ve) (hb : Below w.heap.size w w') : ReadP r w (.returned (.tuple #[RulesV r vp vs ve, .int .i64 0])) w' := by
  obtain ⟨pa, pc, rfl, -, -⟩ := hr.1.1.shape (n := r.pieces.length) rfl
  obtain ⟨sa, sc, rfl, -, -⟩ := hr.1.2.1.shape (n := r.start.length) rfl
  obtain ⟨ea, ec, rfl, -, -⟩ := hr.1.2.2.shape (n := r.ends.length) rfl
  exact ⟨pa, _, pc, sa, _, sc, ea, _, ec, rfl, hr, hb⟩
theorem parse_text_of (r : RulesD) (h : rulesE r = 0) (w : World) (hE : Env w.heap.size w) : Calls Tryz.prog 6 #[.string (str (textB r))] w (ReadP r w) := by
  refine (parse_all (str (textB r)) w hE).mono ?_
  obtain ⟨h1, h2⟩ := parse_print h (text_short h)
  rintro e w' ⟨vp, vs, ve, rfl, hr, _, hb⟩
  rw [data_str] at hr ⊢
  have e1 : parseR (textB r) = r := by rw [parseR, if_pos h1, h2]
  rw [e1] at hr ⊢
  rw [h1]
  exact read_of hr hb
/-- A text that is read: as good rules of this text. -/
theorem parse_good (S : ByteArray) (w : World) (hE : Env w.heap.size w) (h : parseE S.data.toList = 0) : Calls Tryz.prog 6 #[.string S] w (ReadP (parseR S.data.toList) w) := by
  refine (parse_all S w hE).mono ?_
  rintro e w' ⟨vp, vs, ve, rfl, hr, _, hb⟩
  rw [h]
  exact read_of hr hb
theorem parse_goodR {S : ByteArray} (h : parseE S.data.toList = 0) : rulesE (parseR S.data.toList) = 0 ∧ str (textB (parseR S.data.toList)) = S := by
  obtain ⟨h1, h2⟩ := parse_text h
  rw [parseR, if_pos h]
  exact ⟨h1, by rw [h2, str_data]⟩
def ReadNo (c : Int) (w : World) (e : Ending) (w' : World) : Prop := ∃ pa pc sa sc ea ec, e = .returned (.tuple #[.agg #[.string ⟨#[]⟩, .int .i64 0, .int .i64 0, .slice pa 0 pc, .slice sa 0 sc, .bool false, .bool false, .slice ea 0 ec, .int .i64 0, .int .i64 0, .int .i64 0], .int .i64 c]) ∧ Below w.heap.size w w'
theorem parse_badS (S : ByteArray) (w : World) (hE : Env w.heap.size w) (h : parseE S.data.toList ≠ 0) : Calls Tryz.prog 6 #[.string S] w (ReadNo (parseE S.data.toList) w) := by
  refine (parse_all S w hE).mono ?_
  rintro e w' ⟨vp, vs, ve, rfl, hr, _, hb⟩
  have e1 : parseR S.data.toList = zeroD := by rw [parseR, if_neg h]
  rw [e1] at hr ⊢
  obtain ⟨pa, pc, rfl, -, -⟩ := hr.1.1.shape (n := 0) rfl
  obtain ⟨sa, sc, rfl, -, -⟩ := hr.1.2.1.shape (n := 0) rfl
  obtain ⟨ea, ec, rfl, -, -⟩ := hr.1.2.2.shape (n := 0) rfl
  exact ⟨pa, pc, sa, sc, ea, ec, rfl, hb⟩
def TextP (S : ByteArray) (c : Int) (w : World) (e : Ending) (w' : World) : Prop := e = .returned (.tuple #[.string S, .int .i64 c]) ∧ Below w.heap.size w w'
theorem print_k (r : RulesD) (h : rulesE r = 0) (vp vs ve : Value) (w : World) (hr : RulesIn w r vp vs ve) (hE : Env w.heap.size w) : Calls Tryz.prog 4 #[RulesV r vp vs ve] w (TextP (str (textB r)) 0 w) := print_ok r vp vs ve w hr h hE.1
end Go.Proofs.YtomclohfppbegaaGreatDoor
