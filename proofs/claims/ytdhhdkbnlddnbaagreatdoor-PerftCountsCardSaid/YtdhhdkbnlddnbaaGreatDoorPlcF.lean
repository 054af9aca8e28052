/- A position whose lists lie in blocks of a certain kind. -/
import Derived.Test.YtdhhdkbnlddnbaaGreatDoorPlcA
set_option maxRecDepth 100000
namespace Go.Proofs.YtdhhdkbnlddnbaaGreatDoor
open Go.ChangeShapes Go.WideShapes Go.ChangeAt Go.RowKit

/-- A position whose lists lie in blocks of a certain kind. -/
structure PlaceF (d : Nat → Prop) (W : World) (p : PlaceD) (vc v0 v1 : Value) : Prop where
  c : IsSl (Blk d IntAt) 1 W vc p.cells
  a : IsSl (Blk d IntAt) 1 W v0 p.h0
  b : IsSl (Blk d IntAt) 1 W v1 p.h1
/-- A position that was made, and no error. -/
def MadeP (q : PlaceD) (w : World) (e : Ending) (w' : World) : Prop :=
  ∃ ca cn cc a0 n0 c0 a1 n1 c1, e = .returned (.tuple #[.agg #[.slice ca cn cc, .slice a0 n0 c0, .slice a1 n1 c1, .int .i64 q.turn, .int .i64 q.quiet], .int .i64 0]) ∧ PlaceF (fun k => w.heap.size ≤ k) w' q (.slice ca cn cc) (.slice a0 n0 c0) (.slice a1 n1 c1) ∧ Below w.heap.size w w'
theorem PlaceF.plain {d : Nat → Prop} {W : World} {p : PlaceD} {vc v0 v1 : Value} (h : PlaceF d W p vc v0 v1) : PlaceIn W p vc v0 v1 := ⟨h.c.mono fun _ _ _ x => x.2, h.a.mono fun _ _ _ x => x.2, h.b.mono fun _ _ _ x => x.2⟩
theorem PlaceF.on {d e : Nat → Prop} {W W' : World} {p : PlaceD} {vc v0 v1 : Value} (h : PlaceF d W p vc v0 v1) (hs : ∀ k, d k → k < W.heap.size → W'.heap[k]? = W.heap[k]?) (hd : ∀ k, d k → e k) : PlaceF e W' p vc v0 v1 :=
  ⟨blk_weak hd (intBlk_on hs h.c), blk_weak hd (intBlk_on hs h.a), blk_weak hd (intBlk_on hs h.b)⟩
end Go.Proofs.YtdhhdkbnlddnbaaGreatDoor
