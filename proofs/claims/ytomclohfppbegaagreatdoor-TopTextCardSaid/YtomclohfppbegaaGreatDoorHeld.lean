/- A region that draws its order: the condition that is held may be said anew in its midst. -/
import Derived.Test.YtomclohfppbegaaGreatDoorRulA
import Derived.Deep.RegionHeld3
namespace Go.Proofs.YtomclohfppbegaaGreatDoor

theorem held_weaken {P : Program} {md : Region.Mode} {ops : Array Oper} {Q : Exit → Act → World → Prop} {S S' : World → Prop} (h : ∀ w, S' w → S w) :
    ∀ (fuel : Nat) (listed : Array Bool) (a : Act) (w : World), wpAnyH P md ops Q S' fuel listed a w → wpAnyH P md ops Q S fuel listed a w
  | 0, _, _, _, x => x
  | fuel + 1, _, _, _, x => ⟨x.1, fun i hi => wpOp_mono (fun a' w' y => ⟨h _ y.1, held_weaken h fuel _ a' w' y.2⟩) (x.2 i hi)⟩
end Go.Proofs.YtomclohfppbegaaGreatDoor
