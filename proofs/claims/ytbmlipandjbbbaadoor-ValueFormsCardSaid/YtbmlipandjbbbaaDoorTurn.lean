/- The condition under which a region is walked may be made stronger on the way. -/
import Derived.Deep.RegionHeld3
namespace Go.Proofs.YtbmlipandjbbbaaDoor
open Go
theorem wpAnyH_turn {P : Program} {md : Region.Mode} {ops : Array Oper} {Q : Exit → Act → World → Prop} {S S' : World → Prop} (hSS : ∀ w, S' w → S w) :
    ∀ {fuel : Nat} {listed : Array Bool} {a : Act} {w : World}, wpAnyH P md ops Q S' fuel listed a w → wpAnyH P md ops Q S fuel listed a w
  | 0, _, _, _, h => h
  | _ + 1, _, _, _, h => ⟨h.1, fun i hi => wpOp_mono (fun _ _ h' => ⟨hSS _ h'.1, wpAnyH_turn hSS h'.2⟩) (h.2 i hi)⟩
end Go.Proofs.YtbmlipandjbbbaaDoor
