/- How wouldBind of the program ends: would a free variable of what comes in be bound in a term? -/
import Derived.Test.YtboddoaekcchpaaGreatTFreeL
namespace Go.Proofs.YtboddoaekcchpaaGreat
open Go.RowKit Go.Maps

def WBP (x : Bool) (w : World) (e : Ending) (w' : World) : Prop := e = .returned (.bool x) ∧ w.grownBy w' none


end Go.Proofs.YtboddoaekcchpaaGreat
