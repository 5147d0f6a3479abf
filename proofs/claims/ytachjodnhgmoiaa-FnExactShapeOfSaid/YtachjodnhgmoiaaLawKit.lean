/- What every law's proof takes: the knob, and the frame of what grew. -/
import Derived.Test.YtachjodnhgmoiaaGr
import Derived.ProofKit
namespace Go.Proofs.Ytachjodnhgmoiaa
open Go.ChangeShapes Go.WideShapes Go.ChangeAt Go.RowKit

theorem knob_own : ownKnob Try.prog.godebug = none := by kernel_rfl
theorem below_of {w w' : World} (h : w.grownBy w' none) : Below w.heap.size w w' := ⟨h.os, h.tape, h.output, h.size, fun k hk => h.block k hk (by simp)⟩

end Go.Proofs.Ytachjodnhgmoiaa
