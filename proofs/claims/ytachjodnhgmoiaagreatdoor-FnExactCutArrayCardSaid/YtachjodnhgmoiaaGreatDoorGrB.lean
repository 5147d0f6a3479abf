/- What lies below a mark stays: then nothing old was written. -/
import Derived.Test.YtachjodnhgmoiaaGreatDoorGr
namespace Go.Proofs.YtachjodnhgmoiaaGreatDoor
open Go.RowKit

theorem gr_belowB {w w' : World} {B : Nat} (h : Below B w w') (hB : w.heap.size ≤ B) : w.grownBy w' none := ⟨h.os, h.tape, h.output, h.size, fun k hk _ => h.block k (by omega)⟩
/-- All numbers are int64s. -/
def Wf (zs : List Int) : Prop := ∀ z ∈ zs, -9223372036854775808 ≤ z ∧ z ≤ 9223372036854775807

end Go.Proofs.YtachjodnhgmoiaaGreatDoor
