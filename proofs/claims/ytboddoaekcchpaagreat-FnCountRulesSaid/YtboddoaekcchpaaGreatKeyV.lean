/- Variables as keys of the program's maps. -/
import Derived.Test.YtboddoaekcchpaaGreatTmD
import Derived.Test.YtboddoaekcchpaaGreatGr
import Derived.Maps.OwnSet
import Derived.Shelf.Lay
namespace Go.Proofs.YtboddoaekcchpaaGreat
open Go.RowKit Go.Maps

theorem keyedV : Keyed Tryz.prog 51 := int_keyed Tryz.underlying51
theorem u8wf {v : Int} (h0 : 0 ≤ v) (h1 : v ≤ 255) : (Lit.int .u8 v).wf = true := by
  have H : ∀ k : Fin 256, (Lit.int .u8 (k.1 : Int)).wf = true := by decide +kernel
  have := H ⟨v.toNat, by omega⟩
  rw [show ((v.toNat : Nat) : Int) = v from by omega] at this
  exact this
theorem keyV {v : Int} (h0 : 0 ≤ v) (h1 : v ≤ 255) : keyOf Tryz.prog 51 (.int .u8 v) = some (.int .u8 v) := keyOf_int_mk Tryz.underlying51 (u8wf h0 h1)

end Go.Proofs.YtboddoaekcchpaaGreat
