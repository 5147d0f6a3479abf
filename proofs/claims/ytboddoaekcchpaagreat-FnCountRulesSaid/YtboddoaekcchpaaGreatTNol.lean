/- A term that is no loop: the assertion to a loop fails; a list up to a place. -/
import Derived.Test.YtboddoaekcchpaaGreatSTxt
import Derived.Test.YtboddoaekcchpaaGreatTmM
import Derived.Test.YtboddoaekcchpaaGreatTAs
namespace Go.Proofs.YtboddoaekcchpaaGreat
open Go.RowKit

/-- A term that is no loop, behind the interface: the assertion to a loop fails. -/
theorem ta_noloop {w : World} {S : Nat → Prop} {t : Tm} {ty : TypeId} {pv : Value} (h : PT w S t (.iface ty pv)) (hl : t.isLoop = false) (xT : TypeId) (u : World) :
    (Instr.typeAssert (.iface ty pv) xT 94 true).run Tryz.prog u = .ok (.tuple #[.pointer none, .bool false]) u := by
  cases t with
  | dig c => cases h; exact ta_dig_loop _ _ _
  | var c => cases h; exact ta_var_loop _ _ _
  | pre c s => obtain ⟨b, x, hv, _⟩ := h; cases hv; exact ta_pre_loop _ _ _
  | two c s t => obtain ⟨b, x, y, hv, _⟩ := h; cases hv; exact ta_two_loop _ _ _
  | loop c i s t => cases hl
theorem take_snoc' {α : Type} {l : List α} {j : Nat} {x : α} (h : l[j]? = some x) : l.take j ++ [x] = l.take (j + 1) := by rw [List.take_add_one, h]; rfl

end Go.Proofs.YtboddoaekcchpaaGreat
