/- The library's tables: what the condition on them gives, and (each law holds by itself that the program's own start meets it). -/
import Derived.Test.YtachjodnhgmoiaaGreatDoorTie
import Derived.Test.YtachjodnhgmoiaaGreatDoorLytArg
import Derived.Lib.LaidTab
import Derived.LaidMore
import Derived.Test.YtachjodnhgmoiaaGreatDoorShelfB
namespace Go.Proofs.YtachjodnhgmoiaaGreatDoor
open Go.ChangeShapes Go.WideShapes Go.ChangeAt Go.RowKit

theorem gPow : Tryz.prog.globalNamed "internal/strconv.uint64pow10" = some 0 := by kernel_rfl
theorem gPowT : (Tryz.prog.globals[0]?).map (·.type) = some 204 := by kernel_rfl

theorem laidMet_tl {P : Program} {x : String × DataW Unit} {r : List (String × DataW Unit)} {w : World} (h : laidMet P (x :: r) w) : ∃ ps, DataW.LaidVars P w r ps := by
  obtain ⟨ps, ⟨_, _, _, _, _, q, _, _, _, _, h, _⟩, _⟩ := h
  exact ⟨q, h⟩

theorem pow_of {W : World} {x y : String × DataW Unit} {r : List (String × DataW Unit)} (h : laidMet Tryz.prog (x :: y :: ("internal/strconv.uint64pow10", Rows.laid_internal_strconv_uint64pow10) :: r) W) : Lib.TabIs Tryz.prog W "internal/strconv.uint64pow10" .u64 Lib.pow10Tab := by
  obtain ⟨ps, ⟨_, _, _, _, _, q, _, _, _, _, h, _⟩, _⟩ := h
  obtain ⟨_, _, _, _, _, q2, _, _, _, _, h, _⟩ := h
  obtain ⟨g', t', cs, fuel, p, _, hg', ht', hvar, hd, _, _⟩ := h
  obtain rfl := Option.some.inj (gPow.symm.trans hg')
  obtain rfl := Option.some.inj (gPowT.symm.trans ht')
  unfold Lib.TabIs
  rw [hvar, ← Lib.cells_of_tab Tryz.underlying204 Tryz.underlying196 (by kernel_rfl) (by kernel_rfl) (show DataW.trod _ Tryz.prog W 0 _ false fuel 204 cs.toList = some (Lib.tabData .u64 Lib.pow10Tab, p) from hd)]

end Go.Proofs.YtachjodnhgmoiaaGreatDoor
