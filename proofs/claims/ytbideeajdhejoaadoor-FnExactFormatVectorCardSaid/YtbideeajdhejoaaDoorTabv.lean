/- The library's tables: what the condition on them gives, and that the program's own start meets it. -/
import Derived.Test.YtbideeajdhejoaaDoorTie
import Derived.Test.YtbideeajdhejoaaDoorLytArg
import Derived.Lib.LaidTab
import Derived.LaidMore
import Derived.Test.YtbideeajdhejoaaDoorShelfA
namespace Go.Proofs.YtbideeajdhejoaaDoor
open Go.ChangeShapes Go.WideShapes Go.ChangeAt Go.RowKit

theorem gPow : Tryd.prog.globalNamed "internal/strconv.uint64pow10" = some 0 := by kernel_rfl
theorem gPowT : (Tryd.prog.globals[0]?).map (·.type) = some 60 := by kernel_rfl

theorem laidMet_tl {P : Program} {x : String × DataW Unit} {r : List (String × DataW Unit)} {w : World} (h : laidMet P (x :: r) w) : ∃ ps, DataW.LaidVars P w r ps := by
  obtain ⟨ps, ⟨_, _, _, _, _, q, _, _, _, _, h, _⟩, _⟩ := h
  exact ⟨q, h⟩

theorem pow_of {W : World} {x y : String × DataW Unit} {r : List (String × DataW Unit)} (h : laidMet Tryd.prog (x :: y :: ("internal/strconv.uint64pow10", Rows.laid_internal_strconv_uint64pow10) :: r) W) : Lib.TabIs Tryd.prog W "internal/strconv.uint64pow10" .u64 Lib.pow10Tab := by
  obtain ⟨ps, ⟨_, _, _, _, _, q, _, _, _, _, h, _⟩, _⟩ := h
  obtain ⟨_, _, _, _, _, q2, _, _, _, _, h, _⟩ := h
  obtain ⟨g', t', cs, fuel, p, _, hg', ht', hvar, hd, _, _⟩ := h
  obtain rfl := Option.some.inj (gPow.symm.trans hg')
  obtain rfl := Option.some.inj (gPowT.symm.trans ht')
  unfold Lib.TabIs
  rw [hvar, ← Lib.cells_of_tab Tryd.underlying60 Tryd.underlying53 (by kernel_rfl) (by kernel_rfl) (show DataW.trod _ Tryd.prog W 0 _ false fuel 60 cs.toList = some (Lib.tabData .u64 Lib.pow10Tab, p) from hd)]

theorem door_met (os : Os) (args : Array Value) : laidMetH Tryd.prog Rows.fnExactFormatVectorRow.laid ((World.doorLaid Tryd.prog 4000 os).forCall (fun _ _ => 0) ⟨#[], args, []⟩).memory := by
  rw [MakeChecks.laidMetH_plain _ _ _ (by kernel_rfl)]
  exact laidMet_of_run' 8 (by kernel_rfl) (by kernel_rfl)

end Go.Proofs.YtbideeajdhejoaaDoor
