/- The closed facts of the row of SpreadValues, each by itself. -/
import Derived.Test.YtbideeajdhejoaaLeav
namespace Go.Proofs.Ytbideeajdhejoaa

theorem fspread_wf : Rows.fnExactSpreadValuesRow.wf (OpenSpec.ofChange Rows.fnExactSpreadValuesSpec) = true := by kernel_rfl
theorem fspread_params : Try.f10.params.all (Try.pinned.checked.prog.readableRec ·) = true := by kernel_rfl
theorem fspread_tie : namedTie Try.pinned.checked.prog Rows.fnExactSpreadValuesRow.named Rows.fnExactSpreadValuesSpec.vars = true := by kernel_rfl
theorem fspread_place : (Rows.fnExactSpreadValuesRow.inPlace == Try.pinned.checked.prog.inPlace 10) = true := by kernel_rfl
theorem fspread_unf : (Rows.fnExactSpreadValuesRow.unfollowed == Try.pinned.checked.prog.unfollowed 10) = true := by kernel_rfl
theorem fspread_rec : (Rows.fnExactSpreadValuesRow.recurses == Try.pinned.checked.prog.recurses 10) = true := by kernel_rfl
theorem fspread_named : (Rows.fnExactSpreadValuesRow.named == Try.pinned.checked.prog.varsNamed 10) = true := by kernel_rfl
theorem fspread_maps : (Rows.fnExactSpreadValuesRow.maps == (Try.f10.params.toList ++ Rows.fnExactSpreadValuesSpec.plain.varTypes Try.pinned.checked.prog).any (Try.pinned.checked.prog.mapsRec ·)) = true := by kernel_rfl
theorem fspread_ifaces : (Rows.fnExactSpreadValuesRow.ifaces == (Try.f10.params.toList ++ Rows.fnExactSpreadValuesSpec.plain.varTypes Try.pinned.checked.prog).any (Try.pinned.checked.prog.ifacesRec ·)) = true := by kernel_rfl
theorem fspread_mapsOut : (Rows.fnExactSpreadValuesRow.mapsOut == Try.pinned.checked.prog.mapsAmong Try.f10.resultTypes.toList) = true := by kernel_rfl
theorem fspread_loops : (Rows.fnExactSpreadValuesRow.loops == (Try.f10.params.toList ++ Rows.fnExactSpreadValuesSpec.plain.varTypes Try.pinned.checked.prog).any (Try.pinned.checked.prog.loopsFrom ·)) = true := by kernel_rfl
theorem fspread_wide : (Rows.fnExactSpreadValuesRow.wideKeys == (Try.f10.params.toList ++ Rows.fnExactSpreadValuesSpec.plain.varTypes Try.pinned.checked.prog ++ Try.f10.resultTypes.toList).any (Try.pinned.checked.prog.wideKeysFrom ·)) = true := by kernel_rfl
theorem fspread_vars : Rows.fnExactSpreadValuesSpec.vars.all (Try.pinned.checked.prog.varReadable ·) = true := by kernel_rfl
theorem fspread_res : Try.f10.resultTypes.all (fun t => Try.pinned.checked.prog.readableRec t && decide (t < Try.pinned.checked.prog.types.size)) = true := by kernel_rfl
theorem fspread_ifacesOut : (Rows.fnExactSpreadValuesRow.ifacesOut == Try.f10.resultTypes.toList.any (Try.pinned.checked.prog.ifacesRec ·)) = true := by kernel_rfl
theorem fspread_loopsOut : (Rows.fnExactSpreadValuesRow.loopsOut == Try.f10.resultTypes.toList.any (Try.pinned.checked.prog.loopsFrom ·)) = true := by kernel_rfl
theorem fspread_keys : (Rows.fnExactSpreadValuesRow.plainKeys == Try.pinned.checked.prog.plainKeys) = true := by kernel_rfl
theorem fspread_lifted : (Rows.fnExactSpreadValuesRow.lifted == Try.pinned.checked.prog.liftsFinal) = true := by kernel_rfl
theorem fspread_make : (Try.pinned.checked.prog.make == some Rows.fnExactSpreadValuesRow.make) = true := by kernel_rfl
theorem fspread_pinned : (Rows.fnExactSpreadValuesRow.pinned == Rows.fnExactSpreadValuesRow.pinnedBy) = true := by kernel_rfl
theorem fspread_veiled : (Rows.fnExactSpreadValuesRow.veiled == (Try.f10.params.toList ++ Rows.fnExactSpreadValuesSpec.plain.varTypes Try.pinned.checked.prog ++ Try.f10.resultTypes.toList).any (Try.pinned.checked.prog.veiledRec ·)) = true := by kernel_rfl
theorem fspread_fits : Rows.fnExactSpreadValuesRow.veiledFits Try.pinned.checked.prog Try.f10.params.toList (Try.f10.params.toList ++ Rows.fnExactSpreadValuesSpec.plain.varTypes Try.pinned.checked.prog ++ Try.f10.resultTypes.toList) = true := by kernel_rfl

end Go.Proofs.Ytbideeajdhejoaa
