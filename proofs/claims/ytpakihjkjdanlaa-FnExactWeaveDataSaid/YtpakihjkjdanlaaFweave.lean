/- The closed facts of the row of WeaveData, each by itself. -/
import Derived.Test.YtpakihjkjdanlaaLeav
namespace Go.Proofs.Ytpakihjkjdanlaa

theorem fweave_wf : Rows.fnExactWeaveDataRow.wf (OpenSpec.ofChange Rows.fnExactWeaveDataSpec) = true := by kernel_rfl
theorem fweave_params : Try.f10.params.all (Try.pinned.checked.prog.readableRec ·) = true := by kernel_rfl
theorem fweave_tie : namedTie Try.pinned.checked.prog Rows.fnExactWeaveDataRow.named Rows.fnExactWeaveDataSpec.vars = true := by kernel_rfl
theorem fweave_place : (Rows.fnExactWeaveDataRow.inPlace == Try.pinned.checked.prog.inPlace 10) = true := by kernel_rfl
theorem fweave_unf : (Rows.fnExactWeaveDataRow.unfollowed == Try.pinned.checked.prog.unfollowed 10) = true := by kernel_rfl
theorem fweave_rec : (Rows.fnExactWeaveDataRow.recurses == Try.pinned.checked.prog.recurses 10) = true := by kernel_rfl
theorem fweave_named : (Rows.fnExactWeaveDataRow.named == Try.pinned.checked.prog.varsNamed 10) = true := by kernel_rfl
theorem fweave_maps : (Rows.fnExactWeaveDataRow.maps == (Try.f10.params.toList ++ Rows.fnExactWeaveDataSpec.plain.varTypes Try.pinned.checked.prog).any (Try.pinned.checked.prog.mapsRec ·)) = true := by kernel_rfl
theorem fweave_ifaces : (Rows.fnExactWeaveDataRow.ifaces == (Try.f10.params.toList ++ Rows.fnExactWeaveDataSpec.plain.varTypes Try.pinned.checked.prog).any (Try.pinned.checked.prog.ifacesRec ·)) = true := by kernel_rfl
theorem fweave_mapsOut : (Rows.fnExactWeaveDataRow.mapsOut == Try.pinned.checked.prog.mapsAmong Try.f10.resultTypes.toList) = true := by kernel_rfl
theorem fweave_loops : (Rows.fnExactWeaveDataRow.loops == (Try.f10.params.toList ++ Rows.fnExactWeaveDataSpec.plain.varTypes Try.pinned.checked.prog).any (Try.pinned.checked.prog.loopsFrom ·)) = true := by kernel_rfl
theorem fweave_wide : (Rows.fnExactWeaveDataRow.wideKeys == (Try.f10.params.toList ++ Rows.fnExactWeaveDataSpec.plain.varTypes Try.pinned.checked.prog ++ Try.f10.resultTypes.toList).any (Try.pinned.checked.prog.wideKeysFrom ·)) = true := by kernel_rfl
theorem fweave_vars : Rows.fnExactWeaveDataSpec.vars.all (Try.pinned.checked.prog.varReadable ·) = true := by kernel_rfl
theorem fweave_res : Try.f10.resultTypes.all (fun t => Try.pinned.checked.prog.readableRec t && decide (t < Try.pinned.checked.prog.types.size)) = true := by kernel_rfl
theorem fweave_ifacesOut : (Rows.fnExactWeaveDataRow.ifacesOut == Try.f10.resultTypes.toList.any (Try.pinned.checked.prog.ifacesRec ·)) = true := by kernel_rfl
theorem fweave_loopsOut : (Rows.fnExactWeaveDataRow.loopsOut == Try.f10.resultTypes.toList.any (Try.pinned.checked.prog.loopsFrom ·)) = true := by kernel_rfl
theorem fweave_keys : (Rows.fnExactWeaveDataRow.plainKeys == Try.pinned.checked.prog.plainKeys) = true := by kernel_rfl
theorem fweave_lifted : (Rows.fnExactWeaveDataRow.lifted == Try.pinned.checked.prog.liftsFinal) = true := by kernel_rfl
theorem fweave_make : (Try.pinned.checked.prog.make == some Rows.fnExactWeaveDataRow.make) = true := by kernel_rfl
theorem fweave_pinned : (Rows.fnExactWeaveDataRow.pinned == Rows.fnExactWeaveDataRow.pinnedBy) = true := by kernel_rfl
theorem fweave_veiled : (Rows.fnExactWeaveDataRow.veiled == (Try.f10.params.toList ++ Rows.fnExactWeaveDataSpec.plain.varTypes Try.pinned.checked.prog ++ Try.f10.resultTypes.toList).any (Try.pinned.checked.prog.veiledRec ·)) = true := by kernel_rfl
theorem fweave_fits : Rows.fnExactWeaveDataRow.veiledFits Try.pinned.checked.prog Try.f10.params.toList (Try.f10.params.toList ++ Rows.fnExactWeaveDataSpec.plain.varTypes Try.pinned.checked.prog ++ Try.f10.resultTypes.toList) = true := by kernel_rfl

end Go.Proofs.Ytpakihjkjdanlaa
