/- The closed facts of the row of SumSegments, each by itself. -/
import Derived.Test.YtpakihjkjdanlabLeav
namespace Go.Proofs.Ytpakihjkjdanlab

theorem fsumseg_wf : Rows.fnExactSumSegmentsRow.wf (OpenSpec.ofChange Rows.fnExactSumSegmentsSpec) = true := by kernel_rfl
theorem fsumseg_params : Try.f5.params.all (Try.pinned.checked.prog.readableRec ·) = true := by kernel_rfl
theorem fsumseg_tie : namedTie Try.pinned.checked.prog Rows.fnExactSumSegmentsRow.named Rows.fnExactSumSegmentsSpec.vars = true := by kernel_rfl
theorem fsumseg_place : (Rows.fnExactSumSegmentsRow.inPlace == Try.pinned.checked.prog.inPlace 5) = true := by kernel_rfl
theorem fsumseg_unf : (Rows.fnExactSumSegmentsRow.unfollowed == Try.pinned.checked.prog.unfollowed 5) = true := by kernel_rfl
theorem fsumseg_rec : (Rows.fnExactSumSegmentsRow.recurses == Try.pinned.checked.prog.recurses 5) = true := by kernel_rfl
theorem fsumseg_named : (Rows.fnExactSumSegmentsRow.named == Try.pinned.checked.prog.varsNamed 5) = true := by kernel_rfl
theorem fsumseg_maps : (Rows.fnExactSumSegmentsRow.maps == (Try.f5.params.toList ++ Rows.fnExactSumSegmentsSpec.plain.varTypes Try.pinned.checked.prog).any (Try.pinned.checked.prog.mapsRec ·)) = true := by kernel_rfl
theorem fsumseg_ifaces : (Rows.fnExactSumSegmentsRow.ifaces == (Try.f5.params.toList ++ Rows.fnExactSumSegmentsSpec.plain.varTypes Try.pinned.checked.prog).any (Try.pinned.checked.prog.ifacesRec ·)) = true := by kernel_rfl
theorem fsumseg_mapsOut : (Rows.fnExactSumSegmentsRow.mapsOut == Try.pinned.checked.prog.mapsAmong Try.f5.resultTypes.toList) = true := by kernel_rfl
theorem fsumseg_loops : (Rows.fnExactSumSegmentsRow.loops == (Try.f5.params.toList ++ Rows.fnExactSumSegmentsSpec.plain.varTypes Try.pinned.checked.prog).any (Try.pinned.checked.prog.loopsFrom ·)) = true := by kernel_rfl
theorem fsumseg_wide : (Rows.fnExactSumSegmentsRow.wideKeys == (Try.f5.params.toList ++ Rows.fnExactSumSegmentsSpec.plain.varTypes Try.pinned.checked.prog ++ Try.f5.resultTypes.toList).any (Try.pinned.checked.prog.wideKeysFrom ·)) = true := by kernel_rfl
theorem fsumseg_vars : Rows.fnExactSumSegmentsSpec.vars.all (Try.pinned.checked.prog.varReadable ·) = true := by kernel_rfl
theorem fsumseg_res : Try.f5.resultTypes.all (fun t => Try.pinned.checked.prog.readableRec t && decide (t < Try.pinned.checked.prog.types.size)) = true := by kernel_rfl
theorem fsumseg_ifacesOut : (Rows.fnExactSumSegmentsRow.ifacesOut == Try.f5.resultTypes.toList.any (Try.pinned.checked.prog.ifacesRec ·)) = true := by kernel_rfl
theorem fsumseg_loopsOut : (Rows.fnExactSumSegmentsRow.loopsOut == Try.f5.resultTypes.toList.any (Try.pinned.checked.prog.loopsFrom ·)) = true := by kernel_rfl
theorem fsumseg_keys : (Rows.fnExactSumSegmentsRow.plainKeys == Try.pinned.checked.prog.plainKeys) = true := by kernel_rfl
theorem fsumseg_lifted : (Rows.fnExactSumSegmentsRow.lifted == Try.pinned.checked.prog.liftsFinal) = true := by kernel_rfl
theorem fsumseg_make : (Try.pinned.checked.prog.make == some Rows.fnExactSumSegmentsRow.make) = true := by kernel_rfl
theorem fsumseg_pinned : (Rows.fnExactSumSegmentsRow.pinned == Rows.fnExactSumSegmentsRow.pinnedBy) = true := by kernel_rfl
theorem fsumseg_veiled : (Rows.fnExactSumSegmentsRow.veiled == (Try.f5.params.toList ++ Rows.fnExactSumSegmentsSpec.plain.varTypes Try.pinned.checked.prog ++ Try.f5.resultTypes.toList).any (Try.pinned.checked.prog.veiledRec ·)) = true := by kernel_rfl
theorem fsumseg_fits : Rows.fnExactSumSegmentsRow.veiledFits Try.pinned.checked.prog Try.f5.params.toList (Try.f5.params.toList ++ Rows.fnExactSumSegmentsSpec.plain.varTypes Try.pinned.checked.prog ++ Try.f5.resultTypes.toList) = true := by kernel_rfl

end Go.Proofs.Ytpakihjkjdanlab
