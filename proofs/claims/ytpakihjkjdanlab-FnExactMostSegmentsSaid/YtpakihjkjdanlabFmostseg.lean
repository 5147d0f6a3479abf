/- The closed facts of the row of MostSegments, each by itself. -/
import Derived.Test.YtpakihjkjdanlabLeav
namespace Go.Proofs.Ytpakihjkjdanlab

theorem fmostseg_wf : Rows.fnExactMostSegmentsRow.wf (OpenSpec.ofChange Rows.fnExactMostSegmentsSpec) = true := by kernel_rfl
theorem fmostseg_params : Try.f6.params.all (Try.pinned.checked.prog.readableRec ·) = true := by kernel_rfl
theorem fmostseg_tie : namedTie Try.pinned.checked.prog Rows.fnExactMostSegmentsRow.named Rows.fnExactMostSegmentsSpec.vars = true := by kernel_rfl
theorem fmostseg_place : (Rows.fnExactMostSegmentsRow.inPlace == Try.pinned.checked.prog.inPlace 6) = true := by kernel_rfl
theorem fmostseg_unf : (Rows.fnExactMostSegmentsRow.unfollowed == Try.pinned.checked.prog.unfollowed 6) = true := by kernel_rfl
theorem fmostseg_rec : (Rows.fnExactMostSegmentsRow.recurses == Try.pinned.checked.prog.recurses 6) = true := by kernel_rfl
theorem fmostseg_named : (Rows.fnExactMostSegmentsRow.named == Try.pinned.checked.prog.varsNamed 6) = true := by kernel_rfl
theorem fmostseg_maps : (Rows.fnExactMostSegmentsRow.maps == (Try.f6.params.toList ++ Rows.fnExactMostSegmentsSpec.plain.varTypes Try.pinned.checked.prog).any (Try.pinned.checked.prog.mapsRec ·)) = true := by kernel_rfl
theorem fmostseg_ifaces : (Rows.fnExactMostSegmentsRow.ifaces == (Try.f6.params.toList ++ Rows.fnExactMostSegmentsSpec.plain.varTypes Try.pinned.checked.prog).any (Try.pinned.checked.prog.ifacesRec ·)) = true := by kernel_rfl
theorem fmostseg_mapsOut : (Rows.fnExactMostSegmentsRow.mapsOut == Try.pinned.checked.prog.mapsAmong Try.f6.resultTypes.toList) = true := by kernel_rfl
theorem fmostseg_loops : (Rows.fnExactMostSegmentsRow.loops == (Try.f6.params.toList ++ Rows.fnExactMostSegmentsSpec.plain.varTypes Try.pinned.checked.prog).any (Try.pinned.checked.prog.loopsFrom ·)) = true := by kernel_rfl
theorem fmostseg_wide : (Rows.fnExactMostSegmentsRow.wideKeys == (Try.f6.params.toList ++ Rows.fnExactMostSegmentsSpec.plain.varTypes Try.pinned.checked.prog ++ Try.f6.resultTypes.toList).any (Try.pinned.checked.prog.wideKeysFrom ·)) = true := by kernel_rfl
theorem fmostseg_vars : Rows.fnExactMostSegmentsSpec.vars.all (Try.pinned.checked.prog.varReadable ·) = true := by kernel_rfl
theorem fmostseg_res : Try.f6.resultTypes.all (fun t => Try.pinned.checked.prog.readableRec t && decide (t < Try.pinned.checked.prog.types.size)) = true := by kernel_rfl
theorem fmostseg_ifacesOut : (Rows.fnExactMostSegmentsRow.ifacesOut == Try.f6.resultTypes.toList.any (Try.pinned.checked.prog.ifacesRec ·)) = true := by kernel_rfl
theorem fmostseg_loopsOut : (Rows.fnExactMostSegmentsRow.loopsOut == Try.f6.resultTypes.toList.any (Try.pinned.checked.prog.loopsFrom ·)) = true := by kernel_rfl
theorem fmostseg_keys : (Rows.fnExactMostSegmentsRow.plainKeys == Try.pinned.checked.prog.plainKeys) = true := by kernel_rfl
theorem fmostseg_lifted : (Rows.fnExactMostSegmentsRow.lifted == Try.pinned.checked.prog.liftsFinal) = true := by kernel_rfl
theorem fmostseg_make : (Try.pinned.checked.prog.make == some Rows.fnExactMostSegmentsRow.make) = true := by kernel_rfl
theorem fmostseg_pinned : (Rows.fnExactMostSegmentsRow.pinned == Rows.fnExactMostSegmentsRow.pinnedBy) = true := by kernel_rfl
theorem fmostseg_veiled : (Rows.fnExactMostSegmentsRow.veiled == (Try.f6.params.toList ++ Rows.fnExactMostSegmentsSpec.plain.varTypes Try.pinned.checked.prog ++ Try.f6.resultTypes.toList).any (Try.pinned.checked.prog.veiledRec ·)) = true := by kernel_rfl
theorem fmostseg_fits : Rows.fnExactMostSegmentsRow.veiledFits Try.pinned.checked.prog Try.f6.params.toList (Try.f6.params.toList ++ Rows.fnExactMostSegmentsSpec.plain.varTypes Try.pinned.checked.prog ++ Try.f6.resultTypes.toList) = true := by kernel_rfl

end Go.Proofs.Ytpakihjkjdanlab
