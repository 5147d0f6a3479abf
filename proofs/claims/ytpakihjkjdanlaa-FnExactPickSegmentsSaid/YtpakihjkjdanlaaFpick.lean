/- The closed facts of the row of PickSegments, each by itself. -/
import Derived.Test.YtpakihjkjdanlaaLeav
namespace Go.Proofs.Ytpakihjkjdanlaa

theorem fpick_wf : Rows.fnExactPickSegmentsRow.wf (OpenSpec.ofChange Rows.fnExactPickSegmentsSpec) = true := by kernel_rfl
theorem fpick_params : Try.f9.params.all (Try.pinned.checked.prog.readableRec ·) = true := by kernel_rfl
theorem fpick_tie : namedTie Try.pinned.checked.prog Rows.fnExactPickSegmentsRow.named Rows.fnExactPickSegmentsSpec.vars = true := by kernel_rfl
theorem fpick_place : (Rows.fnExactPickSegmentsRow.inPlace == Try.pinned.checked.prog.inPlace 9) = true := by kernel_rfl
theorem fpick_unf : (Rows.fnExactPickSegmentsRow.unfollowed == Try.pinned.checked.prog.unfollowed 9) = true := by kernel_rfl
theorem fpick_rec : (Rows.fnExactPickSegmentsRow.recurses == Try.pinned.checked.prog.recurses 9) = true := by kernel_rfl
theorem fpick_named : (Rows.fnExactPickSegmentsRow.named == Try.pinned.checked.prog.varsNamed 9) = true := by kernel_rfl
theorem fpick_maps : (Rows.fnExactPickSegmentsRow.maps == (Try.f9.params.toList ++ Rows.fnExactPickSegmentsSpec.plain.varTypes Try.pinned.checked.prog).any (Try.pinned.checked.prog.mapsRec ·)) = true := by kernel_rfl
theorem fpick_ifaces : (Rows.fnExactPickSegmentsRow.ifaces == (Try.f9.params.toList ++ Rows.fnExactPickSegmentsSpec.plain.varTypes Try.pinned.checked.prog).any (Try.pinned.checked.prog.ifacesRec ·)) = true := by kernel_rfl
theorem fpick_mapsOut : (Rows.fnExactPickSegmentsRow.mapsOut == Try.pinned.checked.prog.mapsAmong Try.f9.resultTypes.toList) = true := by kernel_rfl
theorem fpick_loops : (Rows.fnExactPickSegmentsRow.loops == (Try.f9.params.toList ++ Rows.fnExactPickSegmentsSpec.plain.varTypes Try.pinned.checked.prog).any (Try.pinned.checked.prog.loopsFrom ·)) = true := by kernel_rfl
theorem fpick_wide : (Rows.fnExactPickSegmentsRow.wideKeys == (Try.f9.params.toList ++ Rows.fnExactPickSegmentsSpec.plain.varTypes Try.pinned.checked.prog ++ Try.f9.resultTypes.toList).any (Try.pinned.checked.prog.wideKeysFrom ·)) = true := by kernel_rfl
theorem fpick_vars : Rows.fnExactPickSegmentsSpec.vars.all (Try.pinned.checked.prog.varReadable ·) = true := by kernel_rfl
theorem fpick_res : Try.f9.resultTypes.all (fun t => Try.pinned.checked.prog.readableRec t && decide (t < Try.pinned.checked.prog.types.size)) = true := by kernel_rfl
theorem fpick_ifacesOut : (Rows.fnExactPickSegmentsRow.ifacesOut == Try.f9.resultTypes.toList.any (Try.pinned.checked.prog.ifacesRec ·)) = true := by kernel_rfl
theorem fpick_loopsOut : (Rows.fnExactPickSegmentsRow.loopsOut == Try.f9.resultTypes.toList.any (Try.pinned.checked.prog.loopsFrom ·)) = true := by kernel_rfl
theorem fpick_keys : (Rows.fnExactPickSegmentsRow.plainKeys == Try.pinned.checked.prog.plainKeys) = true := by kernel_rfl
theorem fpick_lifted : (Rows.fnExactPickSegmentsRow.lifted == Try.pinned.checked.prog.liftsFinal) = true := by kernel_rfl
theorem fpick_make : (Try.pinned.checked.prog.make == some Rows.fnExactPickSegmentsRow.make) = true := by kernel_rfl
theorem fpick_pinned : (Rows.fnExactPickSegmentsRow.pinned == Rows.fnExactPickSegmentsRow.pinnedBy) = true := by kernel_rfl
theorem fpick_veiled : (Rows.fnExactPickSegmentsRow.veiled == (Try.f9.params.toList ++ Rows.fnExactPickSegmentsSpec.plain.varTypes Try.pinned.checked.prog ++ Try.f9.resultTypes.toList).any (Try.pinned.checked.prog.veiledRec ·)) = true := by kernel_rfl
theorem fpick_fits : Rows.fnExactPickSegmentsRow.veiledFits Try.pinned.checked.prog Try.f9.params.toList (Try.f9.params.toList ++ Rows.fnExactPickSegmentsSpec.plain.varTypes Try.pinned.checked.prog ++ Try.f9.resultTypes.toList) = true := by kernel_rfl

end Go.Proofs.Ytpakihjkjdanlaa
