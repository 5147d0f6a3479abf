/- The closed facts of the row of SegmentsValid, each by itself. -/
import Derived.Test.YtpakihjkjdanlabLeav
namespace Go.Proofs.Ytpakihjkjdanlab

theorem fsegv_wf : Rows.fnExactSegmentsValidRow.wf (OpenSpec.ofChange Rows.fnExactSegmentsValidSpec) = true := by kernel_rfl
theorem fsegv_params : Try.f3.params.all (Try.pinned.checked.prog.readableRec ·) = true := by kernel_rfl
theorem fsegv_tie : namedTie Try.pinned.checked.prog Rows.fnExactSegmentsValidRow.named Rows.fnExactSegmentsValidSpec.vars = true := by kernel_rfl
theorem fsegv_place : (Rows.fnExactSegmentsValidRow.inPlace == Try.pinned.checked.prog.inPlace 3) = true := by kernel_rfl
theorem fsegv_unf : (Rows.fnExactSegmentsValidRow.unfollowed == Try.pinned.checked.prog.unfollowed 3) = true := by kernel_rfl
theorem fsegv_rec : (Rows.fnExactSegmentsValidRow.recurses == Try.pinned.checked.prog.recurses 3) = true := by kernel_rfl
theorem fsegv_named : (Rows.fnExactSegmentsValidRow.named == Try.pinned.checked.prog.varsNamed 3) = true := by kernel_rfl
theorem fsegv_maps : (Rows.fnExactSegmentsValidRow.maps == (Try.f3.params.toList ++ Rows.fnExactSegmentsValidSpec.plain.varTypes Try.pinned.checked.prog).any (Try.pinned.checked.prog.mapsRec ·)) = true := by kernel_rfl
theorem fsegv_ifaces : (Rows.fnExactSegmentsValidRow.ifaces == (Try.f3.params.toList ++ Rows.fnExactSegmentsValidSpec.plain.varTypes Try.pinned.checked.prog).any (Try.pinned.checked.prog.ifacesRec ·)) = true := by kernel_rfl
theorem fsegv_mapsOut : (Rows.fnExactSegmentsValidRow.mapsOut == Try.pinned.checked.prog.mapsAmong Try.f3.resultTypes.toList) = true := by kernel_rfl
theorem fsegv_loops : (Rows.fnExactSegmentsValidRow.loops == (Try.f3.params.toList ++ Rows.fnExactSegmentsValidSpec.plain.varTypes Try.pinned.checked.prog).any (Try.pinned.checked.prog.loopsFrom ·)) = true := by kernel_rfl
theorem fsegv_wide : (Rows.fnExactSegmentsValidRow.wideKeys == (Try.f3.params.toList ++ Rows.fnExactSegmentsValidSpec.plain.varTypes Try.pinned.checked.prog ++ Try.f3.resultTypes.toList).any (Try.pinned.checked.prog.wideKeysFrom ·)) = true := by kernel_rfl
theorem fsegv_vars : Rows.fnExactSegmentsValidSpec.vars.all (Try.pinned.checked.prog.varReadable ·) = true := by kernel_rfl
theorem fsegv_res : Try.f3.resultTypes.all (fun t => Try.pinned.checked.prog.readableRec t && decide (t < Try.pinned.checked.prog.types.size)) = true := by kernel_rfl
theorem fsegv_ifacesOut : (Rows.fnExactSegmentsValidRow.ifacesOut == Try.f3.resultTypes.toList.any (Try.pinned.checked.prog.ifacesRec ·)) = true := by kernel_rfl
theorem fsegv_loopsOut : (Rows.fnExactSegmentsValidRow.loopsOut == Try.f3.resultTypes.toList.any (Try.pinned.checked.prog.loopsFrom ·)) = true := by kernel_rfl
theorem fsegv_keys : (Rows.fnExactSegmentsValidRow.plainKeys == Try.pinned.checked.prog.plainKeys) = true := by kernel_rfl
theorem fsegv_lifted : (Rows.fnExactSegmentsValidRow.lifted == Try.pinned.checked.prog.liftsFinal) = true := by kernel_rfl
theorem fsegv_make : (Try.pinned.checked.prog.make == some Rows.fnExactSegmentsValidRow.make) = true := by kernel_rfl
theorem fsegv_pinned : (Rows.fnExactSegmentsValidRow.pinned == Rows.fnExactSegmentsValidRow.pinnedBy) = true := by kernel_rfl
theorem fsegv_veiled : (Rows.fnExactSegmentsValidRow.veiled == (Try.f3.params.toList ++ Rows.fnExactSegmentsValidSpec.plain.varTypes Try.pinned.checked.prog ++ Try.f3.resultTypes.toList).any (Try.pinned.checked.prog.veiledRec ·)) = true := by kernel_rfl
theorem fsegv_fits : Rows.fnExactSegmentsValidRow.veiledFits Try.pinned.checked.prog Try.f3.params.toList (Try.f3.params.toList ++ Rows.fnExactSegmentsValidSpec.plain.varTypes Try.pinned.checked.prog ++ Try.f3.resultTypes.toList) = true := by kernel_rfl

end Go.Proofs.Ytpakihjkjdanlab
