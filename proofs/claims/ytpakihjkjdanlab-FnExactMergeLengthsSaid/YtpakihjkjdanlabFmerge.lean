/- The closed facts of the row of MergeLengths, each by itself. -/
import Derived.Test.YtpakihjkjdanlabLeav
namespace Go.Proofs.Ytpakihjkjdanlab

theorem fmerge_wf : Rows.fnExactMergeLengthsRow.wf (OpenSpec.ofChange Rows.fnExactMergeLengthsSpec) = true := by kernel_rfl
theorem fmerge_params : Try.f10.params.all (Try.pinned.checked.prog.readableRec ·) = true := by kernel_rfl
theorem fmerge_tie : namedTie Try.pinned.checked.prog Rows.fnExactMergeLengthsRow.named Rows.fnExactMergeLengthsSpec.vars = true := by kernel_rfl
theorem fmerge_place : (Rows.fnExactMergeLengthsRow.inPlace == Try.pinned.checked.prog.inPlace 10) = true := by kernel_rfl
theorem fmerge_unf : (Rows.fnExactMergeLengthsRow.unfollowed == Try.pinned.checked.prog.unfollowed 10) = true := by kernel_rfl
theorem fmerge_rec : (Rows.fnExactMergeLengthsRow.recurses == Try.pinned.checked.prog.recurses 10) = true := by kernel_rfl
theorem fmerge_named : (Rows.fnExactMergeLengthsRow.named == Try.pinned.checked.prog.varsNamed 10) = true := by kernel_rfl
theorem fmerge_maps : (Rows.fnExactMergeLengthsRow.maps == (Try.f10.params.toList ++ Rows.fnExactMergeLengthsSpec.plain.varTypes Try.pinned.checked.prog).any (Try.pinned.checked.prog.mapsRec ·)) = true := by kernel_rfl
theorem fmerge_ifaces : (Rows.fnExactMergeLengthsRow.ifaces == (Try.f10.params.toList ++ Rows.fnExactMergeLengthsSpec.plain.varTypes Try.pinned.checked.prog).any (Try.pinned.checked.prog.ifacesRec ·)) = true := by kernel_rfl
theorem fmerge_mapsOut : (Rows.fnExactMergeLengthsRow.mapsOut == Try.pinned.checked.prog.mapsAmong Try.f10.resultTypes.toList) = true := by kernel_rfl
theorem fmerge_loops : (Rows.fnExactMergeLengthsRow.loops == (Try.f10.params.toList ++ Rows.fnExactMergeLengthsSpec.plain.varTypes Try.pinned.checked.prog).any (Try.pinned.checked.prog.loopsFrom ·)) = true := by kernel_rfl
theorem fmerge_wide : (Rows.fnExactMergeLengthsRow.wideKeys == (Try.f10.params.toList ++ Rows.fnExactMergeLengthsSpec.plain.varTypes Try.pinned.checked.prog ++ Try.f10.resultTypes.toList).any (Try.pinned.checked.prog.wideKeysFrom ·)) = true := by kernel_rfl
theorem fmerge_vars : Rows.fnExactMergeLengthsSpec.vars.all (Try.pinned.checked.prog.varReadable ·) = true := by kernel_rfl
theorem fmerge_res : Try.f10.resultTypes.all (fun t => Try.pinned.checked.prog.readableRec t && decide (t < Try.pinned.checked.prog.types.size)) = true := by kernel_rfl
theorem fmerge_ifacesOut : (Rows.fnExactMergeLengthsRow.ifacesOut == Try.f10.resultTypes.toList.any (Try.pinned.checked.prog.ifacesRec ·)) = true := by kernel_rfl
theorem fmerge_loopsOut : (Rows.fnExactMergeLengthsRow.loopsOut == Try.f10.resultTypes.toList.any (Try.pinned.checked.prog.loopsFrom ·)) = true := by kernel_rfl
theorem fmerge_keys : (Rows.fnExactMergeLengthsRow.plainKeys == Try.pinned.checked.prog.plainKeys) = true := by kernel_rfl
theorem fmerge_lifted : (Rows.fnExactMergeLengthsRow.lifted == Try.pinned.checked.prog.liftsFinal) = true := by kernel_rfl
theorem fmerge_make : (Try.pinned.checked.prog.make == some Rows.fnExactMergeLengthsRow.make) = true := by kernel_rfl
theorem fmerge_pinned : (Rows.fnExactMergeLengthsRow.pinned == Rows.fnExactMergeLengthsRow.pinnedBy) = true := by kernel_rfl
theorem fmerge_veiled : (Rows.fnExactMergeLengthsRow.veiled == (Try.f10.params.toList ++ Rows.fnExactMergeLengthsSpec.plain.varTypes Try.pinned.checked.prog ++ Try.f10.resultTypes.toList).any (Try.pinned.checked.prog.veiledRec ·)) = true := by kernel_rfl
theorem fmerge_fits : Rows.fnExactMergeLengthsRow.veiledFits Try.pinned.checked.prog Try.f10.params.toList (Try.f10.params.toList ++ Rows.fnExactMergeLengthsSpec.plain.varTypes Try.pinned.checked.prog ++ Try.f10.resultTypes.toList) = true := by kernel_rfl

end Go.Proofs.Ytpakihjkjdanlab
