/- The closed facts of the row of PackSegments, each by itself. -/
import Derived.Test.YtpakihjkjdanlabLeav
namespace Go.Proofs.Ytpakihjkjdanlab

theorem fpack_wf : Rows.fnExactPackSegmentsRow.wf (OpenSpec.ofChange Rows.fnExactPackSegmentsSpec) = true := by kernel_rfl
theorem fpack_params : Try.f9.params.all (Try.pinned.checked.prog.readableRec ·) = true := by kernel_rfl
theorem fpack_tie : namedTie Try.pinned.checked.prog Rows.fnExactPackSegmentsRow.named Rows.fnExactPackSegmentsSpec.vars = true := by kernel_rfl
theorem fpack_place : (Rows.fnExactPackSegmentsRow.inPlace == Try.pinned.checked.prog.inPlace 9) = true := by kernel_rfl
theorem fpack_unf : (Rows.fnExactPackSegmentsRow.unfollowed == Try.pinned.checked.prog.unfollowed 9) = true := by kernel_rfl
theorem fpack_rec : (Rows.fnExactPackSegmentsRow.recurses == Try.pinned.checked.prog.recurses 9) = true := by kernel_rfl
theorem fpack_named : (Rows.fnExactPackSegmentsRow.named == Try.pinned.checked.prog.varsNamed 9) = true := by kernel_rfl
theorem fpack_maps : (Rows.fnExactPackSegmentsRow.maps == (Try.f9.params.toList ++ Rows.fnExactPackSegmentsSpec.plain.varTypes Try.pinned.checked.prog).any (Try.pinned.checked.prog.mapsRec ·)) = true := by kernel_rfl
theorem fpack_ifaces : (Rows.fnExactPackSegmentsRow.ifaces == (Try.f9.params.toList ++ Rows.fnExactPackSegmentsSpec.plain.varTypes Try.pinned.checked.prog).any (Try.pinned.checked.prog.ifacesRec ·)) = true := by kernel_rfl
theorem fpack_mapsOut : (Rows.fnExactPackSegmentsRow.mapsOut == Try.pinned.checked.prog.mapsAmong Try.f9.resultTypes.toList) = true := by kernel_rfl
theorem fpack_loops : (Rows.fnExactPackSegmentsRow.loops == (Try.f9.params.toList ++ Rows.fnExactPackSegmentsSpec.plain.varTypes Try.pinned.checked.prog).any (Try.pinned.checked.prog.loopsFrom ·)) = true := by kernel_rfl
theorem fpack_wide : (Rows.fnExactPackSegmentsRow.wideKeys == (Try.f9.params.toList ++ Rows.fnExactPackSegmentsSpec.plain.varTypes Try.pinned.checked.prog ++ Try.f9.resultTypes.toList).any (Try.pinned.checked.prog.wideKeysFrom ·)) = true := by kernel_rfl
theorem fpack_vars : Rows.fnExactPackSegmentsSpec.vars.all (Try.pinned.checked.prog.varReadable ·) = true := by kernel_rfl
theorem fpack_res : Try.f9.resultTypes.all (fun t => Try.pinned.checked.prog.readableRec t && decide (t < Try.pinned.checked.prog.types.size)) = true := by kernel_rfl
theorem fpack_ifacesOut : (Rows.fnExactPackSegmentsRow.ifacesOut == Try.f9.resultTypes.toList.any (Try.pinned.checked.prog.ifacesRec ·)) = true := by kernel_rfl
theorem fpack_loopsOut : (Rows.fnExactPackSegmentsRow.loopsOut == Try.f9.resultTypes.toList.any (Try.pinned.checked.prog.loopsFrom ·)) = true := by kernel_rfl
theorem fpack_keys : (Rows.fnExactPackSegmentsRow.plainKeys == Try.pinned.checked.prog.plainKeys) = true := by kernel_rfl
theorem fpack_lifted : (Rows.fnExactPackSegmentsRow.lifted == Try.pinned.checked.prog.liftsFinal) = true := by kernel_rfl
theorem fpack_make : (Try.pinned.checked.prog.make == some Rows.fnExactPackSegmentsRow.make) = true := by kernel_rfl
theorem fpack_pinned : (Rows.fnExactPackSegmentsRow.pinned == Rows.fnExactPackSegmentsRow.pinnedBy) = true := by kernel_rfl
theorem fpack_veiled : (Rows.fnExactPackSegmentsRow.veiled == (Try.f9.params.toList ++ Rows.fnExactPackSegmentsSpec.plain.varTypes Try.pinned.checked.prog ++ Try.f9.resultTypes.toList).any (Try.pinned.checked.prog.veiledRec ·)) = true := by kernel_rfl
theorem fpack_fits : Rows.fnExactPackSegmentsRow.veiledFits Try.pinned.checked.prog Try.f9.params.toList (Try.f9.params.toList ++ Rows.fnExactPackSegmentsSpec.plain.varTypes Try.pinned.checked.prog ++ Try.f9.resultTypes.toList) = true := by kernel_rfl

end Go.Proofs.Ytpakihjkjdanlab
