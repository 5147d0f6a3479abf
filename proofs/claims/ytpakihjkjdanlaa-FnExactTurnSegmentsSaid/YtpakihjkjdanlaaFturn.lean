/- The closed facts of the row of TurnSegments, each by itself. -/
import Derived.Test.YtpakihjkjdanlaaLeav
namespace Go.Proofs.Ytpakihjkjdanlaa

theorem fturn_wf : Rows.fnExactTurnSegmentsRow.wf (OpenSpec.ofChange Rows.fnExactTurnSegmentsSpec) = true := by kernel_rfl
theorem fturn_params : Try.f7.params.all (Try.pinned.checked.prog.readableRec ·) = true := by kernel_rfl
theorem fturn_tie : namedTie Try.pinned.checked.prog Rows.fnExactTurnSegmentsRow.named Rows.fnExactTurnSegmentsSpec.vars = true := by kernel_rfl
theorem fturn_place : (Rows.fnExactTurnSegmentsRow.inPlace == Try.pinned.checked.prog.inPlace 7) = true := by kernel_rfl
theorem fturn_unf : (Rows.fnExactTurnSegmentsRow.unfollowed == Try.pinned.checked.prog.unfollowed 7) = true := by kernel_rfl
theorem fturn_rec : (Rows.fnExactTurnSegmentsRow.recurses == Try.pinned.checked.prog.recurses 7) = true := by kernel_rfl
theorem fturn_named : (Rows.fnExactTurnSegmentsRow.named == Try.pinned.checked.prog.varsNamed 7) = true := by kernel_rfl
theorem fturn_maps : (Rows.fnExactTurnSegmentsRow.maps == (Try.f7.params.toList ++ Rows.fnExactTurnSegmentsSpec.plain.varTypes Try.pinned.checked.prog).any (Try.pinned.checked.prog.mapsRec ·)) = true := by kernel_rfl
theorem fturn_ifaces : (Rows.fnExactTurnSegmentsRow.ifaces == (Try.f7.params.toList ++ Rows.fnExactTurnSegmentsSpec.plain.varTypes Try.pinned.checked.prog).any (Try.pinned.checked.prog.ifacesRec ·)) = true := by kernel_rfl
theorem fturn_mapsOut : (Rows.fnExactTurnSegmentsRow.mapsOut == Try.pinned.checked.prog.mapsAmong Try.f7.resultTypes.toList) = true := by kernel_rfl
theorem fturn_loops : (Rows.fnExactTurnSegmentsRow.loops == (Try.f7.params.toList ++ Rows.fnExactTurnSegmentsSpec.plain.varTypes Try.pinned.checked.prog).any (Try.pinned.checked.prog.loopsFrom ·)) = true := by kernel_rfl
theorem fturn_wide : (Rows.fnExactTurnSegmentsRow.wideKeys == (Try.f7.params.toList ++ Rows.fnExactTurnSegmentsSpec.plain.varTypes Try.pinned.checked.prog ++ Try.f7.resultTypes.toList).any (Try.pinned.checked.prog.wideKeysFrom ·)) = true := by kernel_rfl
theorem fturn_vars : Rows.fnExactTurnSegmentsSpec.vars.all (Try.pinned.checked.prog.varReadable ·) = true := by kernel_rfl
theorem fturn_res : Try.f7.resultTypes.all (fun t => Try.pinned.checked.prog.readableRec t && decide (t < Try.pinned.checked.prog.types.size)) = true := by kernel_rfl
theorem fturn_ifacesOut : (Rows.fnExactTurnSegmentsRow.ifacesOut == Try.f7.resultTypes.toList.any (Try.pinned.checked.prog.ifacesRec ·)) = true := by kernel_rfl
theorem fturn_loopsOut : (Rows.fnExactTurnSegmentsRow.loopsOut == Try.f7.resultTypes.toList.any (Try.pinned.checked.prog.loopsFrom ·)) = true := by kernel_rfl
theorem fturn_keys : (Rows.fnExactTurnSegmentsRow.plainKeys == Try.pinned.checked.prog.plainKeys) = true := by kernel_rfl
theorem fturn_lifted : (Rows.fnExactTurnSegmentsRow.lifted == Try.pinned.checked.prog.liftsFinal) = true := by kernel_rfl
theorem fturn_make : (Try.pinned.checked.prog.make == some Rows.fnExactTurnSegmentsRow.make) = true := by kernel_rfl
theorem fturn_pinned : (Rows.fnExactTurnSegmentsRow.pinned == Rows.fnExactTurnSegmentsRow.pinnedBy) = true := by kernel_rfl
theorem fturn_veiled : (Rows.fnExactTurnSegmentsRow.veiled == (Try.f7.params.toList ++ Rows.fnExactTurnSegmentsSpec.plain.varTypes Try.pinned.checked.prog ++ Try.f7.resultTypes.toList).any (Try.pinned.checked.prog.veiledRec ·)) = true := by kernel_rfl
theorem fturn_fits : Rows.fnExactTurnSegmentsRow.veiledFits Try.pinned.checked.prog Try.f7.params.toList (Try.f7.params.toList ++ Rows.fnExactTurnSegmentsSpec.plain.varTypes Try.pinned.checked.prog ++ Try.f7.resultTypes.toList) = true := by kernel_rfl

end Go.Proofs.Ytpakihjkjdanlaa
