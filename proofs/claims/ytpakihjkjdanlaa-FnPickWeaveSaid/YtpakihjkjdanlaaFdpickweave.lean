/- The closed facts of the row of PickWeave, each by itself. -/
import Derived.Test.YtpakihjkjdanlaaLeav
namespace Go.Proofs.Ytpakihjkjdanlaa

theorem fdpickweave_wf : Rows.fnPickWeaveRow.wf (OpenSpec.ofChange Rows.fnPickWeaveSpec) = true := by kernel_rfl
theorem fdpickweave_params : Try.f14.params.all (Try.pinned.checked.prog.readableRec ·) = true := by kernel_rfl
theorem fdpickweave_tie : namedTie Try.pinned.checked.prog Rows.fnPickWeaveRow.named Rows.fnPickWeaveSpec.vars = true := by kernel_rfl
theorem fdpickweave_place : (Rows.fnPickWeaveRow.inPlace == Try.pinned.checked.prog.inPlace 14) = true := by kernel_rfl
theorem fdpickweave_unf : (Rows.fnPickWeaveRow.unfollowed == Try.pinned.checked.prog.unfollowed 14) = true := by kernel_rfl
theorem fdpickweave_rec : (Rows.fnPickWeaveRow.recurses == Try.pinned.checked.prog.recurses 14) = true := by kernel_rfl
theorem fdpickweave_named : (Rows.fnPickWeaveRow.named == Try.pinned.checked.prog.varsNamed 14) = true := by kernel_rfl
theorem fdpickweave_maps : (Rows.fnPickWeaveRow.maps == (Try.f14.params.toList ++ Rows.fnPickWeaveSpec.plain.varTypes Try.pinned.checked.prog).any (Try.pinned.checked.prog.mapsRec ·)) = true := by kernel_rfl
theorem fdpickweave_ifaces : (Rows.fnPickWeaveRow.ifaces == (Try.f14.params.toList ++ Rows.fnPickWeaveSpec.plain.varTypes Try.pinned.checked.prog).any (Try.pinned.checked.prog.ifacesRec ·)) = true := by kernel_rfl
theorem fdpickweave_mapsOut : (Rows.fnPickWeaveRow.mapsOut == Try.pinned.checked.prog.mapsAmong Try.f14.resultTypes.toList) = true := by kernel_rfl
theorem fdpickweave_loops : (Rows.fnPickWeaveRow.loops == (Try.f14.params.toList ++ Rows.fnPickWeaveSpec.plain.varTypes Try.pinned.checked.prog).any (Try.pinned.checked.prog.loopsFrom ·)) = true := by kernel_rfl
theorem fdpickweave_wide : (Rows.fnPickWeaveRow.wideKeys == (Try.f14.params.toList ++ Rows.fnPickWeaveSpec.plain.varTypes Try.pinned.checked.prog ++ Try.f14.resultTypes.toList).any (Try.pinned.checked.prog.wideKeysFrom ·)) = true := by kernel_rfl
theorem fdpickweave_vars : Rows.fnPickWeaveSpec.vars.all (Try.pinned.checked.prog.varReadable ·) = true := by kernel_rfl
theorem fdpickweave_res : Try.f14.resultTypes.all (fun t => Try.pinned.checked.prog.readableRec t && decide (t < Try.pinned.checked.prog.types.size)) = true := by kernel_rfl
theorem fdpickweave_ifacesOut : (Rows.fnPickWeaveRow.ifacesOut == Try.f14.resultTypes.toList.any (Try.pinned.checked.prog.ifacesRec ·)) = true := by kernel_rfl
theorem fdpickweave_loopsOut : (Rows.fnPickWeaveRow.loopsOut == Try.f14.resultTypes.toList.any (Try.pinned.checked.prog.loopsFrom ·)) = true := by kernel_rfl
theorem fdpickweave_keys : (Rows.fnPickWeaveRow.plainKeys == Try.pinned.checked.prog.plainKeys) = true := by kernel_rfl
theorem fdpickweave_lifted : (Rows.fnPickWeaveRow.lifted == Try.pinned.checked.prog.liftsFinal) = true := by kernel_rfl
theorem fdpickweave_make : (Try.pinned.checked.prog.make == some Rows.fnPickWeaveRow.make) = true := by kernel_rfl
theorem fdpickweave_pinned : (Rows.fnPickWeaveRow.pinned == Rows.fnPickWeaveRow.pinnedBy) = true := by kernel_rfl
theorem fdpickweave_veiled : (Rows.fnPickWeaveRow.veiled == (Try.f14.params.toList ++ Rows.fnPickWeaveSpec.plain.varTypes Try.pinned.checked.prog ++ Try.f14.resultTypes.toList).any (Try.pinned.checked.prog.veiledRec ·)) = true := by kernel_rfl
theorem fdpickweave_fits : Rows.fnPickWeaveRow.veiledFits Try.pinned.checked.prog Try.f14.params.toList (Try.f14.params.toList ++ Rows.fnPickWeaveSpec.plain.varTypes Try.pinned.checked.prog ++ Try.f14.resultTypes.toList) = true := by kernel_rfl

end Go.Proofs.Ytpakihjkjdanlaa
