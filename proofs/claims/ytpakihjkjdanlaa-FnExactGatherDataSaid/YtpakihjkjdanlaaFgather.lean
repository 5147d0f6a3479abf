/- The closed facts of the row of GatherData, each by itself. -/
import Derived.Test.YtpakihjkjdanlaaLeav
namespace Go.Proofs.Ytpakihjkjdanlaa

theorem fgather_wf : Rows.fnExactGatherDataRow.wf (OpenSpec.ofChange Rows.fnExactGatherDataSpec) = true := by kernel_rfl
theorem fgather_params : Try.f3.params.all (Try.pinned.checked.prog.readableRec ·) = true := by kernel_rfl
theorem fgather_tie : namedTie Try.pinned.checked.prog Rows.fnExactGatherDataRow.named Rows.fnExactGatherDataSpec.vars = true := by kernel_rfl
theorem fgather_place : (Rows.fnExactGatherDataRow.inPlace == Try.pinned.checked.prog.inPlace 3) = true := by kernel_rfl
theorem fgather_unf : (Rows.fnExactGatherDataRow.unfollowed == Try.pinned.checked.prog.unfollowed 3) = true := by kernel_rfl
theorem fgather_rec : (Rows.fnExactGatherDataRow.recurses == Try.pinned.checked.prog.recurses 3) = true := by kernel_rfl
theorem fgather_named : (Rows.fnExactGatherDataRow.named == Try.pinned.checked.prog.varsNamed 3) = true := by kernel_rfl
theorem fgather_maps : (Rows.fnExactGatherDataRow.maps == (Try.f3.params.toList ++ Rows.fnExactGatherDataSpec.plain.varTypes Try.pinned.checked.prog).any (Try.pinned.checked.prog.mapsRec ·)) = true := by kernel_rfl
theorem fgather_ifaces : (Rows.fnExactGatherDataRow.ifaces == (Try.f3.params.toList ++ Rows.fnExactGatherDataSpec.plain.varTypes Try.pinned.checked.prog).any (Try.pinned.checked.prog.ifacesRec ·)) = true := by kernel_rfl
theorem fgather_mapsOut : (Rows.fnExactGatherDataRow.mapsOut == Try.pinned.checked.prog.mapsAmong Try.f3.resultTypes.toList) = true := by kernel_rfl
theorem fgather_loops : (Rows.fnExactGatherDataRow.loops == (Try.f3.params.toList ++ Rows.fnExactGatherDataSpec.plain.varTypes Try.pinned.checked.prog).any (Try.pinned.checked.prog.loopsFrom ·)) = true := by kernel_rfl
theorem fgather_wide : (Rows.fnExactGatherDataRow.wideKeys == (Try.f3.params.toList ++ Rows.fnExactGatherDataSpec.plain.varTypes Try.pinned.checked.prog ++ Try.f3.resultTypes.toList).any (Try.pinned.checked.prog.wideKeysFrom ·)) = true := by kernel_rfl
theorem fgather_vars : Rows.fnExactGatherDataSpec.vars.all (Try.pinned.checked.prog.varReadable ·) = true := by kernel_rfl
theorem fgather_res : Try.f3.resultTypes.all (fun t => Try.pinned.checked.prog.readableRec t && decide (t < Try.pinned.checked.prog.types.size)) = true := by kernel_rfl
theorem fgather_ifacesOut : (Rows.fnExactGatherDataRow.ifacesOut == Try.f3.resultTypes.toList.any (Try.pinned.checked.prog.ifacesRec ·)) = true := by kernel_rfl
theorem fgather_loopsOut : (Rows.fnExactGatherDataRow.loopsOut == Try.f3.resultTypes.toList.any (Try.pinned.checked.prog.loopsFrom ·)) = true := by kernel_rfl
theorem fgather_keys : (Rows.fnExactGatherDataRow.plainKeys == Try.pinned.checked.prog.plainKeys) = true := by kernel_rfl
theorem fgather_lifted : (Rows.fnExactGatherDataRow.lifted == Try.pinned.checked.prog.liftsFinal) = true := by kernel_rfl
theorem fgather_make : (Try.pinned.checked.prog.make == some Rows.fnExactGatherDataRow.make) = true := by kernel_rfl
theorem fgather_pinned : (Rows.fnExactGatherDataRow.pinned == Rows.fnExactGatherDataRow.pinnedBy) = true := by kernel_rfl
theorem fgather_veiled : (Rows.fnExactGatherDataRow.veiled == (Try.f3.params.toList ++ Rows.fnExactGatherDataSpec.plain.varTypes Try.pinned.checked.prog ++ Try.f3.resultTypes.toList).any (Try.pinned.checked.prog.veiledRec ·)) = true := by kernel_rfl
theorem fgather_fits : Rows.fnExactGatherDataRow.veiledFits Try.pinned.checked.prog Try.f3.params.toList (Try.f3.params.toList ++ Rows.fnExactGatherDataSpec.plain.varTypes Try.pinned.checked.prog ++ Try.f3.resultTypes.toList) = true := by kernel_rfl

end Go.Proofs.Ytpakihjkjdanlaa
