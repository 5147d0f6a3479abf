/- The closed facts of the row of Scatter, each by itself. -/
import Derived.Test.YtpakihjkjdanlaaLeav
namespace Go.Proofs.Ytpakihjkjdanlaa

theorem fdscatter_wf : Rows.fnScatterRow.wf (OpenSpec.ofChange Rows.fnScatterSpec) = true := by kernel_rfl
theorem fdscatter_params : Try.f12.params.all (Try.pinned.checked.prog.readableRec ·) = true := by kernel_rfl
theorem fdscatter_tie : namedTie Try.pinned.checked.prog Rows.fnScatterRow.named Rows.fnScatterSpec.vars = true := by kernel_rfl
theorem fdscatter_place : (Rows.fnScatterRow.inPlace == Try.pinned.checked.prog.inPlace 12) = true := by kernel_rfl
theorem fdscatter_unf : (Rows.fnScatterRow.unfollowed == Try.pinned.checked.prog.unfollowed 12) = true := by kernel_rfl
theorem fdscatter_rec : (Rows.fnScatterRow.recurses == Try.pinned.checked.prog.recurses 12) = true := by kernel_rfl
theorem fdscatter_named : (Rows.fnScatterRow.named == Try.pinned.checked.prog.varsNamed 12) = true := by kernel_rfl
theorem fdscatter_maps : (Rows.fnScatterRow.maps == (Try.f12.params.toList ++ Rows.fnScatterSpec.plain.varTypes Try.pinned.checked.prog).any (Try.pinned.checked.prog.mapsRec ·)) = true := by kernel_rfl
theorem fdscatter_ifaces : (Rows.fnScatterRow.ifaces == (Try.f12.params.toList ++ Rows.fnScatterSpec.plain.varTypes Try.pinned.checked.prog).any (Try.pinned.checked.prog.ifacesRec ·)) = true := by kernel_rfl
theorem fdscatter_mapsOut : (Rows.fnScatterRow.mapsOut == Try.pinned.checked.prog.mapsAmong Try.f12.resultTypes.toList) = true := by kernel_rfl
theorem fdscatter_loops : (Rows.fnScatterRow.loops == (Try.f12.params.toList ++ Rows.fnScatterSpec.plain.varTypes Try.pinned.checked.prog).any (Try.pinned.checked.prog.loopsFrom ·)) = true := by kernel_rfl
theorem fdscatter_wide : (Rows.fnScatterRow.wideKeys == (Try.f12.params.toList ++ Rows.fnScatterSpec.plain.varTypes Try.pinned.checked.prog ++ Try.f12.resultTypes.toList).any (Try.pinned.checked.prog.wideKeysFrom ·)) = true := by kernel_rfl
theorem fdscatter_vars : Rows.fnScatterSpec.vars.all (Try.pinned.checked.prog.varReadable ·) = true := by kernel_rfl
theorem fdscatter_res : Try.f12.resultTypes.all (fun t => Try.pinned.checked.prog.readableRec t && decide (t < Try.pinned.checked.prog.types.size)) = true := by kernel_rfl
theorem fdscatter_ifacesOut : (Rows.fnScatterRow.ifacesOut == Try.f12.resultTypes.toList.any (Try.pinned.checked.prog.ifacesRec ·)) = true := by kernel_rfl
theorem fdscatter_loopsOut : (Rows.fnScatterRow.loopsOut == Try.f12.resultTypes.toList.any (Try.pinned.checked.prog.loopsFrom ·)) = true := by kernel_rfl
theorem fdscatter_keys : (Rows.fnScatterRow.plainKeys == Try.pinned.checked.prog.plainKeys) = true := by kernel_rfl
theorem fdscatter_lifted : (Rows.fnScatterRow.lifted == Try.pinned.checked.prog.liftsFinal) = true := by kernel_rfl
theorem fdscatter_make : (Try.pinned.checked.prog.make == some Rows.fnScatterRow.make) = true := by kernel_rfl
theorem fdscatter_pinned : (Rows.fnScatterRow.pinned == Rows.fnScatterRow.pinnedBy) = true := by kernel_rfl
theorem fdscatter_veiled : (Rows.fnScatterRow.veiled == (Try.f12.params.toList ++ Rows.fnScatterSpec.plain.varTypes Try.pinned.checked.prog ++ Try.f12.resultTypes.toList).any (Try.pinned.checked.prog.veiledRec ·)) = true := by kernel_rfl
theorem fdscatter_fits : Rows.fnScatterRow.veiledFits Try.pinned.checked.prog Try.f12.params.toList (Try.f12.params.toList ++ Rows.fnScatterSpec.plain.varTypes Try.pinned.checked.prog ++ Try.f12.resultTypes.toList) = true := by kernel_rfl

end Go.Proofs.Ytpakihjkjdanlaa
