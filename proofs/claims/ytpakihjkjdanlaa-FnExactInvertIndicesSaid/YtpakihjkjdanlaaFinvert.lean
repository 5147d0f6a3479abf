/- The closed facts of the row of InvertIndices, each by itself. -/
import Derived.Test.YtpakihjkjdanlaaLeav
namespace Go.Proofs.Ytpakihjkjdanlaa

theorem finvert_wf : Rows.fnExactInvertIndicesRow.wf (OpenSpec.ofChange Rows.fnExactInvertIndicesSpec) = true := by kernel_rfl
theorem finvert_params : Try.f5.params.all (Try.pinned.checked.prog.readableRec ·) = true := by kernel_rfl
theorem finvert_tie : namedTie Try.pinned.checked.prog Rows.fnExactInvertIndicesRow.named Rows.fnExactInvertIndicesSpec.vars = true := by kernel_rfl
theorem finvert_place : (Rows.fnExactInvertIndicesRow.inPlace == Try.pinned.checked.prog.inPlace 5) = true := by kernel_rfl
theorem finvert_unf : (Rows.fnExactInvertIndicesRow.unfollowed == Try.pinned.checked.prog.unfollowed 5) = true := by kernel_rfl
theorem finvert_rec : (Rows.fnExactInvertIndicesRow.recurses == Try.pinned.checked.prog.recurses 5) = true := by kernel_rfl
theorem finvert_named : (Rows.fnExactInvertIndicesRow.named == Try.pinned.checked.prog.varsNamed 5) = true := by kernel_rfl
theorem finvert_maps : (Rows.fnExactInvertIndicesRow.maps == (Try.f5.params.toList ++ Rows.fnExactInvertIndicesSpec.plain.varTypes Try.pinned.checked.prog).any (Try.pinned.checked.prog.mapsRec ·)) = true := by kernel_rfl
theorem finvert_ifaces : (Rows.fnExactInvertIndicesRow.ifaces == (Try.f5.params.toList ++ Rows.fnExactInvertIndicesSpec.plain.varTypes Try.pinned.checked.prog).any (Try.pinned.checked.prog.ifacesRec ·)) = true := by kernel_rfl
theorem finvert_mapsOut : (Rows.fnExactInvertIndicesRow.mapsOut == Try.pinned.checked.prog.mapsAmong Try.f5.resultTypes.toList) = true := by kernel_rfl
theorem finvert_loops : (Rows.fnExactInvertIndicesRow.loops == (Try.f5.params.toList ++ Rows.fnExactInvertIndicesSpec.plain.varTypes Try.pinned.checked.prog).any (Try.pinned.checked.prog.loopsFrom ·)) = true := by kernel_rfl
theorem finvert_wide : (Rows.fnExactInvertIndicesRow.wideKeys == (Try.f5.params.toList ++ Rows.fnExactInvertIndicesSpec.plain.varTypes Try.pinned.checked.prog ++ Try.f5.resultTypes.toList).any (Try.pinned.checked.prog.wideKeysFrom ·)) = true := by kernel_rfl
theorem finvert_vars : Rows.fnExactInvertIndicesSpec.vars.all (Try.pinned.checked.prog.varReadable ·) = true := by kernel_rfl
theorem finvert_res : Try.f5.resultTypes.all (fun t => Try.pinned.checked.prog.readableRec t && decide (t < Try.pinned.checked.prog.types.size)) = true := by kernel_rfl
theorem finvert_ifacesOut : (Rows.fnExactInvertIndicesRow.ifacesOut == Try.f5.resultTypes.toList.any (Try.pinned.checked.prog.ifacesRec ·)) = true := by kernel_rfl
theorem finvert_loopsOut : (Rows.fnExactInvertIndicesRow.loopsOut == Try.f5.resultTypes.toList.any (Try.pinned.checked.prog.loopsFrom ·)) = true := by kernel_rfl
theorem finvert_keys : (Rows.fnExactInvertIndicesRow.plainKeys == Try.pinned.checked.prog.plainKeys) = true := by kernel_rfl
theorem finvert_lifted : (Rows.fnExactInvertIndicesRow.lifted == Try.pinned.checked.prog.liftsFinal) = true := by kernel_rfl
theorem finvert_make : (Try.pinned.checked.prog.make == some Rows.fnExactInvertIndicesRow.make) = true := by kernel_rfl
theorem finvert_pinned : (Rows.fnExactInvertIndicesRow.pinned == Rows.fnExactInvertIndicesRow.pinnedBy) = true := by kernel_rfl
theorem finvert_veiled : (Rows.fnExactInvertIndicesRow.veiled == (Try.f5.params.toList ++ Rows.fnExactInvertIndicesSpec.plain.varTypes Try.pinned.checked.prog ++ Try.f5.resultTypes.toList).any (Try.pinned.checked.prog.veiledRec ·)) = true := by kernel_rfl
theorem finvert_fits : Rows.fnExactInvertIndicesRow.veiledFits Try.pinned.checked.prog Try.f5.params.toList (Try.f5.params.toList ++ Rows.fnExactInvertIndicesSpec.plain.varTypes Try.pinned.checked.prog ++ Try.f5.resultTypes.toList) = true := by kernel_rfl

end Go.Proofs.Ytpakihjkjdanlaa
