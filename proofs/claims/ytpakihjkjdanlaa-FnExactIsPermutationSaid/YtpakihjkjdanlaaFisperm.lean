/- The closed facts of the row of IsPermutation, each by itself. -/
import Derived.Test.YtpakihjkjdanlaaLeav
namespace Go.Proofs.Ytpakihjkjdanlaa

theorem fisperm_wf : Rows.fnExactIsPermutationRow.wf (OpenSpec.ofChange Rows.fnExactIsPermutationSpec) = true := by kernel_rfl
theorem fisperm_params : Try.f4.params.all (Try.pinned.checked.prog.readableRec ·) = true := by kernel_rfl
theorem fisperm_tie : namedTie Try.pinned.checked.prog Rows.fnExactIsPermutationRow.named Rows.fnExactIsPermutationSpec.vars = true := by kernel_rfl
theorem fisperm_place : (Rows.fnExactIsPermutationRow.inPlace == Try.pinned.checked.prog.inPlace 4) = true := by kernel_rfl
theorem fisperm_unf : (Rows.fnExactIsPermutationRow.unfollowed == Try.pinned.checked.prog.unfollowed 4) = true := by kernel_rfl
theorem fisperm_rec : (Rows.fnExactIsPermutationRow.recurses == Try.pinned.checked.prog.recurses 4) = true := by kernel_rfl
theorem fisperm_named : (Rows.fnExactIsPermutationRow.named == Try.pinned.checked.prog.varsNamed 4) = true := by kernel_rfl
theorem fisperm_maps : (Rows.fnExactIsPermutationRow.maps == (Try.f4.params.toList ++ Rows.fnExactIsPermutationSpec.plain.varTypes Try.pinned.checked.prog).any (Try.pinned.checked.prog.mapsRec ·)) = true := by kernel_rfl
theorem fisperm_ifaces : (Rows.fnExactIsPermutationRow.ifaces == (Try.f4.params.toList ++ Rows.fnExactIsPermutationSpec.plain.varTypes Try.pinned.checked.prog).any (Try.pinned.checked.prog.ifacesRec ·)) = true := by kernel_rfl
theorem fisperm_mapsOut : (Rows.fnExactIsPermutationRow.mapsOut == Try.pinned.checked.prog.mapsAmong Try.f4.resultTypes.toList) = true := by kernel_rfl
theorem fisperm_loops : (Rows.fnExactIsPermutationRow.loops == (Try.f4.params.toList ++ Rows.fnExactIsPermutationSpec.plain.varTypes Try.pinned.checked.prog).any (Try.pinned.checked.prog.loopsFrom ·)) = true := by kernel_rfl
theorem fisperm_wide : (Rows.fnExactIsPermutationRow.wideKeys == (Try.f4.params.toList ++ Rows.fnExactIsPermutationSpec.plain.varTypes Try.pinned.checked.prog ++ Try.f4.resultTypes.toList).any (Try.pinned.checked.prog.wideKeysFrom ·)) = true := by kernel_rfl
theorem fisperm_vars : Rows.fnExactIsPermutationSpec.vars.all (Try.pinned.checked.prog.varReadable ·) = true := by kernel_rfl
theorem fisperm_res : Try.f4.resultTypes.all (fun t => Try.pinned.checked.prog.readableRec t && decide (t < Try.pinned.checked.prog.types.size)) = true := by kernel_rfl
theorem fisperm_ifacesOut : (Rows.fnExactIsPermutationRow.ifacesOut == Try.f4.resultTypes.toList.any (Try.pinned.checked.prog.ifacesRec ·)) = true := by kernel_rfl
theorem fisperm_loopsOut : (Rows.fnExactIsPermutationRow.loopsOut == Try.f4.resultTypes.toList.any (Try.pinned.checked.prog.loopsFrom ·)) = true := by kernel_rfl
theorem fisperm_keys : (Rows.fnExactIsPermutationRow.plainKeys == Try.pinned.checked.prog.plainKeys) = true := by kernel_rfl
theorem fisperm_lifted : (Rows.fnExactIsPermutationRow.lifted == Try.pinned.checked.prog.liftsFinal) = true := by kernel_rfl
theorem fisperm_make : (Try.pinned.checked.prog.make == some Rows.fnExactIsPermutationRow.make) = true := by kernel_rfl
theorem fisperm_pinned : (Rows.fnExactIsPermutationRow.pinned == Rows.fnExactIsPermutationRow.pinnedBy) = true := by kernel_rfl
theorem fisperm_veiled : (Rows.fnExactIsPermutationRow.veiled == (Try.f4.params.toList ++ Rows.fnExactIsPermutationSpec.plain.varTypes Try.pinned.checked.prog ++ Try.f4.resultTypes.toList).any (Try.pinned.checked.prog.veiledRec ·)) = true := by kernel_rfl
theorem fisperm_fits : Rows.fnExactIsPermutationRow.veiledFits Try.pinned.checked.prog Try.f4.params.toList (Try.f4.params.toList ++ Rows.fnExactIsPermutationSpec.plain.varTypes Try.pinned.checked.prog ++ Try.f4.resultTypes.toList) = true := by kernel_rfl

end Go.Proofs.Ytpakihjkjdanlaa
