/- The closed facts of the row of SimplifyTerm, together. -/
import Derived.Test.YtboddoaekcchpaaLeav
namespace Go.Proofs.Ytboddoaekcchpaa

theorem fsterm9_wf : Rows.fnExactSimplifyTermRow.wf (OpenSpec.ofChange Rows.fnExactSimplifyTermSpec) = true := by kernel_rfl
theorem fsterm9_params : Try.f5.params.all (Try.pinned.checked.prog.readableRec ·) = true := by kernel_rfl
theorem fsterm9_tie : namedTie Try.pinned.checked.prog Rows.fnExactSimplifyTermRow.named Rows.fnExactSimplifyTermSpec.vars = true := by kernel_rfl
theorem fsterm9_place : (Rows.fnExactSimplifyTermRow.inPlace == Try.pinned.checked.prog.inPlace 5) = true := by kernel_rfl
theorem fsterm9_unf : (Rows.fnExactSimplifyTermRow.unfollowed == Try.pinned.checked.prog.unfollowed 5) = true := by kernel_rfl
theorem fsterm9_rec : (Rows.fnExactSimplifyTermRow.recurses == Try.pinned.checked.prog.recurses 5) = true := by kernel_rfl
theorem fsterm9_named : (Rows.fnExactSimplifyTermRow.named == Try.pinned.checked.prog.varsNamed 5) = true := by kernel_rfl
theorem fsterm9_maps : (Rows.fnExactSimplifyTermRow.maps == (Try.f5.params.toList ++ Rows.fnExactSimplifyTermSpec.plain.varTypes Try.pinned.checked.prog).any (Try.pinned.checked.prog.mapsRec ·)) = true := by kernel_rfl
theorem fsterm9_ifaces : (Rows.fnExactSimplifyTermRow.ifaces == (Try.f5.params.toList ++ Rows.fnExactSimplifyTermSpec.plain.varTypes Try.pinned.checked.prog).any (Try.pinned.checked.prog.ifacesRec ·)) = true := by kernel_rfl
theorem fsterm9_mapsOut : (Rows.fnExactSimplifyTermRow.mapsOut == Try.pinned.checked.prog.mapsAmong Try.f5.resultTypes.toList) = true := by kernel_rfl
theorem fsterm9_loops : (Rows.fnExactSimplifyTermRow.loops == (Try.f5.params.toList ++ Rows.fnExactSimplifyTermSpec.plain.varTypes Try.pinned.checked.prog).any (Try.pinned.checked.prog.loopsFrom ·)) = true := by kernel_rfl
theorem fsterm9_wide : (Rows.fnExactSimplifyTermRow.wideKeys == (Try.f5.params.toList ++ Rows.fnExactSimplifyTermSpec.plain.varTypes Try.pinned.checked.prog ++ Try.f5.resultTypes.toList).any (Try.pinned.checked.prog.wideKeysFrom ·)) = true := by kernel_rfl
theorem fsterm9_vars : Rows.fnExactSimplifyTermSpec.vars.all (Try.pinned.checked.prog.varReadable ·) = true := by kernel_rfl
theorem fsterm9_res : Try.f5.resultTypes.all (fun t => Try.pinned.checked.prog.readableRec t && decide (t < Try.pinned.checked.prog.types.size)) = true := by kernel_rfl
theorem fsterm9_ifacesOut : (Rows.fnExactSimplifyTermRow.ifacesOut == Try.f5.resultTypes.toList.any (Try.pinned.checked.prog.ifacesRec ·)) = true := by kernel_rfl
theorem fsterm9_loopsOut : (Rows.fnExactSimplifyTermRow.loopsOut == Try.f5.resultTypes.toList.any (Try.pinned.checked.prog.loopsFrom ·)) = true := by kernel_rfl
theorem fsterm9_keys : (Rows.fnExactSimplifyTermRow.plainKeys == Try.pinned.checked.prog.plainKeys) = true := by kernel_rfl
theorem fsterm9_lifted : (Rows.fnExactSimplifyTermRow.lifted == Try.pinned.checked.prog.liftsFinal) = true := by kernel_rfl
theorem fsterm9_make : (Try.pinned.checked.prog.make == some Rows.fnExactSimplifyTermRow.make) = true := by kernel_rfl
theorem fsterm9_pinned : (Rows.fnExactSimplifyTermRow.pinned == Rows.fnExactSimplifyTermRow.pinnedBy) = true := by kernel_rfl
theorem fsterm9_veiled : (Rows.fnExactSimplifyTermRow.veiled == (Try.f5.params.toList ++ Rows.fnExactSimplifyTermSpec.plain.varTypes Try.pinned.checked.prog ++ Try.f5.resultTypes.toList).any (Try.pinned.checked.prog.veiledRec ·)) = true := by kernel_rfl
theorem fsterm9_fits : Rows.fnExactSimplifyTermRow.veiledFits Try.pinned.checked.prog Try.f5.params.toList (Try.f5.params.toList ++ Rows.fnExactSimplifyTermSpec.plain.varTypes Try.pinned.checked.prog ++ Try.f5.resultTypes.toList) = true := by kernel_rfl


set_option maxRecDepth 100000 in
theorem fsterm9_all : joinedFacts Try.pinned.checked.prog 5 Try.f5 Rows.fnExactSimplifyTermSpec Rows.fnExactSimplifyTermRow = true := by
  unfold joinedFacts
  exact andT (andT (andT (andT (andT (andT (andT (andT (andT (andT (andT (andT (andT (andT (andT (andT (andT (andT (andT (andT (andT (andT (andT (andT (andT (andT (andT (andT (andT (andT (andT
    fsterm9_wf fact_laid) fact_maps) fsterm9_params) fsterm9_tie) rfl) fact_stops) rfl) fact_knobs) fsterm9_place) fsterm9_unf) fsterm9_rec) fsterm9_named) fsterm9_maps) fsterm9_ifaces) fsterm9_mapsOut) fsterm9_loops) fsterm9_wide) fsterm9_vars) fsterm9_res) fsterm9_ifacesOut) fsterm9_loopsOut) fsterm9_keys) rfl) fact_heard) fact_enter) fsterm9_lifted) fsterm9_make) rfl) fsterm9_pinned) fsterm9_veiled) fsterm9_fits

theorem fsterm9_name : Try.pinned.checked.prog.funcNamed Rows.fnExactSimplifyTermRow.func = some 5 := by kernel_rfl
theorem fsterm9_inst : Try.f5.isInstance Try.pinned.checked.prog Rows.fnExactSimplifyTermRow.origin Rows.fnExactSimplifyTermRow.targs := of_decide_eq_true (by kernel_rfl)
theorem fsterm9_wrap : Try.f5.isWrapper Try.pinned.checked.prog Rows.fnExactSimplifyTermRow.wrapper Rows.fnExactSimplifyTermRow.mainSum := by unfold Func.isWrapper; first | (rw [if_pos (by decide +kernel)]; kernel_rfl) | (rw [if_neg (by decide +kernel)]; exact ⟨rfl, rfl⟩)

end Go.Proofs.Ytboddoaekcchpaa
