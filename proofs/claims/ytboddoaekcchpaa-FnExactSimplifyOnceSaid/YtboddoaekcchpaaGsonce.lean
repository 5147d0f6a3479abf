/- The closed facts of the row of SimplifyOnce, together. -/
import Derived.Test.YtboddoaekcchpaaLeav
namespace Go.Proofs.Ytboddoaekcchpaa

theorem fsonce_wf : Rows.fnExactSimplifyOnceRow.wf (OpenSpec.ofChange Rows.fnExactSimplifyOnceSpec) = true := by kernel_rfl
theorem fsonce_params : Try.f4.params.all (Try.pinned.checked.prog.readableRec ·) = true := by kernel_rfl
theorem fsonce_tie : namedTie Try.pinned.checked.prog Rows.fnExactSimplifyOnceRow.named Rows.fnExactSimplifyOnceSpec.vars = true := by kernel_rfl
theorem fsonce_place : (Rows.fnExactSimplifyOnceRow.inPlace == Try.pinned.checked.prog.inPlace 4) = true := by kernel_rfl
theorem fsonce_unf : (Rows.fnExactSimplifyOnceRow.unfollowed == Try.pinned.checked.prog.unfollowed 4) = true := by kernel_rfl
theorem fsonce_rec : (Rows.fnExactSimplifyOnceRow.recurses == Try.pinned.checked.prog.recurses 4) = true := by kernel_rfl
theorem fsonce_named : (Rows.fnExactSimplifyOnceRow.named == Try.pinned.checked.prog.varsNamed 4) = true := by kernel_rfl
theorem fsonce_maps : (Rows.fnExactSimplifyOnceRow.maps == (Try.f4.params.toList ++ Rows.fnExactSimplifyOnceSpec.plain.varTypes Try.pinned.checked.prog).any (Try.pinned.checked.prog.mapsRec ·)) = true := by kernel_rfl
theorem fsonce_ifaces : (Rows.fnExactSimplifyOnceRow.ifaces == (Try.f4.params.toList ++ Rows.fnExactSimplifyOnceSpec.plain.varTypes Try.pinned.checked.prog).any (Try.pinned.checked.prog.ifacesRec ·)) = true := by kernel_rfl
theorem fsonce_mapsOut : (Rows.fnExactSimplifyOnceRow.mapsOut == Try.pinned.checked.prog.mapsAmong Try.f4.resultTypes.toList) = true := by kernel_rfl
theorem fsonce_loops : (Rows.fnExactSimplifyOnceRow.loops == (Try.f4.params.toList ++ Rows.fnExactSimplifyOnceSpec.plain.varTypes Try.pinned.checked.prog).any (Try.pinned.checked.prog.loopsFrom ·)) = true := by kernel_rfl
theorem fsonce_wide : (Rows.fnExactSimplifyOnceRow.wideKeys == (Try.f4.params.toList ++ Rows.fnExactSimplifyOnceSpec.plain.varTypes Try.pinned.checked.prog ++ Try.f4.resultTypes.toList).any (Try.pinned.checked.prog.wideKeysFrom ·)) = true := by kernel_rfl
theorem fsonce_vars : Rows.fnExactSimplifyOnceSpec.vars.all (Try.pinned.checked.prog.varReadable ·) = true := by kernel_rfl
theorem fsonce_res : Try.f4.resultTypes.all (fun t => Try.pinned.checked.prog.readableRec t && decide (t < Try.pinned.checked.prog.types.size)) = true := by kernel_rfl
theorem fsonce_ifacesOut : (Rows.fnExactSimplifyOnceRow.ifacesOut == Try.f4.resultTypes.toList.any (Try.pinned.checked.prog.ifacesRec ·)) = true := by kernel_rfl
theorem fsonce_loopsOut : (Rows.fnExactSimplifyOnceRow.loopsOut == Try.f4.resultTypes.toList.any (Try.pinned.checked.prog.loopsFrom ·)) = true := by kernel_rfl
theorem fsonce_keys : (Rows.fnExactSimplifyOnceRow.plainKeys == Try.pinned.checked.prog.plainKeys) = true := by kernel_rfl
theorem fsonce_lifted : (Rows.fnExactSimplifyOnceRow.lifted == Try.pinned.checked.prog.liftsFinal) = true := by kernel_rfl
theorem fsonce_make : (Try.pinned.checked.prog.make == some Rows.fnExactSimplifyOnceRow.make) = true := by kernel_rfl
theorem fsonce_pinned : (Rows.fnExactSimplifyOnceRow.pinned == Rows.fnExactSimplifyOnceRow.pinnedBy) = true := by kernel_rfl
theorem fsonce_veiled : (Rows.fnExactSimplifyOnceRow.veiled == (Try.f4.params.toList ++ Rows.fnExactSimplifyOnceSpec.plain.varTypes Try.pinned.checked.prog ++ Try.f4.resultTypes.toList).any (Try.pinned.checked.prog.veiledRec ·)) = true := by kernel_rfl
theorem fsonce_fits : Rows.fnExactSimplifyOnceRow.veiledFits Try.pinned.checked.prog Try.f4.params.toList (Try.f4.params.toList ++ Rows.fnExactSimplifyOnceSpec.plain.varTypes Try.pinned.checked.prog ++ Try.f4.resultTypes.toList) = true := by kernel_rfl


set_option maxRecDepth 100000 in
theorem fsonce_all : joinedFacts Try.pinned.checked.prog 4 Try.f4 Rows.fnExactSimplifyOnceSpec Rows.fnExactSimplifyOnceRow = true := by
  unfold joinedFacts
  exact andT (andT (andT (andT (andT (andT (andT (andT (andT (andT (andT (andT (andT (andT (andT (andT (andT (andT (andT (andT (andT (andT (andT (andT (andT (andT (andT (andT (andT (andT (andT
    fsonce_wf fact_laid) fact_maps) fsonce_params) fsonce_tie) rfl) fact_stops) rfl) fact_knobs) fsonce_place) fsonce_unf) fsonce_rec) fsonce_named) fsonce_maps) fsonce_ifaces) fsonce_mapsOut) fsonce_loops) fsonce_wide) fsonce_vars) fsonce_res) fsonce_ifacesOut) fsonce_loopsOut) fsonce_keys) rfl) fact_heard) fact_enter) fsonce_lifted) fsonce_make) rfl) fsonce_pinned) fsonce_veiled) fsonce_fits

theorem fsonce_name : Try.pinned.checked.prog.funcNamed Rows.fnExactSimplifyOnceRow.func = some 4 := by kernel_rfl
theorem fsonce_inst : Try.f4.isInstance Try.pinned.checked.prog Rows.fnExactSimplifyOnceRow.origin Rows.fnExactSimplifyOnceRow.targs := of_decide_eq_true (by kernel_rfl)
theorem fsonce_wrap : Try.f4.isWrapper Try.pinned.checked.prog Rows.fnExactSimplifyOnceRow.wrapper Rows.fnExactSimplifyOnceRow.mainSum := by unfold Func.isWrapper; first | (rw [if_pos (by decide +kernel)]; kernel_rfl) | (rw [if_neg (by decide +kernel)]; exact ⟨rfl, rfl⟩)

end Go.Proofs.Ytboddoaekcchpaa
