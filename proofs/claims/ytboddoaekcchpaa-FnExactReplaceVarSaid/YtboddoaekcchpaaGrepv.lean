/- The closed facts of the row of ReplaceVar, together. -/
import Derived.Test.YtboddoaekcchpaaLeav
namespace Go.Proofs.Ytboddoaekcchpaa

theorem frepv_wf : Rows.fnExactReplaceVarRow.wf (OpenSpec.ofChange Rows.fnExactReplaceVarSpec) = true := by kernel_rfl
theorem frepv_params : Try.f8.params.all (Try.pinned.checked.prog.readableRec ·) = true := by kernel_rfl
theorem frepv_tie : namedTie Try.pinned.checked.prog Rows.fnExactReplaceVarRow.named Rows.fnExactReplaceVarSpec.vars = true := by kernel_rfl
theorem frepv_place : (Rows.fnExactReplaceVarRow.inPlace == Try.pinned.checked.prog.inPlace 8) = true := by kernel_rfl
theorem frepv_unf : (Rows.fnExactReplaceVarRow.unfollowed == Try.pinned.checked.prog.unfollowed 8) = true := by kernel_rfl
theorem frepv_rec : (Rows.fnExactReplaceVarRow.recurses == Try.pinned.checked.prog.recurses 8) = true := by kernel_rfl
theorem frepv_named : (Rows.fnExactReplaceVarRow.named == Try.pinned.checked.prog.varsNamed 8) = true := by kernel_rfl
theorem frepv_maps : (Rows.fnExactReplaceVarRow.maps == (Try.f8.params.toList ++ Rows.fnExactReplaceVarSpec.plain.varTypes Try.pinned.checked.prog).any (Try.pinned.checked.prog.mapsRec ·)) = true := by kernel_rfl
theorem frepv_ifaces : (Rows.fnExactReplaceVarRow.ifaces == (Try.f8.params.toList ++ Rows.fnExactReplaceVarSpec.plain.varTypes Try.pinned.checked.prog).any (Try.pinned.checked.prog.ifacesRec ·)) = true := by kernel_rfl
theorem frepv_mapsOut : (Rows.fnExactReplaceVarRow.mapsOut == Try.pinned.checked.prog.mapsAmong Try.f8.resultTypes.toList) = true := by kernel_rfl
theorem frepv_loops : (Rows.fnExactReplaceVarRow.loops == (Try.f8.params.toList ++ Rows.fnExactReplaceVarSpec.plain.varTypes Try.pinned.checked.prog).any (Try.pinned.checked.prog.loopsFrom ·)) = true := by kernel_rfl
theorem frepv_wide : (Rows.fnExactReplaceVarRow.wideKeys == (Try.f8.params.toList ++ Rows.fnExactReplaceVarSpec.plain.varTypes Try.pinned.checked.prog ++ Try.f8.resultTypes.toList).any (Try.pinned.checked.prog.wideKeysFrom ·)) = true := by kernel_rfl
theorem frepv_vars : Rows.fnExactReplaceVarSpec.vars.all (Try.pinned.checked.prog.varReadable ·) = true := by kernel_rfl
theorem frepv_res : Try.f8.resultTypes.all (fun t => Try.pinned.checked.prog.readableRec t && decide (t < Try.pinned.checked.prog.types.size)) = true := by kernel_rfl
theorem frepv_ifacesOut : (Rows.fnExactReplaceVarRow.ifacesOut == Try.f8.resultTypes.toList.any (Try.pinned.checked.prog.ifacesRec ·)) = true := by kernel_rfl
theorem frepv_loopsOut : (Rows.fnExactReplaceVarRow.loopsOut == Try.f8.resultTypes.toList.any (Try.pinned.checked.prog.loopsFrom ·)) = true := by kernel_rfl
theorem frepv_keys : (Rows.fnExactReplaceVarRow.plainKeys == Try.pinned.checked.prog.plainKeys) = true := by kernel_rfl
theorem frepv_lifted : (Rows.fnExactReplaceVarRow.lifted == Try.pinned.checked.prog.liftsFinal) = true := by kernel_rfl
theorem frepv_make : (Try.pinned.checked.prog.make == some Rows.fnExactReplaceVarRow.make) = true := by kernel_rfl
theorem frepv_pinned : (Rows.fnExactReplaceVarRow.pinned == Rows.fnExactReplaceVarRow.pinnedBy) = true := by kernel_rfl
theorem frepv_veiled : (Rows.fnExactReplaceVarRow.veiled == (Try.f8.params.toList ++ Rows.fnExactReplaceVarSpec.plain.varTypes Try.pinned.checked.prog ++ Try.f8.resultTypes.toList).any (Try.pinned.checked.prog.veiledRec ·)) = true := by kernel_rfl
theorem frepv_fits : Rows.fnExactReplaceVarRow.veiledFits Try.pinned.checked.prog Try.f8.params.toList (Try.f8.params.toList ++ Rows.fnExactReplaceVarSpec.plain.varTypes Try.pinned.checked.prog ++ Try.f8.resultTypes.toList) = true := by kernel_rfl


set_option maxRecDepth 100000 in
theorem frepv_all : joinedFacts Try.pinned.checked.prog 8 Try.f8 Rows.fnExactReplaceVarSpec Rows.fnExactReplaceVarRow = true := by
  unfold joinedFacts
  exact andT (andT (andT (andT (andT (andT (andT (andT (andT (andT (andT (andT (andT (andT (andT (andT (andT (andT (andT (andT (andT (andT (andT (andT (andT (andT (andT (andT (andT (andT (andT
    frepv_wf fact_laid) fact_maps) frepv_params) frepv_tie) rfl) fact_stops) rfl) fact_knobs) frepv_place) frepv_unf) frepv_rec) frepv_named) frepv_maps) frepv_ifaces) frepv_mapsOut) frepv_loops) frepv_wide) frepv_vars) frepv_res) frepv_ifacesOut) frepv_loopsOut) frepv_keys) rfl) fact_heard) fact_enter) frepv_lifted) frepv_make) rfl) frepv_pinned) frepv_veiled) frepv_fits

theorem frepv_name : Try.pinned.checked.prog.funcNamed Rows.fnExactReplaceVarRow.func = some 8 := by kernel_rfl
theorem frepv_inst : Try.f8.isInstance Try.pinned.checked.prog Rows.fnExactReplaceVarRow.origin Rows.fnExactReplaceVarRow.targs := of_decide_eq_true (by kernel_rfl)
theorem frepv_wrap : Try.f8.isWrapper Try.pinned.checked.prog Rows.fnExactReplaceVarRow.wrapper Rows.fnExactReplaceVarRow.mainSum := by unfold Func.isWrapper; first | (rw [if_pos (by decide +kernel)]; kernel_rfl) | (rw [if_neg (by decide +kernel)]; exact ⟨rfl, rfl⟩)

end Go.Proofs.Ytboddoaekcchpaa
