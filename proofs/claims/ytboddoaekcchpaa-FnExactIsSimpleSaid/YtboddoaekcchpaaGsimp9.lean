/- The closed facts of the row of IsSimple, together. -/
import Derived.Test.YtboddoaekcchpaaLeav
namespace Go.Proofs.Ytboddoaekcchpaa

theorem fsimp9_wf : Rows.fnExactIsSimpleRow.wf (OpenSpec.ofChange Rows.fnExactIsSimpleSpec) = true := by kernel_rfl
theorem fsimp9_params : Try.f6.params.all (Try.pinned.checked.prog.readableRec ·) = true := by kernel_rfl
theorem fsimp9_tie : namedTie Try.pinned.checked.prog Rows.fnExactIsSimpleRow.named Rows.fnExactIsSimpleSpec.vars = true := by kernel_rfl
theorem fsimp9_place : (Rows.fnExactIsSimpleRow.inPlace == Try.pinned.checked.prog.inPlace 6) = true := by kernel_rfl
theorem fsimp9_unf : (Rows.fnExactIsSimpleRow.unfollowed == Try.pinned.checked.prog.unfollowed 6) = true := by kernel_rfl
theorem fsimp9_rec : (Rows.fnExactIsSimpleRow.recurses == Try.pinned.checked.prog.recurses 6) = true := by kernel_rfl
theorem fsimp9_named : (Rows.fnExactIsSimpleRow.named == Try.pinned.checked.prog.varsNamed 6) = true := by kernel_rfl
theorem fsimp9_maps : (Rows.fnExactIsSimpleRow.maps == (Try.f6.params.toList ++ Rows.fnExactIsSimpleSpec.plain.varTypes Try.pinned.checked.prog).any (Try.pinned.checked.prog.mapsRec ·)) = true := by kernel_rfl
theorem fsimp9_ifaces : (Rows.fnExactIsSimpleRow.ifaces == (Try.f6.params.toList ++ Rows.fnExactIsSimpleSpec.plain.varTypes Try.pinned.checked.prog).any (Try.pinned.checked.prog.ifacesRec ·)) = true := by kernel_rfl
theorem fsimp9_mapsOut : (Rows.fnExactIsSimpleRow.mapsOut == Try.pinned.checked.prog.mapsAmong Try.f6.resultTypes.toList) = true := by kernel_rfl
theorem fsimp9_loops : (Rows.fnExactIsSimpleRow.loops == (Try.f6.params.toList ++ Rows.fnExactIsSimpleSpec.plain.varTypes Try.pinned.checked.prog).any (Try.pinned.checked.prog.loopsFrom ·)) = true := by kernel_rfl
theorem fsimp9_wide : (Rows.fnExactIsSimpleRow.wideKeys == (Try.f6.params.toList ++ Rows.fnExactIsSimpleSpec.plain.varTypes Try.pinned.checked.prog ++ Try.f6.resultTypes.toList).any (Try.pinned.checked.prog.wideKeysFrom ·)) = true := by kernel_rfl
theorem fsimp9_vars : Rows.fnExactIsSimpleSpec.vars.all (Try.pinned.checked.prog.varReadable ·) = true := by kernel_rfl
theorem fsimp9_res : Try.f6.resultTypes.all (fun t => Try.pinned.checked.prog.readableRec t && decide (t < Try.pinned.checked.prog.types.size)) = true := by kernel_rfl
theorem fsimp9_ifacesOut : (Rows.fnExactIsSimpleRow.ifacesOut == Try.f6.resultTypes.toList.any (Try.pinned.checked.prog.ifacesRec ·)) = true := by kernel_rfl
theorem fsimp9_loopsOut : (Rows.fnExactIsSimpleRow.loopsOut == Try.f6.resultTypes.toList.any (Try.pinned.checked.prog.loopsFrom ·)) = true := by kernel_rfl
theorem fsimp9_keys : (Rows.fnExactIsSimpleRow.plainKeys == Try.pinned.checked.prog.plainKeys) = true := by kernel_rfl
theorem fsimp9_lifted : (Rows.fnExactIsSimpleRow.lifted == Try.pinned.checked.prog.liftsFinal) = true := by kernel_rfl
theorem fsimp9_make : (Try.pinned.checked.prog.make == some Rows.fnExactIsSimpleRow.make) = true := by kernel_rfl
theorem fsimp9_pinned : (Rows.fnExactIsSimpleRow.pinned == Rows.fnExactIsSimpleRow.pinnedBy) = true := by kernel_rfl
theorem fsimp9_veiled : (Rows.fnExactIsSimpleRow.veiled == (Try.f6.params.toList ++ Rows.fnExactIsSimpleSpec.plain.varTypes Try.pinned.checked.prog ++ Try.f6.resultTypes.toList).any (Try.pinned.checked.prog.veiledRec ·)) = true := by kernel_rfl
theorem fsimp9_fits : Rows.fnExactIsSimpleRow.veiledFits Try.pinned.checked.prog Try.f6.params.toList (Try.f6.params.toList ++ Rows.fnExactIsSimpleSpec.plain.varTypes Try.pinned.checked.prog ++ Try.f6.resultTypes.toList) = true := by kernel_rfl


set_option maxRecDepth 100000 in
theorem fsimp9_all : joinedFacts Try.pinned.checked.prog 6 Try.f6 Rows.fnExactIsSimpleSpec Rows.fnExactIsSimpleRow = true := by
  unfold joinedFacts
  exact andT (andT (andT (andT (andT (andT (andT (andT (andT (andT (andT (andT (andT (andT (andT (andT (andT (andT (andT (andT (andT (andT (andT (andT (andT (andT (andT (andT (andT (andT (andT
    fsimp9_wf fact_laid) fact_maps) fsimp9_params) fsimp9_tie) rfl) fact_stops) rfl) fact_knobs) fsimp9_place) fsimp9_unf) fsimp9_rec) fsimp9_named) fsimp9_maps) fsimp9_ifaces) fsimp9_mapsOut) fsimp9_loops) fsimp9_wide) fsimp9_vars) fsimp9_res) fsimp9_ifacesOut) fsimp9_loopsOut) fsimp9_keys) rfl) fact_heard) fact_enter) fsimp9_lifted) fsimp9_make) rfl) fsimp9_pinned) fsimp9_veiled) fsimp9_fits

theorem fsimp9_name : Try.pinned.checked.prog.funcNamed Rows.fnExactIsSimpleRow.func = some 6 := by kernel_rfl
theorem fsimp9_inst : Try.f6.isInstance Try.pinned.checked.prog Rows.fnExactIsSimpleRow.origin Rows.fnExactIsSimpleRow.targs := of_decide_eq_true (by kernel_rfl)
theorem fsimp9_wrap : Try.f6.isWrapper Try.pinned.checked.prog Rows.fnExactIsSimpleRow.wrapper Rows.fnExactIsSimpleRow.mainSum := by unfold Func.isWrapper; first | (rw [if_pos (by decide +kernel)]; kernel_rfl) | (rw [if_neg (by decide +kernel)]; exact ⟨rfl, rfl⟩)

end Go.Proofs.Ytboddoaekcchpaa
