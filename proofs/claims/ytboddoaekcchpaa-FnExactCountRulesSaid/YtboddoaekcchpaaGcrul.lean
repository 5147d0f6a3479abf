/- The closed facts of the row of CountRules, together. -/
import Derived.Test.YtboddoaekcchpaaLeav
namespace Go.Proofs.Ytboddoaekcchpaa

theorem fcrul_wf : Rows.fnExactCountRulesRow.wf (OpenSpec.ofChange Rows.fnExactCountRulesSpec) = true := by kernel_rfl
theorem fcrul_params : Try.f7.params.all (Try.pinned.checked.prog.readableRec ·) = true := by kernel_rfl
theorem fcrul_tie : namedTie Try.pinned.checked.prog Rows.fnExactCountRulesRow.named Rows.fnExactCountRulesSpec.vars = true := by kernel_rfl
theorem fcrul_place : (Rows.fnExactCountRulesRow.inPlace == Try.pinned.checked.prog.inPlace 7) = true := by kernel_rfl
theorem fcrul_unf : (Rows.fnExactCountRulesRow.unfollowed == Try.pinned.checked.prog.unfollowed 7) = true := by kernel_rfl
theorem fcrul_rec : (Rows.fnExactCountRulesRow.recurses == Try.pinned.checked.prog.recurses 7) = true := by kernel_rfl
theorem fcrul_named : (Rows.fnExactCountRulesRow.named == Try.pinned.checked.prog.varsNamed 7) = true := by kernel_rfl
theorem fcrul_maps : (Rows.fnExactCountRulesRow.maps == (Try.f7.params.toList ++ Rows.fnExactCountRulesSpec.plain.varTypes Try.pinned.checked.prog).any (Try.pinned.checked.prog.mapsRec ·)) = true := by kernel_rfl
theorem fcrul_ifaces : (Rows.fnExactCountRulesRow.ifaces == (Try.f7.params.toList ++ Rows.fnExactCountRulesSpec.plain.varTypes Try.pinned.checked.prog).any (Try.pinned.checked.prog.ifacesRec ·)) = true := by kernel_rfl
theorem fcrul_mapsOut : (Rows.fnExactCountRulesRow.mapsOut == Try.pinned.checked.prog.mapsAmong Try.f7.resultTypes.toList) = true := by kernel_rfl
theorem fcrul_loops : (Rows.fnExactCountRulesRow.loops == (Try.f7.params.toList ++ Rows.fnExactCountRulesSpec.plain.varTypes Try.pinned.checked.prog).any (Try.pinned.checked.prog.loopsFrom ·)) = true := by kernel_rfl
theorem fcrul_wide : (Rows.fnExactCountRulesRow.wideKeys == (Try.f7.params.toList ++ Rows.fnExactCountRulesSpec.plain.varTypes Try.pinned.checked.prog ++ Try.f7.resultTypes.toList).any (Try.pinned.checked.prog.wideKeysFrom ·)) = true := by kernel_rfl
theorem fcrul_vars : Rows.fnExactCountRulesSpec.vars.all (Try.pinned.checked.prog.varReadable ·) = true := by kernel_rfl
theorem fcrul_res : Try.f7.resultTypes.all (fun t => Try.pinned.checked.prog.readableRec t && decide (t < Try.pinned.checked.prog.types.size)) = true := by kernel_rfl
theorem fcrul_ifacesOut : (Rows.fnExactCountRulesRow.ifacesOut == Try.f7.resultTypes.toList.any (Try.pinned.checked.prog.ifacesRec ·)) = true := by kernel_rfl
theorem fcrul_loopsOut : (Rows.fnExactCountRulesRow.loopsOut == Try.f7.resultTypes.toList.any (Try.pinned.checked.prog.loopsFrom ·)) = true := by kernel_rfl
theorem fcrul_keys : (Rows.fnExactCountRulesRow.plainKeys == Try.pinned.checked.prog.plainKeys) = true := by kernel_rfl
theorem fcrul_lifted : (Rows.fnExactCountRulesRow.lifted == Try.pinned.checked.prog.liftsFinal) = true := by kernel_rfl
theorem fcrul_make : (Try.pinned.checked.prog.make == some Rows.fnExactCountRulesRow.make) = true := by kernel_rfl
theorem fcrul_pinned : (Rows.fnExactCountRulesRow.pinned == Rows.fnExactCountRulesRow.pinnedBy) = true := by kernel_rfl
theorem fcrul_veiled : (Rows.fnExactCountRulesRow.veiled == (Try.f7.params.toList ++ Rows.fnExactCountRulesSpec.plain.varTypes Try.pinned.checked.prog ++ Try.f7.resultTypes.toList).any (Try.pinned.checked.prog.veiledRec ·)) = true := by kernel_rfl
theorem fcrul_fits : Rows.fnExactCountRulesRow.veiledFits Try.pinned.checked.prog Try.f7.params.toList (Try.f7.params.toList ++ Rows.fnExactCountRulesSpec.plain.varTypes Try.pinned.checked.prog ++ Try.f7.resultTypes.toList) = true := by kernel_rfl


set_option maxRecDepth 100000 in
theorem fcrul_all : joinedFacts Try.pinned.checked.prog 7 Try.f7 Rows.fnExactCountRulesSpec Rows.fnExactCountRulesRow = true := by
  unfold joinedFacts
  exact andT (andT (andT (andT (andT (andT (andT (andT (andT (andT (andT (andT (andT (andT (andT (andT (andT (andT (andT (andT (andT (andT (andT (andT (andT (andT (andT (andT (andT (andT (andT
    fcrul_wf fact_laid) fact_maps) fcrul_params) fcrul_tie) rfl) fact_stops) rfl) fact_knobs) fcrul_place) fcrul_unf) fcrul_rec) fcrul_named) fcrul_maps) fcrul_ifaces) fcrul_mapsOut) fcrul_loops) fcrul_wide) fcrul_vars) fcrul_res) fcrul_ifacesOut) fcrul_loopsOut) fcrul_keys) rfl) fact_heard) fact_enter) fcrul_lifted) fcrul_make) rfl) fcrul_pinned) fcrul_veiled) fcrul_fits

theorem fcrul_name : Try.pinned.checked.prog.funcNamed Rows.fnExactCountRulesRow.func = some 7 := by kernel_rfl
theorem fcrul_inst : Try.f7.isInstance Try.pinned.checked.prog Rows.fnExactCountRulesRow.origin Rows.fnExactCountRulesRow.targs := of_decide_eq_true (by kernel_rfl)
theorem fcrul_wrap : Try.f7.isWrapper Try.pinned.checked.prog Rows.fnExactCountRulesRow.wrapper Rows.fnExactCountRulesRow.mainSum := by unfold Func.isWrapper; first | (rw [if_pos (by decide +kernel)]; kernel_rfl) | (rw [if_neg (by decide +kernel)]; exact ⟨rfl, rfl⟩)

end Go.Proofs.Ytboddoaekcchpaa
