/- The closed facts of the row of RuleFor, together. -/
import Derived.Test.YtboddoaekcchpaaLeav
namespace Go.Proofs.Ytboddoaekcchpaa

theorem frfor_wf : Rows.fnExactRuleForRow.wf (OpenSpec.ofChange Rows.fnExactRuleForSpec) = true := by kernel_rfl
theorem frfor_params : Try.f3.params.all (Try.pinned.checked.prog.readableRec ·) = true := by kernel_rfl
theorem frfor_tie : namedTie Try.pinned.checked.prog Rows.fnExactRuleForRow.named Rows.fnExactRuleForSpec.vars = true := by kernel_rfl
theorem frfor_place : (Rows.fnExactRuleForRow.inPlace == Try.pinned.checked.prog.inPlace 3) = true := by kernel_rfl
theorem frfor_unf : (Rows.fnExactRuleForRow.unfollowed == Try.pinned.checked.prog.unfollowed 3) = true := by kernel_rfl
theorem frfor_rec : (Rows.fnExactRuleForRow.recurses == Try.pinned.checked.prog.recurses 3) = true := by kernel_rfl
theorem frfor_named : (Rows.fnExactRuleForRow.named == Try.pinned.checked.prog.varsNamed 3) = true := by kernel_rfl
theorem frfor_maps : (Rows.fnExactRuleForRow.maps == (Try.f3.params.toList ++ Rows.fnExactRuleForSpec.plain.varTypes Try.pinned.checked.prog).any (Try.pinned.checked.prog.mapsRec ·)) = true := by kernel_rfl
theorem frfor_ifaces : (Rows.fnExactRuleForRow.ifaces == (Try.f3.params.toList ++ Rows.fnExactRuleForSpec.plain.varTypes Try.pinned.checked.prog).any (Try.pinned.checked.prog.ifacesRec ·)) = true := by kernel_rfl
theorem frfor_mapsOut : (Rows.fnExactRuleForRow.mapsOut == Try.pinned.checked.prog.mapsAmong Try.f3.resultTypes.toList) = true := by kernel_rfl
theorem frfor_loops : (Rows.fnExactRuleForRow.loops == (Try.f3.params.toList ++ Rows.fnExactRuleForSpec.plain.varTypes Try.pinned.checked.prog).any (Try.pinned.checked.prog.loopsFrom ·)) = true := by kernel_rfl
theorem frfor_wide : (Rows.fnExactRuleForRow.wideKeys == (Try.f3.params.toList ++ Rows.fnExactRuleForSpec.plain.varTypes Try.pinned.checked.prog ++ Try.f3.resultTypes.toList).any (Try.pinned.checked.prog.wideKeysFrom ·)) = true := by kernel_rfl
theorem frfor_vars : Rows.fnExactRuleForSpec.vars.all (Try.pinned.checked.prog.varReadable ·) = true := by kernel_rfl
theorem frfor_res : Try.f3.resultTypes.all (fun t => Try.pinned.checked.prog.readableRec t && decide (t < Try.pinned.checked.prog.types.size)) = true := by kernel_rfl
theorem frfor_ifacesOut : (Rows.fnExactRuleForRow.ifacesOut == Try.f3.resultTypes.toList.any (Try.pinned.checked.prog.ifacesRec ·)) = true := by kernel_rfl
theorem frfor_loopsOut : (Rows.fnExactRuleForRow.loopsOut == Try.f3.resultTypes.toList.any (Try.pinned.checked.prog.loopsFrom ·)) = true := by kernel_rfl
theorem frfor_keys : (Rows.fnExactRuleForRow.plainKeys == Try.pinned.checked.prog.plainKeys) = true := by kernel_rfl
theorem frfor_lifted : (Rows.fnExactRuleForRow.lifted == Try.pinned.checked.prog.liftsFinal) = true := by kernel_rfl
theorem frfor_make : (Try.pinned.checked.prog.make == some Rows.fnExactRuleForRow.make) = true := by kernel_rfl
theorem frfor_pinned : (Rows.fnExactRuleForRow.pinned == Rows.fnExactRuleForRow.pinnedBy) = true := by kernel_rfl
theorem frfor_veiled : (Rows.fnExactRuleForRow.veiled == (Try.f3.params.toList ++ Rows.fnExactRuleForSpec.plain.varTypes Try.pinned.checked.prog ++ Try.f3.resultTypes.toList).any (Try.pinned.checked.prog.veiledRec ·)) = true := by kernel_rfl
theorem frfor_fits : Rows.fnExactRuleForRow.veiledFits Try.pinned.checked.prog Try.f3.params.toList (Try.f3.params.toList ++ Rows.fnExactRuleForSpec.plain.varTypes Try.pinned.checked.prog ++ Try.f3.resultTypes.toList) = true := by kernel_rfl


set_option maxRecDepth 100000 in
theorem frfor_all : joinedFacts Try.pinned.checked.prog 3 Try.f3 Rows.fnExactRuleForSpec Rows.fnExactRuleForRow = true := by
  unfold joinedFacts
  exact andT (andT (andT (andT (andT (andT (andT (andT (andT (andT (andT (andT (andT (andT (andT (andT (andT (andT (andT (andT (andT (andT (andT (andT (andT (andT (andT (andT (andT (andT (andT
    frfor_wf fact_laid) fact_maps) frfor_params) frfor_tie) rfl) fact_stops) rfl) fact_knobs) frfor_place) frfor_unf) frfor_rec) frfor_named) frfor_maps) frfor_ifaces) frfor_mapsOut) frfor_loops) frfor_wide) frfor_vars) frfor_res) frfor_ifacesOut) frfor_loopsOut) frfor_keys) rfl) fact_heard) fact_enter) frfor_lifted) frfor_make) rfl) frfor_pinned) frfor_veiled) frfor_fits

theorem frfor_name : Try.pinned.checked.prog.funcNamed Rows.fnExactRuleForRow.func = some 3 := by kernel_rfl
theorem frfor_inst : Try.f3.isInstance Try.pinned.checked.prog Rows.fnExactRuleForRow.origin Rows.fnExactRuleForRow.targs := of_decide_eq_true (by kernel_rfl)
theorem frfor_wrap : Try.f3.isWrapper Try.pinned.checked.prog Rows.fnExactRuleForRow.wrapper Rows.fnExactRuleForRow.mainSum := by unfold Func.isWrapper; first | (rw [if_pos (by decide +kernel)]; kernel_rfl) | (rw [if_neg (by decide +kernel)]; exact ⟨rfl, rfl⟩)

end Go.Proofs.Ytboddoaekcchpaa
