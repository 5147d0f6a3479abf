/- The closed facts of the row of FnCountRules, together. -/
import Derived.Test.YtboddoaekcchpaaGreatLeav
namespace Go.Proofs.YtboddoaekcchpaaGreat

theorem fdcrul_wf : Rows.fnCountRulesRow.wf (OpenSpec.ofChange Rows.fnCountRulesSpec) = true := by kernel_rfl
theorem fdcrul_params : Tryz.f4.params.all (Tryz.pinned.checked.prog.readableRec ·) = true := by kernel_rfl
theorem fdcrul_tie : namedTie Tryz.pinned.checked.prog Rows.fnCountRulesRow.named Rows.fnCountRulesSpec.vars = true := by kernel_rfl
theorem fdcrul_place : (Rows.fnCountRulesRow.inPlace == Tryz.pinned.checked.prog.inPlace 4) = true := by kernel_rfl
theorem fdcrul_unf : (Rows.fnCountRulesRow.unfollowed == Tryz.pinned.checked.prog.unfollowed 4) = true := by kernel_rfl
theorem fdcrul_rec : (Rows.fnCountRulesRow.recurses == Tryz.pinned.checked.prog.recurses 4) = true := by kernel_rfl
theorem fdcrul_named : (Rows.fnCountRulesRow.named == Tryz.pinned.checked.prog.varsNamed 4) = true := by kernel_rfl
theorem fdcrul_maps : (Rows.fnCountRulesRow.maps == (Tryz.f4.params.toList ++ Rows.fnCountRulesSpec.plain.varTypes Tryz.pinned.checked.prog).any (Tryz.pinned.checked.prog.mapsRec ·)) = true := by kernel_rfl
theorem fdcrul_ifaces : (Rows.fnCountRulesRow.ifaces == (Tryz.f4.params.toList ++ Rows.fnCountRulesSpec.plain.varTypes Tryz.pinned.checked.prog).any (Tryz.pinned.checked.prog.ifacesRec ·)) = true := by kernel_rfl
theorem fdcrul_mapsOut : (Rows.fnCountRulesRow.mapsOut == Tryz.pinned.checked.prog.mapsAmong Tryz.f4.resultTypes.toList) = true := by kernel_rfl
theorem fdcrul_loops : (Rows.fnCountRulesRow.loops == (Tryz.f4.params.toList ++ Rows.fnCountRulesSpec.plain.varTypes Tryz.pinned.checked.prog).any (Tryz.pinned.checked.prog.loopsFrom ·)) = true := by kernel_rfl
theorem fdcrul_wide : (Rows.fnCountRulesRow.wideKeys == (Tryz.f4.params.toList ++ Rows.fnCountRulesSpec.plain.varTypes Tryz.pinned.checked.prog ++ Tryz.f4.resultTypes.toList).any (Tryz.pinned.checked.prog.wideKeysFrom ·)) = true := by kernel_rfl
theorem fdcrul_vars : Rows.fnCountRulesSpec.vars.all (Tryz.pinned.checked.prog.varReadable ·) = true := by kernel_rfl
theorem fdcrul_res : Tryz.f4.resultTypes.all (fun t => Tryz.pinned.checked.prog.readableRec t && decide (t < Tryz.pinned.checked.prog.types.size)) = true := by kernel_rfl
theorem fdcrul_ifacesOut : (Rows.fnCountRulesRow.ifacesOut == Tryz.f4.resultTypes.toList.any (Tryz.pinned.checked.prog.ifacesRec ·)) = true := by kernel_rfl
theorem fdcrul_loopsOut : (Rows.fnCountRulesRow.loopsOut == Tryz.f4.resultTypes.toList.any (Tryz.pinned.checked.prog.loopsFrom ·)) = true := by kernel_rfl
theorem fdcrul_keys : (Rows.fnCountRulesRow.plainKeys == Tryz.pinned.checked.prog.plainKeys) = true := by kernel_rfl
theorem fdcrul_lifted : (Rows.fnCountRulesRow.lifted == Tryz.pinned.checked.prog.liftsFinal) = true := by kernel_rfl
theorem fdcrul_make : (Tryz.pinned.checked.prog.make == some Rows.fnCountRulesRow.make) = true := by kernel_rfl
theorem fdcrul_pinned : (Rows.fnCountRulesRow.pinned == Rows.fnCountRulesRow.pinnedBy) = true := by kernel_rfl
theorem fdcrul_veiled : (Rows.fnCountRulesRow.veiled == (Tryz.f4.params.toList ++ Rows.fnCountRulesSpec.plain.varTypes Tryz.pinned.checked.prog ++ Tryz.f4.resultTypes.toList).any (Tryz.pinned.checked.prog.veiledRec ·)) = true := by kernel_rfl
theorem fdcrul_fits : Rows.fnCountRulesRow.veiledFits Tryz.pinned.checked.prog Tryz.f4.params.toList (Tryz.f4.params.toList ++ Rows.fnCountRulesSpec.plain.varTypes Tryz.pinned.checked.prog ++ Tryz.f4.resultTypes.toList) = true := by kernel_rfl


set_option maxRecDepth 100000 in
theorem fdcrul_all : joinedFacts Tryz.pinned.checked.prog 4 Tryz.f4 Rows.fnCountRulesSpec Rows.fnCountRulesRow = true := by
  unfold joinedFacts
  exact andT (andT (andT (andT (andT (andT (andT (andT (andT (andT (andT (andT (andT (andT (andT (andT (andT (andT (andT (andT (andT (andT (andT (andT (andT (andT (andT (andT (andT (andT (andT
    fdcrul_wf fact_laid) fact_maps) fdcrul_params) fdcrul_tie) rfl) fact_stops) rfl) fact_knobs) fdcrul_place) fdcrul_unf) fdcrul_rec) fdcrul_named) fdcrul_maps) fdcrul_ifaces) fdcrul_mapsOut) fdcrul_loops) fdcrul_wide) fdcrul_vars) fdcrul_res) fdcrul_ifacesOut) fdcrul_loopsOut) fdcrul_keys) rfl) fact_heard) fact_enter) fdcrul_lifted) fdcrul_make) rfl) fdcrul_pinned) fdcrul_veiled) fdcrul_fits

theorem fdcrul_name : Tryz.pinned.checked.prog.funcNamed Rows.fnCountRulesRow.func = some 4 := by kernel_rfl
theorem fdcrul_inst : Tryz.f4.isInstance Tryz.pinned.checked.prog Rows.fnCountRulesRow.origin Rows.fnCountRulesRow.targs := of_decide_eq_true (by kernel_rfl)
theorem fdcrul_wrap : Tryz.f4.isWrapper Tryz.pinned.checked.prog Rows.fnCountRulesRow.wrapper Rows.fnCountRulesRow.mainSum := by unfold Func.isWrapper; first | (rw [if_pos (by decide +kernel)]; kernel_rfl) | (rw [if_neg (by decide +kernel)]; exact ⟨rfl, rfl⟩)

end Go.Proofs.YtboddoaekcchpaaGreat
