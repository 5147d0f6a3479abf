/- The closed facts of the row of FnParts, together. -/
import Derived.Test.YtmofoeljajdhmaaLeav
namespace Go.Proofs.Ytmofoeljajdhmaa

theorem fdparts_wf : Rows.fnPartsRow.wf (OpenSpec.ofChange Rows.fnPartsSpec) = true := by kernel_rfl
theorem fdparts_params : Try.f5.params.all (Try.pinned.checked.prog.readableRec ·) = true := by kernel_rfl
theorem fdparts_tie : namedTie Try.pinned.checked.prog Rows.fnPartsRow.named Rows.fnPartsSpec.vars = true := by kernel_rfl
theorem fdparts_place : (Rows.fnPartsRow.inPlace == Try.pinned.checked.prog.inPlace 5) = true := by kernel_rfl
theorem fdparts_unf : (Rows.fnPartsRow.unfollowed == Try.pinned.checked.prog.unfollowed 5) = true := by kernel_rfl
theorem fdparts_rec : (Rows.fnPartsRow.recurses == Try.pinned.checked.prog.recurses 5) = true := by kernel_rfl
theorem fdparts_named : (Rows.fnPartsRow.named == Try.pinned.checked.prog.varsNamed 5) = true := by kernel_rfl
theorem fdparts_maps : (Rows.fnPartsRow.maps == (Try.f5.params.toList ++ Rows.fnPartsSpec.plain.varTypes Try.pinned.checked.prog).any (Try.pinned.checked.prog.mapsRec ·)) = true := by kernel_rfl
theorem fdparts_ifaces : (Rows.fnPartsRow.ifaces == (Try.f5.params.toList ++ Rows.fnPartsSpec.plain.varTypes Try.pinned.checked.prog).any (Try.pinned.checked.prog.ifacesRec ·)) = true := by kernel_rfl
theorem fdparts_mapsOut : (Rows.fnPartsRow.mapsOut == Try.pinned.checked.prog.mapsAmong Try.f5.resultTypes.toList) = true := by kernel_rfl
theorem fdparts_loops : (Rows.fnPartsRow.loops == (Try.f5.params.toList ++ Rows.fnPartsSpec.plain.varTypes Try.pinned.checked.prog).any (Try.pinned.checked.prog.loopsFrom ·)) = true := by kernel_rfl
theorem fdparts_wide : (Rows.fnPartsRow.wideKeys == (Try.f5.params.toList ++ Rows.fnPartsSpec.plain.varTypes Try.pinned.checked.prog ++ Try.f5.resultTypes.toList).any (Try.pinned.checked.prog.wideKeysFrom ·)) = true := by kernel_rfl
theorem fdparts_vars : Rows.fnPartsSpec.vars.all (Try.pinned.checked.prog.varReadable ·) = true := by kernel_rfl
theorem fdparts_res : Try.f5.resultTypes.all (fun t => Try.pinned.checked.prog.readableRec t && decide (t < Try.pinned.checked.prog.types.size)) = true := by kernel_rfl
theorem fdparts_ifacesOut : (Rows.fnPartsRow.ifacesOut == Try.f5.resultTypes.toList.any (Try.pinned.checked.prog.ifacesRec ·)) = true := by kernel_rfl
theorem fdparts_loopsOut : (Rows.fnPartsRow.loopsOut == Try.f5.resultTypes.toList.any (Try.pinned.checked.prog.loopsFrom ·)) = true := by kernel_rfl
theorem fdparts_keys : (Rows.fnPartsRow.plainKeys == Try.pinned.checked.prog.plainKeys) = true := by kernel_rfl
theorem fdparts_lifted : (Rows.fnPartsRow.lifted == Try.pinned.checked.prog.liftsFinal) = true := by kernel_rfl
theorem fdparts_make : (Try.pinned.checked.prog.make == some Rows.fnPartsRow.make) = true := by kernel_rfl
theorem fdparts_pinned : (Rows.fnPartsRow.pinned == Rows.fnPartsRow.pinnedBy) = true := by kernel_rfl
theorem fdparts_veiled : (Rows.fnPartsRow.veiled == (Try.f5.params.toList ++ Rows.fnPartsSpec.plain.varTypes Try.pinned.checked.prog ++ Try.f5.resultTypes.toList).any (Try.pinned.checked.prog.veiledRec ·)) = true := by kernel_rfl
theorem fdparts_fits : Rows.fnPartsRow.veiledFits Try.pinned.checked.prog Try.f5.params.toList (Try.f5.params.toList ++ Rows.fnPartsSpec.plain.varTypes Try.pinned.checked.prog ++ Try.f5.resultTypes.toList) = true := by kernel_rfl


set_option maxRecDepth 100000 in
theorem fdparts_all : joinedFacts Try.pinned.checked.prog 5 Try.f5 Rows.fnPartsSpec Rows.fnPartsRow = true := by
  unfold joinedFacts
  exact andT (andT (andT (andT (andT (andT (andT (andT (andT (andT (andT (andT (andT (andT (andT (andT (andT (andT (andT (andT (andT (andT (andT (andT (andT (andT (andT (andT (andT (andT (andT
    fdparts_wf fact_laid) fact_maps) fdparts_params) fdparts_tie) rfl) fact_stops) rfl) fact_knobs) fdparts_place) fdparts_unf) fdparts_rec) fdparts_named) fdparts_maps) fdparts_ifaces) fdparts_mapsOut) fdparts_loops) fdparts_wide) fdparts_vars) fdparts_res) fdparts_ifacesOut) fdparts_loopsOut) fdparts_keys) rfl) fact_heard) fact_enter) fdparts_lifted) fdparts_make) rfl) fdparts_pinned) fdparts_veiled) fdparts_fits

theorem fdparts_name : Try.pinned.checked.prog.funcNamed Rows.fnPartsRow.func = some 5 := by kernel_rfl
theorem fdparts_inst : Try.f5.isInstance Try.pinned.checked.prog Rows.fnPartsRow.origin Rows.fnPartsRow.targs := of_decide_eq_true (by kernel_rfl)
theorem fdparts_wrap : Try.f5.isWrapper Try.pinned.checked.prog Rows.fnPartsRow.wrapper Rows.fnPartsRow.mainSum := by unfold Func.isWrapper; first | (rw [if_pos (by decide +kernel)]; kernel_rfl) | (rw [if_neg (by decide +kernel)]; exact ⟨rfl, rfl⟩)

end Go.Proofs.Ytmofoeljajdhmaa
