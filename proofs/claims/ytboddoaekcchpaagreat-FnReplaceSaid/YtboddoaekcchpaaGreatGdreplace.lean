/- The closed facts of the row of FnReplace, together. -/
import Derived.Test.YtboddoaekcchpaaGreatLeav
namespace Go.Proofs.YtboddoaekcchpaaGreat

theorem fdreplace_wf : Rows.fnReplaceRow.wf (OpenSpec.ofChange Rows.fnReplaceSpec) = true := by kernel_rfl
theorem fdreplace_params : Tryz.f3.params.all (Tryz.pinned.checked.prog.readableRec ·) = true := by kernel_rfl
theorem fdreplace_tie : namedTie Tryz.pinned.checked.prog Rows.fnReplaceRow.named Rows.fnReplaceSpec.vars = true := by kernel_rfl
theorem fdreplace_place : (Rows.fnReplaceRow.inPlace == Tryz.pinned.checked.prog.inPlace 3) = true := by kernel_rfl
theorem fdreplace_unf : (Rows.fnReplaceRow.unfollowed == Tryz.pinned.checked.prog.unfollowed 3) = true := by kernel_rfl
theorem fdreplace_rec : (Rows.fnReplaceRow.recurses == Tryz.pinned.checked.prog.recurses 3) = true := by kernel_rfl
theorem fdreplace_named : (Rows.fnReplaceRow.named == Tryz.pinned.checked.prog.varsNamed 3) = true := by kernel_rfl
theorem fdreplace_maps : (Rows.fnReplaceRow.maps == (Tryz.f3.params.toList ++ Rows.fnReplaceSpec.plain.varTypes Tryz.pinned.checked.prog).any (Tryz.pinned.checked.prog.mapsRec ·)) = true := by kernel_rfl
theorem fdreplace_ifaces : (Rows.fnReplaceRow.ifaces == (Tryz.f3.params.toList ++ Rows.fnReplaceSpec.plain.varTypes Tryz.pinned.checked.prog).any (Tryz.pinned.checked.prog.ifacesRec ·)) = true := by kernel_rfl
theorem fdreplace_mapsOut : (Rows.fnReplaceRow.mapsOut == Tryz.pinned.checked.prog.mapsAmong Tryz.f3.resultTypes.toList) = true := by kernel_rfl
theorem fdreplace_loops : (Rows.fnReplaceRow.loops == (Tryz.f3.params.toList ++ Rows.fnReplaceSpec.plain.varTypes Tryz.pinned.checked.prog).any (Tryz.pinned.checked.prog.loopsFrom ·)) = true := by kernel_rfl
theorem fdreplace_wide : (Rows.fnReplaceRow.wideKeys == (Tryz.f3.params.toList ++ Rows.fnReplaceSpec.plain.varTypes Tryz.pinned.checked.prog ++ Tryz.f3.resultTypes.toList).any (Tryz.pinned.checked.prog.wideKeysFrom ·)) = true := by kernel_rfl
theorem fdreplace_vars : Rows.fnReplaceSpec.vars.all (Tryz.pinned.checked.prog.varReadable ·) = true := by kernel_rfl
theorem fdreplace_res : Tryz.f3.resultTypes.all (fun t => Tryz.pinned.checked.prog.readableRec t && decide (t < Tryz.pinned.checked.prog.types.size)) = true := by kernel_rfl
theorem fdreplace_ifacesOut : (Rows.fnReplaceRow.ifacesOut == Tryz.f3.resultTypes.toList.any (Tryz.pinned.checked.prog.ifacesRec ·)) = true := by kernel_rfl
theorem fdreplace_loopsOut : (Rows.fnReplaceRow.loopsOut == Tryz.f3.resultTypes.toList.any (Tryz.pinned.checked.prog.loopsFrom ·)) = true := by kernel_rfl
theorem fdreplace_keys : (Rows.fnReplaceRow.plainKeys == Tryz.pinned.checked.prog.plainKeys) = true := by kernel_rfl
theorem fdreplace_lifted : (Rows.fnReplaceRow.lifted == Tryz.pinned.checked.prog.liftsFinal) = true := by kernel_rfl
theorem fdreplace_make : (Tryz.pinned.checked.prog.make == some Rows.fnReplaceRow.make) = true := by kernel_rfl
theorem fdreplace_pinned : (Rows.fnReplaceRow.pinned == Rows.fnReplaceRow.pinnedBy) = true := by kernel_rfl
theorem fdreplace_veiled : (Rows.fnReplaceRow.veiled == (Tryz.f3.params.toList ++ Rows.fnReplaceSpec.plain.varTypes Tryz.pinned.checked.prog ++ Tryz.f3.resultTypes.toList).any (Tryz.pinned.checked.prog.veiledRec ·)) = true := by kernel_rfl
theorem fdreplace_fits : Rows.fnReplaceRow.veiledFits Tryz.pinned.checked.prog Tryz.f3.params.toList (Tryz.f3.params.toList ++ Rows.fnReplaceSpec.plain.varTypes Tryz.pinned.checked.prog ++ Tryz.f3.resultTypes.toList) = true := by kernel_rfl


set_option maxRecDepth 100000 in
theorem fdreplace_all : joinedFacts Tryz.pinned.checked.prog 3 Tryz.f3 Rows.fnReplaceSpec Rows.fnReplaceRow = true := by
  unfold joinedFacts
  exact andT (andT (andT (andT (andT (andT (andT (andT (andT (andT (andT (andT (andT (andT (andT (andT (andT (andT (andT (andT (andT (andT (andT (andT (andT (andT (andT (andT (andT (andT (andT
    fdreplace_wf fact_laid) fact_maps) fdreplace_params) fdreplace_tie) rfl) fact_stops) rfl) fact_knobs) fdreplace_place) fdreplace_unf) fdreplace_rec) fdreplace_named) fdreplace_maps) fdreplace_ifaces) fdreplace_mapsOut) fdreplace_loops) fdreplace_wide) fdreplace_vars) fdreplace_res) fdreplace_ifacesOut) fdreplace_loopsOut) fdreplace_keys) rfl) fact_heard) fact_enter) fdreplace_lifted) fdreplace_make) rfl) fdreplace_pinned) fdreplace_veiled) fdreplace_fits

theorem fdreplace_name : Tryz.pinned.checked.prog.funcNamed Rows.fnReplaceRow.func = some 3 := by kernel_rfl
theorem fdreplace_inst : Tryz.f3.isInstance Tryz.pinned.checked.prog Rows.fnReplaceRow.origin Rows.fnReplaceRow.targs := of_decide_eq_true (by kernel_rfl)
theorem fdreplace_wrap : Tryz.f3.isWrapper Tryz.pinned.checked.prog Rows.fnReplaceRow.wrapper Rows.fnReplaceRow.mainSum := by unfold Func.isWrapper; first | (rw [if_pos (by decide +kernel)]; kernel_rfl) | (rw [if_neg (by decide +kernel)]; exact ⟨rfl, rfl⟩)

end Go.Proofs.YtboddoaekcchpaaGreat
