/- The closed facts of the row of FnReplace, together. -/
import Derived.Test.YtmofoeljajdhmaaLeav
namespace Go.Proofs.Ytmofoeljajdhmaa

theorem fdreplace_wf : Rows.fnReplaceRow.wf (OpenSpec.ofChange Rows.fnReplaceSpec) = true := by kernel_rfl
theorem fdreplace_params : Try.f7.params.all (Try.pinned.checked.prog.readableRec ·) = true := by kernel_rfl
theorem fdreplace_tie : namedTie Try.pinned.checked.prog Rows.fnReplaceRow.named Rows.fnReplaceSpec.vars = true := by kernel_rfl
theorem fdreplace_place : (Rows.fnReplaceRow.inPlace == Try.pinned.checked.prog.inPlace 7) = true := by kernel_rfl
theorem fdreplace_unf : (Rows.fnReplaceRow.unfollowed == Try.pinned.checked.prog.unfollowed 7) = true := by kernel_rfl
theorem fdreplace_rec : (Rows.fnReplaceRow.recurses == Try.pinned.checked.prog.recurses 7) = true := by kernel_rfl
theorem fdreplace_named : (Rows.fnReplaceRow.named == Try.pinned.checked.prog.varsNamed 7) = true := by kernel_rfl
theorem fdreplace_maps : (Rows.fnReplaceRow.maps == (Try.f7.params.toList ++ Rows.fnReplaceSpec.plain.varTypes Try.pinned.checked.prog).any (Try.pinned.checked.prog.mapsRec ·)) = true := by kernel_rfl
theorem fdreplace_ifaces : (Rows.fnReplaceRow.ifaces == (Try.f7.params.toList ++ Rows.fnReplaceSpec.plain.varTypes Try.pinned.checked.prog).any (Try.pinned.checked.prog.ifacesRec ·)) = true := by kernel_rfl
theorem fdreplace_mapsOut : (Rows.fnReplaceRow.mapsOut == Try.pinned.checked.prog.mapsAmong Try.f7.resultTypes.toList) = true := by kernel_rfl
theorem fdreplace_loops : (Rows.fnReplaceRow.loops == (Try.f7.params.toList ++ Rows.fnReplaceSpec.plain.varTypes Try.pinned.checked.prog).any (Try.pinned.checked.prog.loopsFrom ·)) = true := by kernel_rfl
theorem fdreplace_wide : (Rows.fnReplaceRow.wideKeys == (Try.f7.params.toList ++ Rows.fnReplaceSpec.plain.varTypes Try.pinned.checked.prog ++ Try.f7.resultTypes.toList).any (Try.pinned.checked.prog.wideKeysFrom ·)) = true := by kernel_rfl
theorem fdreplace_vars : Rows.fnReplaceSpec.vars.all (Try.pinned.checked.prog.varReadable ·) = true := by kernel_rfl
theorem fdreplace_res : Try.f7.resultTypes.all (fun t => Try.pinned.checked.prog.readableRec t && decide (t < Try.pinned.checked.prog.types.size)) = true := by kernel_rfl
theorem fdreplace_ifacesOut : (Rows.fnReplaceRow.ifacesOut == Try.f7.resultTypes.toList.any (Try.pinned.checked.prog.ifacesRec ·)) = true := by kernel_rfl
theorem fdreplace_loopsOut : (Rows.fnReplaceRow.loopsOut == Try.f7.resultTypes.toList.any (Try.pinned.checked.prog.loopsFrom ·)) = true := by kernel_rfl
theorem fdreplace_keys : (Rows.fnReplaceRow.plainKeys == Try.pinned.checked.prog.plainKeys) = true := by kernel_rfl
theorem fdreplace_lifted : (Rows.fnReplaceRow.lifted == Try.pinned.checked.prog.liftsFinal) = true := by kernel_rfl
theorem fdreplace_make : (Try.pinned.checked.prog.make == some Rows.fnReplaceRow.make) = true := by kernel_rfl
theorem fdreplace_pinned : (Rows.fnReplaceRow.pinned == Rows.fnReplaceRow.pinnedBy) = true := by kernel_rfl
theorem fdreplace_veiled : (Rows.fnReplaceRow.veiled == (Try.f7.params.toList ++ Rows.fnReplaceSpec.plain.varTypes Try.pinned.checked.prog ++ Try.f7.resultTypes.toList).any (Try.pinned.checked.prog.veiledRec ·)) = true := by kernel_rfl
theorem fdreplace_fits : Rows.fnReplaceRow.veiledFits Try.pinned.checked.prog Try.f7.params.toList (Try.f7.params.toList ++ Rows.fnReplaceSpec.plain.varTypes Try.pinned.checked.prog ++ Try.f7.resultTypes.toList) = true := by kernel_rfl


set_option maxRecDepth 100000 in
theorem fdreplace_all : joinedFacts Try.pinned.checked.prog 7 Try.f7 Rows.fnReplaceSpec Rows.fnReplaceRow = true := by
  unfold joinedFacts
  exact andT (andT (andT (andT (andT (andT (andT (andT (andT (andT (andT (andT (andT (andT (andT (andT (andT (andT (andT (andT (andT (andT (andT (andT (andT (andT (andT (andT (andT (andT (andT
    fdreplace_wf fact_laid) fact_maps) fdreplace_params) fdreplace_tie) rfl) fact_stops) rfl) fact_knobs) fdreplace_place) fdreplace_unf) fdreplace_rec) fdreplace_named) fdreplace_maps) fdreplace_ifaces) fdreplace_mapsOut) fdreplace_loops) fdreplace_wide) fdreplace_vars) fdreplace_res) fdreplace_ifacesOut) fdreplace_loopsOut) fdreplace_keys) rfl) fact_heard) fact_enter) fdreplace_lifted) fdreplace_make) rfl) fdreplace_pinned) fdreplace_veiled) fdreplace_fits

theorem fdreplace_name : Try.pinned.checked.prog.funcNamed Rows.fnReplaceRow.func = some 7 := by kernel_rfl
theorem fdreplace_inst : Try.f7.isInstance Try.pinned.checked.prog Rows.fnReplaceRow.origin Rows.fnReplaceRow.targs := of_decide_eq_true (by kernel_rfl)
theorem fdreplace_wrap : Try.f7.isWrapper Try.pinned.checked.prog Rows.fnReplaceRow.wrapper Rows.fnReplaceRow.mainSum := by unfold Func.isWrapper; first | (rw [if_pos (by decide +kernel)]; kernel_rfl) | (rw [if_neg (by decide +kernel)]; exact ⟨rfl, rfl⟩)

end Go.Proofs.Ytmofoeljajdhmaa
