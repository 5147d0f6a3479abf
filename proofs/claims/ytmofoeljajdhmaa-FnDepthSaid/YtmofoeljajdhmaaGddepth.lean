/- The closed facts of the row of FnDepth, together. -/
import Derived.Test.YtmofoeljajdhmaaLeav
namespace Go.Proofs.Ytmofoeljajdhmaa

theorem fddepth_wf : Rows.fnDepthRow.wf (OpenSpec.ofChange Rows.fnDepthSpec) = true := by kernel_rfl
theorem fddepth_params : Try.f6.params.all (Try.pinned.checked.prog.readableRec ·) = true := by kernel_rfl
theorem fddepth_tie : namedTie Try.pinned.checked.prog Rows.fnDepthRow.named Rows.fnDepthSpec.vars = true := by kernel_rfl
theorem fddepth_place : (Rows.fnDepthRow.inPlace == Try.pinned.checked.prog.inPlace 6) = true := by kernel_rfl
theorem fddepth_unf : (Rows.fnDepthRow.unfollowed == Try.pinned.checked.prog.unfollowed 6) = true := by kernel_rfl
theorem fddepth_rec : (Rows.fnDepthRow.recurses == Try.pinned.checked.prog.recurses 6) = true := by kernel_rfl
theorem fddepth_named : (Rows.fnDepthRow.named == Try.pinned.checked.prog.varsNamed 6) = true := by kernel_rfl
theorem fddepth_maps : (Rows.fnDepthRow.maps == (Try.f6.params.toList ++ Rows.fnDepthSpec.plain.varTypes Try.pinned.checked.prog).any (Try.pinned.checked.prog.mapsRec ·)) = true := by kernel_rfl
theorem fddepth_ifaces : (Rows.fnDepthRow.ifaces == (Try.f6.params.toList ++ Rows.fnDepthSpec.plain.varTypes Try.pinned.checked.prog).any (Try.pinned.checked.prog.ifacesRec ·)) = true := by kernel_rfl
theorem fddepth_mapsOut : (Rows.fnDepthRow.mapsOut == Try.pinned.checked.prog.mapsAmong Try.f6.resultTypes.toList) = true := by kernel_rfl
theorem fddepth_loops : (Rows.fnDepthRow.loops == (Try.f6.params.toList ++ Rows.fnDepthSpec.plain.varTypes Try.pinned.checked.prog).any (Try.pinned.checked.prog.loopsFrom ·)) = true := by kernel_rfl
theorem fddepth_wide : (Rows.fnDepthRow.wideKeys == (Try.f6.params.toList ++ Rows.fnDepthSpec.plain.varTypes Try.pinned.checked.prog ++ Try.f6.resultTypes.toList).any (Try.pinned.checked.prog.wideKeysFrom ·)) = true := by kernel_rfl
theorem fddepth_vars : Rows.fnDepthSpec.vars.all (Try.pinned.checked.prog.varReadable ·) = true := by kernel_rfl
theorem fddepth_res : Try.f6.resultTypes.all (fun t => Try.pinned.checked.prog.readableRec t && decide (t < Try.pinned.checked.prog.types.size)) = true := by kernel_rfl
theorem fddepth_ifacesOut : (Rows.fnDepthRow.ifacesOut == Try.f6.resultTypes.toList.any (Try.pinned.checked.prog.ifacesRec ·)) = true := by kernel_rfl
theorem fddepth_loopsOut : (Rows.fnDepthRow.loopsOut == Try.f6.resultTypes.toList.any (Try.pinned.checked.prog.loopsFrom ·)) = true := by kernel_rfl
theorem fddepth_keys : (Rows.fnDepthRow.plainKeys == Try.pinned.checked.prog.plainKeys) = true := by kernel_rfl
theorem fddepth_lifted : (Rows.fnDepthRow.lifted == Try.pinned.checked.prog.liftsFinal) = true := by kernel_rfl
theorem fddepth_make : (Try.pinned.checked.prog.make == some Rows.fnDepthRow.make) = true := by kernel_rfl
theorem fddepth_pinned : (Rows.fnDepthRow.pinned == Rows.fnDepthRow.pinnedBy) = true := by kernel_rfl
theorem fddepth_veiled : (Rows.fnDepthRow.veiled == (Try.f6.params.toList ++ Rows.fnDepthSpec.plain.varTypes Try.pinned.checked.prog ++ Try.f6.resultTypes.toList).any (Try.pinned.checked.prog.veiledRec ·)) = true := by kernel_rfl
theorem fddepth_fits : Rows.fnDepthRow.veiledFits Try.pinned.checked.prog Try.f6.params.toList (Try.f6.params.toList ++ Rows.fnDepthSpec.plain.varTypes Try.pinned.checked.prog ++ Try.f6.resultTypes.toList) = true := by kernel_rfl


set_option maxRecDepth 100000 in
theorem fddepth_all : joinedFacts Try.pinned.checked.prog 6 Try.f6 Rows.fnDepthSpec Rows.fnDepthRow = true := by
  unfold joinedFacts
  exact andT (andT (andT (andT (andT (andT (andT (andT (andT (andT (andT (andT (andT (andT (andT (andT (andT (andT (andT (andT (andT (andT (andT (andT (andT (andT (andT (andT (andT (andT (andT
    fddepth_wf fact_laid) fact_maps) fddepth_params) fddepth_tie) rfl) fact_stops) rfl) fact_knobs) fddepth_place) fddepth_unf) fddepth_rec) fddepth_named) fddepth_maps) fddepth_ifaces) fddepth_mapsOut) fddepth_loops) fddepth_wide) fddepth_vars) fddepth_res) fddepth_ifacesOut) fddepth_loopsOut) fddepth_keys) rfl) fact_heard) fact_enter) fddepth_lifted) fddepth_make) rfl) fddepth_pinned) fddepth_veiled) fddepth_fits

theorem fddepth_name : Try.pinned.checked.prog.funcNamed Rows.fnDepthRow.func = some 6 := by kernel_rfl
theorem fddepth_inst : Try.f6.isInstance Try.pinned.checked.prog Rows.fnDepthRow.origin Rows.fnDepthRow.targs := of_decide_eq_true (by kernel_rfl)
theorem fddepth_wrap : Try.f6.isWrapper Try.pinned.checked.prog Rows.fnDepthRow.wrapper Rows.fnDepthRow.mainSum := by unfold Func.isWrapper; first | (rw [if_pos (by decide +kernel)]; kernel_rfl) | (rw [if_neg (by decide +kernel)]; exact ⟨rfl, rfl⟩)

end Go.Proofs.Ytmofoeljajdhmaa
