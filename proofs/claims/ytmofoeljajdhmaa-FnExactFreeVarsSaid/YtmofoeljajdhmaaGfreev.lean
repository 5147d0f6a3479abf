/- The closed facts of the row of FreeVars, together. -/
import Derived.Test.YtmofoeljajdhmaaLeav
namespace Go.Proofs.Ytmofoeljajdhmaa

theorem ffreev_wf : Rows.fnExactFreeVarsRow.wf (OpenSpec.ofChange Rows.fnExactFreeVarsSpec) = true := by kernel_rfl
theorem ffreev_params : Try.f3.params.all (Try.pinned.checked.prog.readableRec ·) = true := by kernel_rfl
theorem ffreev_tie : namedTie Try.pinned.checked.prog Rows.fnExactFreeVarsRow.named Rows.fnExactFreeVarsSpec.vars = true := by kernel_rfl
theorem ffreev_place : (Rows.fnExactFreeVarsRow.inPlace == Try.pinned.checked.prog.inPlace 3) = true := by kernel_rfl
theorem ffreev_unf : (Rows.fnExactFreeVarsRow.unfollowed == Try.pinned.checked.prog.unfollowed 3) = true := by kernel_rfl
theorem ffreev_rec : (Rows.fnExactFreeVarsRow.recurses == Try.pinned.checked.prog.recurses 3) = true := by kernel_rfl
theorem ffreev_named : (Rows.fnExactFreeVarsRow.named == Try.pinned.checked.prog.varsNamed 3) = true := by kernel_rfl
theorem ffreev_maps : (Rows.fnExactFreeVarsRow.maps == (Try.f3.params.toList ++ Rows.fnExactFreeVarsSpec.plain.varTypes Try.pinned.checked.prog).any (Try.pinned.checked.prog.mapsRec ·)) = true := by kernel_rfl
theorem ffreev_ifaces : (Rows.fnExactFreeVarsRow.ifaces == (Try.f3.params.toList ++ Rows.fnExactFreeVarsSpec.plain.varTypes Try.pinned.checked.prog).any (Try.pinned.checked.prog.ifacesRec ·)) = true := by kernel_rfl
theorem ffreev_mapsOut : (Rows.fnExactFreeVarsRow.mapsOut == Try.pinned.checked.prog.mapsAmong Try.f3.resultTypes.toList) = true := by kernel_rfl
theorem ffreev_loops : (Rows.fnExactFreeVarsRow.loops == (Try.f3.params.toList ++ Rows.fnExactFreeVarsSpec.plain.varTypes Try.pinned.checked.prog).any (Try.pinned.checked.prog.loopsFrom ·)) = true := by kernel_rfl
theorem ffreev_wide : (Rows.fnExactFreeVarsRow.wideKeys == (Try.f3.params.toList ++ Rows.fnExactFreeVarsSpec.plain.varTypes Try.pinned.checked.prog ++ Try.f3.resultTypes.toList).any (Try.pinned.checked.prog.wideKeysFrom ·)) = true := by kernel_rfl
theorem ffreev_vars : Rows.fnExactFreeVarsSpec.vars.all (Try.pinned.checked.prog.varReadable ·) = true := by kernel_rfl
theorem ffreev_res : Try.f3.resultTypes.all (fun t => Try.pinned.checked.prog.readableRec t && decide (t < Try.pinned.checked.prog.types.size)) = true := by kernel_rfl
theorem ffreev_ifacesOut : (Rows.fnExactFreeVarsRow.ifacesOut == Try.f3.resultTypes.toList.any (Try.pinned.checked.prog.ifacesRec ·)) = true := by kernel_rfl
theorem ffreev_loopsOut : (Rows.fnExactFreeVarsRow.loopsOut == Try.f3.resultTypes.toList.any (Try.pinned.checked.prog.loopsFrom ·)) = true := by kernel_rfl
theorem ffreev_keys : (Rows.fnExactFreeVarsRow.plainKeys == Try.pinned.checked.prog.plainKeys) = true := by kernel_rfl
theorem ffreev_lifted : (Rows.fnExactFreeVarsRow.lifted == Try.pinned.checked.prog.liftsFinal) = true := by kernel_rfl
theorem ffreev_make : (Try.pinned.checked.prog.make == some Rows.fnExactFreeVarsRow.make) = true := by kernel_rfl
theorem ffreev_pinned : (Rows.fnExactFreeVarsRow.pinned == Rows.fnExactFreeVarsRow.pinnedBy) = true := by kernel_rfl
theorem ffreev_veiled : (Rows.fnExactFreeVarsRow.veiled == (Try.f3.params.toList ++ Rows.fnExactFreeVarsSpec.plain.varTypes Try.pinned.checked.prog ++ Try.f3.resultTypes.toList).any (Try.pinned.checked.prog.veiledRec ·)) = true := by kernel_rfl
theorem ffreev_fits : Rows.fnExactFreeVarsRow.veiledFits Try.pinned.checked.prog Try.f3.params.toList (Try.f3.params.toList ++ Rows.fnExactFreeVarsSpec.plain.varTypes Try.pinned.checked.prog ++ Try.f3.resultTypes.toList) = true := by kernel_rfl


set_option maxRecDepth 100000 in
theorem ffreev_all : joinedFacts Try.pinned.checked.prog 3 Try.f3 Rows.fnExactFreeVarsSpec Rows.fnExactFreeVarsRow = true := by
  unfold joinedFacts
  exact andT (andT (andT (andT (andT (andT (andT (andT (andT (andT (andT (andT (andT (andT (andT (andT (andT (andT (andT (andT (andT (andT (andT (andT (andT (andT (andT (andT (andT (andT (andT
    ffreev_wf fact_laid) fact_maps) ffreev_params) ffreev_tie) rfl) fact_stops) rfl) fact_knobs) ffreev_place) ffreev_unf) ffreev_rec) ffreev_named) ffreev_maps) ffreev_ifaces) ffreev_mapsOut) ffreev_loops) ffreev_wide) ffreev_vars) ffreev_res) ffreev_ifacesOut) ffreev_loopsOut) ffreev_keys) rfl) fact_heard) fact_enter) ffreev_lifted) ffreev_make) rfl) ffreev_pinned) ffreev_veiled) ffreev_fits

theorem ffreev_name : Try.pinned.checked.prog.funcNamed Rows.fnExactFreeVarsRow.func = some 3 := by kernel_rfl
theorem ffreev_inst : Try.f3.isInstance Try.pinned.checked.prog Rows.fnExactFreeVarsRow.origin Rows.fnExactFreeVarsRow.targs := of_decide_eq_true (by kernel_rfl)
theorem ffreev_wrap : Try.f3.isWrapper Try.pinned.checked.prog Rows.fnExactFreeVarsRow.wrapper Rows.fnExactFreeVarsRow.mainSum := by unfold Func.isWrapper; first | (rw [if_pos (by decide +kernel)]; kernel_rfl) | (rw [if_neg (by decide +kernel)]; exact ⟨rfl, rfl⟩)

end Go.Proofs.Ytmofoeljajdhmaa
