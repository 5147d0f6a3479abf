/- The closed facts of the row of IsPermutation, together. -/
import Derived.Test.YtpakihjkjdanlaaFisperm
namespace Go.Proofs.Ytpakihjkjdanlaa

set_option maxRecDepth 100000 in
theorem fisperm_all : joinedFacts Try.pinned.checked.prog 4 Try.f4 Rows.fnExactIsPermutationSpec Rows.fnExactIsPermutationRow = true := by
  unfold joinedFacts
  exact andT (andT (andT (andT (andT (andT (andT (andT (andT (andT (andT (andT (andT (andT (andT (andT (andT (andT (andT (andT (andT (andT (andT (andT (andT (andT (andT (andT (andT (andT (andT
    fisperm_wf fact_laid) fact_maps) fisperm_params) fisperm_tie) rfl) fact_stops) rfl) fact_knobs) fisperm_place) fisperm_unf) fisperm_rec) fisperm_named) fisperm_maps) fisperm_ifaces) fisperm_mapsOut) fisperm_loops) fisperm_wide) fisperm_vars) fisperm_res) fisperm_ifacesOut) fisperm_loopsOut) fisperm_keys) rfl) fact_heard) fact_enter) fisperm_lifted) fisperm_make) rfl) fisperm_pinned) fisperm_veiled) fisperm_fits

theorem fisperm_name : Try.pinned.checked.prog.funcNamed Rows.fnExactIsPermutationRow.func = some 4 := by kernel_rfl
theorem fisperm_inst : Try.f4.isInstance Try.pinned.checked.prog Rows.fnExactIsPermutationRow.origin Rows.fnExactIsPermutationRow.targs := of_decide_eq_true (by kernel_rfl)
theorem fisperm_wrap : Try.f4.isWrapper Try.pinned.checked.prog Rows.fnExactIsPermutationRow.wrapper Rows.fnExactIsPermutationRow.mainSum := by unfold Func.isWrapper; first | (rw [if_pos (by decide +kernel)]; kernel_rfl) | (rw [if_neg (by decide +kernel)]; exact ⟨rfl, rfl⟩)

end Go.Proofs.Ytpakihjkjdanlaa
