/- The closed facts of the row of PickSegments, together. -/
import Derived.Test.YtpakihjkjdanlaaFpick
namespace Go.Proofs.Ytpakihjkjdanlaa

set_option maxRecDepth 100000 in
theorem fpick_all : joinedFacts Try.pinned.checked.prog 9 Try.f9 Rows.fnExactPickSegmentsSpec Rows.fnExactPickSegmentsRow = true := by
  unfold joinedFacts
  exact andT (andT (andT (andT (andT (andT (andT (andT (andT (andT (andT (andT (andT (andT (andT (andT (andT (andT (andT (andT (andT (andT (andT (andT (andT (andT (andT (andT (andT (andT (andT
    fpick_wf fact_laid) fact_maps) fpick_params) fpick_tie) rfl) fact_stops) rfl) fact_knobs) fpick_place) fpick_unf) fpick_rec) fpick_named) fpick_maps) fpick_ifaces) fpick_mapsOut) fpick_loops) fpick_wide) fpick_vars) fpick_res) fpick_ifacesOut) fpick_loopsOut) fpick_keys) rfl) fact_heard) fact_enter) fpick_lifted) fpick_make) rfl) fpick_pinned) fpick_veiled) fpick_fits

theorem fpick_name : Try.pinned.checked.prog.funcNamed Rows.fnExactPickSegmentsRow.func = some 9 := by kernel_rfl
theorem fpick_inst : Try.f9.isInstance Try.pinned.checked.prog Rows.fnExactPickSegmentsRow.origin Rows.fnExactPickSegmentsRow.targs := of_decide_eq_true (by kernel_rfl)
theorem fpick_wrap : Try.f9.isWrapper Try.pinned.checked.prog Rows.fnExactPickSegmentsRow.wrapper Rows.fnExactPickSegmentsRow.mainSum := by unfold Func.isWrapper; first | (rw [if_pos (by decide +kernel)]; kernel_rfl) | (rw [if_neg (by decide +kernel)]; exact ⟨rfl, rfl⟩)

end Go.Proofs.Ytpakihjkjdanlaa
