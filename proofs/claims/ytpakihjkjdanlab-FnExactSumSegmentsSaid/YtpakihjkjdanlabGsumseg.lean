/- The closed facts of the row of SumSegments, together. -/
import Derived.Test.YtpakihjkjdanlabFsumseg
namespace Go.Proofs.Ytpakihjkjdanlab

set_option maxRecDepth 100000 in
theorem fsumseg_all : joinedFacts Try.pinned.checked.prog 5 Try.f5 Rows.fnExactSumSegmentsSpec Rows.fnExactSumSegmentsRow = true := by
  unfold joinedFacts
  exact andT (andT (andT (andT (andT (andT (andT (andT (andT (andT (andT (andT (andT (andT (andT (andT (andT (andT (andT (andT (andT (andT (andT (andT (andT (andT (andT (andT (andT (andT (andT
    fsumseg_wf fact_laid) fact_maps) fsumseg_params) fsumseg_tie) rfl) fact_stops) rfl) fact_knobs) fsumseg_place) fsumseg_unf) fsumseg_rec) fsumseg_named) fsumseg_maps) fsumseg_ifaces) fsumseg_mapsOut) fsumseg_loops) fsumseg_wide) fsumseg_vars) fsumseg_res) fsumseg_ifacesOut) fsumseg_loopsOut) fsumseg_keys) rfl) fact_heard) fact_enter) fsumseg_lifted) fsumseg_make) rfl) fsumseg_pinned) fsumseg_veiled) fsumseg_fits

theorem fsumseg_name : Try.pinned.checked.prog.funcNamed Rows.fnExactSumSegmentsRow.func = some 5 := by kernel_rfl
theorem fsumseg_inst : Try.f5.isInstance Try.pinned.checked.prog Rows.fnExactSumSegmentsRow.origin Rows.fnExactSumSegmentsRow.targs := of_decide_eq_true (by kernel_rfl)
theorem fsumseg_wrap : Try.f5.isWrapper Try.pinned.checked.prog Rows.fnExactSumSegmentsRow.wrapper Rows.fnExactSumSegmentsRow.mainSum := by unfold Func.isWrapper; first | (rw [if_pos (by decide +kernel)]; kernel_rfl) | (rw [if_neg (by decide +kernel)]; exact ⟨rfl, rfl⟩)

end Go.Proofs.Ytpakihjkjdanlab
