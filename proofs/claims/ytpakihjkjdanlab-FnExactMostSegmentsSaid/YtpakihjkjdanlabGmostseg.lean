/- The closed facts of the row of MostSegments, together. -/
import Derived.Test.YtpakihjkjdanlabFmostseg
namespace Go.Proofs.Ytpakihjkjdanlab

set_option maxRecDepth 100000 in
theorem fmostseg_all : joinedFacts Try.pinned.checked.prog 6 Try.f6 Rows.fnExactMostSegmentsSpec Rows.fnExactMostSegmentsRow = true := by
  unfold joinedFacts
  exact andT (andT (andT (andT (andT (andT (andT (andT (andT (andT (andT (andT (andT (andT (andT (andT (andT (andT (andT (andT (andT (andT (andT (andT (andT (andT (andT (andT (andT (andT (andT
    fmostseg_wf fact_laid) fact_maps) fmostseg_params) fmostseg_tie) rfl) fact_stops) rfl) fact_knobs) fmostseg_place) fmostseg_unf) fmostseg_rec) fmostseg_named) fmostseg_maps) fmostseg_ifaces) fmostseg_mapsOut) fmostseg_loops) fmostseg_wide) fmostseg_vars) fmostseg_res) fmostseg_ifacesOut) fmostseg_loopsOut) fmostseg_keys) rfl) fact_heard) fact_enter) fmostseg_lifted) fmostseg_make) rfl) fmostseg_pinned) fmostseg_veiled) fmostseg_fits

theorem fmostseg_name : Try.pinned.checked.prog.funcNamed Rows.fnExactMostSegmentsRow.func = some 6 := by kernel_rfl
theorem fmostseg_inst : Try.f6.isInstance Try.pinned.checked.prog Rows.fnExactMostSegmentsRow.origin Rows.fnExactMostSegmentsRow.targs := of_decide_eq_true (by kernel_rfl)
theorem fmostseg_wrap : Try.f6.isWrapper Try.pinned.checked.prog Rows.fnExactMostSegmentsRow.wrapper Rows.fnExactMostSegmentsRow.mainSum := by unfold Func.isWrapper; first | (rw [if_pos (by decide +kernel)]; kernel_rfl) | (rw [if_neg (by decide +kernel)]; exact ⟨rfl, rfl⟩)

end Go.Proofs.Ytpakihjkjdanlab
