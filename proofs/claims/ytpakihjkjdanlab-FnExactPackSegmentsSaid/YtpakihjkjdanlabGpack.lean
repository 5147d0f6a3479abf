/- The closed facts of the row of PackSegments, together. -/
import Derived.Test.YtpakihjkjdanlabFpack
namespace Go.Proofs.Ytpakihjkjdanlab

set_option maxRecDepth 100000 in
theorem fpack_all : joinedFacts Try.pinned.checked.prog 9 Try.f9 Rows.fnExactPackSegmentsSpec Rows.fnExactPackSegmentsRow = true := by
  unfold joinedFacts
  exact andT (andT (andT (andT (andT (andT (andT (andT (andT (andT (andT (andT (andT (andT (andT (andT (andT (andT (andT (andT (andT (andT (andT (andT (andT (andT (andT (andT (andT (andT (andT
    fpack_wf fact_laid) fact_maps) fpack_params) fpack_tie) rfl) fact_stops) rfl) fact_knobs) fpack_place) fpack_unf) fpack_rec) fpack_named) fpack_maps) fpack_ifaces) fpack_mapsOut) fpack_loops) fpack_wide) fpack_vars) fpack_res) fpack_ifacesOut) fpack_loopsOut) fpack_keys) rfl) fact_heard) fact_enter) fpack_lifted) fpack_make) rfl) fpack_pinned) fpack_veiled) fpack_fits

theorem fpack_name : Try.pinned.checked.prog.funcNamed Rows.fnExactPackSegmentsRow.func = some 9 := by kernel_rfl
theorem fpack_inst : Try.f9.isInstance Try.pinned.checked.prog Rows.fnExactPackSegmentsRow.origin Rows.fnExactPackSegmentsRow.targs := of_decide_eq_true (by kernel_rfl)
theorem fpack_wrap : Try.f9.isWrapper Try.pinned.checked.prog Rows.fnExactPackSegmentsRow.wrapper Rows.fnExactPackSegmentsRow.mainSum := by unfold Func.isWrapper; first | (rw [if_pos (by decide +kernel)]; kernel_rfl) | (rw [if_neg (by decide +kernel)]; exact ⟨rfl, rfl⟩)

end Go.Proofs.Ytpakihjkjdanlab
