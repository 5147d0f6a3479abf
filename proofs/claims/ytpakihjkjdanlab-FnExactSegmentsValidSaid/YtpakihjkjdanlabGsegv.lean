/- The closed facts of the row of SegmentsValid, together. -/
import Derived.Test.YtpakihjkjdanlabFsegv
namespace Go.Proofs.Ytpakihjkjdanlab

set_option maxRecDepth 100000 in
theorem fsegv_all : joinedFacts Try.pinned.checked.prog 3 Try.f3 Rows.fnExactSegmentsValidSpec Rows.fnExactSegmentsValidRow = true := by
  unfold joinedFacts
  exact andT (andT (andT (andT (andT (andT (andT (andT (andT (andT (andT (andT (andT (andT (andT (andT (andT (andT (andT (andT (andT (andT (andT (andT (andT (andT (andT (andT (andT (andT (andT
    fsegv_wf fact_laid) fact_maps) fsegv_params) fsegv_tie) rfl) fact_stops) rfl) fact_knobs) fsegv_place) fsegv_unf) fsegv_rec) fsegv_named) fsegv_maps) fsegv_ifaces) fsegv_mapsOut) fsegv_loops) fsegv_wide) fsegv_vars) fsegv_res) fsegv_ifacesOut) fsegv_loopsOut) fsegv_keys) rfl) fact_heard) fact_enter) fsegv_lifted) fsegv_make) rfl) fsegv_pinned) fsegv_veiled) fsegv_fits

theorem fsegv_name : Try.pinned.checked.prog.funcNamed Rows.fnExactSegmentsValidRow.func = some 3 := by kernel_rfl
theorem fsegv_inst : Try.f3.isInstance Try.pinned.checked.prog Rows.fnExactSegmentsValidRow.origin Rows.fnExactSegmentsValidRow.targs := of_decide_eq_true (by kernel_rfl)
theorem fsegv_wrap : Try.f3.isWrapper Try.pinned.checked.prog Rows.fnExactSegmentsValidRow.wrapper Rows.fnExactSegmentsValidRow.mainSum := by unfold Func.isWrapper; first | (rw [if_pos (by decide +kernel)]; kernel_rfl) | (rw [if_neg (by decide +kernel)]; exact ⟨rfl, rfl⟩)

end Go.Proofs.Ytpakihjkjdanlab
