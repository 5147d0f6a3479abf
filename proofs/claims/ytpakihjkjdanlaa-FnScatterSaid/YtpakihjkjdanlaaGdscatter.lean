/- The closed facts of the row of Scatter, together. -/
import Derived.Test.YtpakihjkjdanlaaFdscatter
namespace Go.Proofs.Ytpakihjkjdanlaa

set_option maxRecDepth 100000 in
theorem fdscatter_all : joinedFacts Try.pinned.checked.prog 12 Try.f12 Rows.fnScatterSpec Rows.fnScatterRow = true := by
  unfold joinedFacts
  exact andT (andT (andT (andT (andT (andT (andT (andT (andT (andT (andT (andT (andT (andT (andT (andT (andT (andT (andT (andT (andT (andT (andT (andT (andT (andT (andT (andT (andT (andT (andT
    fdscatter_wf fact_laid) fact_maps) fdscatter_params) fdscatter_tie) rfl) fact_stops) rfl) fact_knobs) fdscatter_place) fdscatter_unf) fdscatter_rec) fdscatter_named) fdscatter_maps) fdscatter_ifaces) fdscatter_mapsOut) fdscatter_loops) fdscatter_wide) fdscatter_vars) fdscatter_res) fdscatter_ifacesOut) fdscatter_loopsOut) fdscatter_keys) rfl) fact_heard) fact_enter) fdscatter_lifted) fdscatter_make) rfl) fdscatter_pinned) fdscatter_veiled) fdscatter_fits

theorem fdscatter_name : Try.pinned.checked.prog.funcNamed Rows.fnScatterRow.func = some 12 := by kernel_rfl
theorem fdscatter_inst : Try.f12.isInstance Try.pinned.checked.prog Rows.fnScatterRow.origin Rows.fnScatterRow.targs := of_decide_eq_true (by kernel_rfl)
theorem fdscatter_wrap : Try.f12.isWrapper Try.pinned.checked.prog Rows.fnScatterRow.wrapper Rows.fnScatterRow.mainSum := by unfold Func.isWrapper; first | (rw [if_pos (by decide +kernel)]; kernel_rfl) | (rw [if_neg (by decide +kernel)]; exact ⟨rfl, rfl⟩)

end Go.Proofs.Ytpakihjkjdanlaa
