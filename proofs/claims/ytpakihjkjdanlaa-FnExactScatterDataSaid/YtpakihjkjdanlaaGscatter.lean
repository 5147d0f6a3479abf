/- The closed facts of the row of ScatterData, together. -/
import Derived.Test.YtpakihjkjdanlaaFscatter
namespace Go.Proofs.Ytpakihjkjdanlaa

set_option maxRecDepth 100000 in
theorem fscatter_all : joinedFacts Try.pinned.checked.prog 6 Try.f6 Rows.fnExactScatterDataSpec Rows.fnExactScatterDataRow = true := by
  unfold joinedFacts
  exact andT (andT (andT (andT (andT (andT (andT (andT (andT (andT (andT (andT (andT (andT (andT (andT (andT (andT (andT (andT (andT (andT (andT (andT (andT (andT (andT (andT (andT (andT (andT
    fscatter_wf fact_laid) fact_maps) fscatter_params) fscatter_tie) rfl) fact_stops) rfl) fact_knobs) fscatter_place) fscatter_unf) fscatter_rec) fscatter_named) fscatter_maps) fscatter_ifaces) fscatter_mapsOut) fscatter_loops) fscatter_wide) fscatter_vars) fscatter_res) fscatter_ifacesOut) fscatter_loopsOut) fscatter_keys) rfl) fact_heard) fact_enter) fscatter_lifted) fscatter_make) rfl) fscatter_pinned) fscatter_veiled) fscatter_fits

theorem fscatter_name : Try.pinned.checked.prog.funcNamed Rows.fnExactScatterDataRow.func = some 6 := by kernel_rfl
theorem fscatter_inst : Try.f6.isInstance Try.pinned.checked.prog Rows.fnExactScatterDataRow.origin Rows.fnExactScatterDataRow.targs := of_decide_eq_true (by kernel_rfl)
theorem fscatter_wrap : Try.f6.isWrapper Try.pinned.checked.prog Rows.fnExactScatterDataRow.wrapper Rows.fnExactScatterDataRow.mainSum := by unfold Func.isWrapper; first | (rw [if_pos (by decide +kernel)]; kernel_rfl) | (rw [if_neg (by decide +kernel)]; exact ⟨rfl, rfl⟩)

end Go.Proofs.Ytpakihjkjdanlaa
