/- The closed facts of the row of StartsOf, together. -/
import Derived.Test.YtpakihjkjdanlabFstarts
namespace Go.Proofs.Ytpakihjkjdanlab

set_option maxRecDepth 100000 in
theorem fstarts_all : joinedFacts Try.pinned.checked.prog 4 Try.f4 Rows.fnExactStartsOfSpec Rows.fnExactStartsOfRow = true := by
  unfold joinedFacts
  exact andT (andT (andT (andT (andT (andT (andT (andT (andT (andT (andT (andT (andT (andT (andT (andT (andT (andT (andT (andT (andT (andT (andT (andT (andT (andT (andT (andT (andT (andT (andT
    fstarts_wf fact_laid) fact_maps) fstarts_params) fstarts_tie) rfl) fact_stops) rfl) fact_knobs) fstarts_place) fstarts_unf) fstarts_rec) fstarts_named) fstarts_maps) fstarts_ifaces) fstarts_mapsOut) fstarts_loops) fstarts_wide) fstarts_vars) fstarts_res) fstarts_ifacesOut) fstarts_loopsOut) fstarts_keys) rfl) fact_heard) fact_enter) fstarts_lifted) fstarts_make) rfl) fstarts_pinned) fstarts_veiled) fstarts_fits

theorem fstarts_name : Try.pinned.checked.prog.funcNamed Rows.fnExactStartsOfRow.func = some 4 := by kernel_rfl
theorem fstarts_inst : Try.f4.isInstance Try.pinned.checked.prog Rows.fnExactStartsOfRow.origin Rows.fnExactStartsOfRow.targs := of_decide_eq_true (by kernel_rfl)
theorem fstarts_wrap : Try.f4.isWrapper Try.pinned.checked.prog Rows.fnExactStartsOfRow.wrapper Rows.fnExactStartsOfRow.mainSum := by unfold Func.isWrapper; first | (rw [if_pos (by decide +kernel)]; kernel_rfl) | (rw [if_neg (by decide +kernel)]; exact ⟨rfl, rfl⟩)

end Go.Proofs.Ytpakihjkjdanlab
