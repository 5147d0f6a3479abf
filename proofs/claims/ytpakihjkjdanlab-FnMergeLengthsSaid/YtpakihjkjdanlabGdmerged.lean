/- The closed facts of the row of MergeLengths, together. -/
import Derived.Test.YtpakihjkjdanlabFdmerged
namespace Go.Proofs.Ytpakihjkjdanlab

set_option maxRecDepth 100000 in
theorem fdmerged_all : joinedFacts Try.pinned.checked.prog 14 Try.f14 Rows.fnMergeLengthsSpec Rows.fnMergeLengthsRow = true := by
  unfold joinedFacts
  exact andT (andT (andT (andT (andT (andT (andT (andT (andT (andT (andT (andT (andT (andT (andT (andT (andT (andT (andT (andT (andT (andT (andT (andT (andT (andT (andT (andT (andT (andT (andT
    fdmerged_wf fact_laid) fact_maps) fdmerged_params) fdmerged_tie) rfl) fact_stops) rfl) fact_knobs) fdmerged_place) fdmerged_unf) fdmerged_rec) fdmerged_named) fdmerged_maps) fdmerged_ifaces) fdmerged_mapsOut) fdmerged_loops) fdmerged_wide) fdmerged_vars) fdmerged_res) fdmerged_ifacesOut) fdmerged_loopsOut) fdmerged_keys) rfl) fact_heard) fact_enter) fdmerged_lifted) fdmerged_make) rfl) fdmerged_pinned) fdmerged_veiled) fdmerged_fits

theorem fdmerged_name : Try.pinned.checked.prog.funcNamed Rows.fnMergeLengthsRow.func = some 14 := by kernel_rfl
theorem fdmerged_inst : Try.f14.isInstance Try.pinned.checked.prog Rows.fnMergeLengthsRow.origin Rows.fnMergeLengthsRow.targs := of_decide_eq_true (by kernel_rfl)
theorem fdmerged_wrap : Try.f14.isWrapper Try.pinned.checked.prog Rows.fnMergeLengthsRow.wrapper Rows.fnMergeLengthsRow.mainSum := by unfold Func.isWrapper; first | (rw [if_pos (by decide +kernel)]; kernel_rfl) | (rw [if_neg (by decide +kernel)]; exact ⟨rfl, rfl⟩)

end Go.Proofs.Ytpakihjkjdanlab
