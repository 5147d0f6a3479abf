/- The closed facts of the row of MergeLengths, together. -/
import Derived.Test.YtpakihjkjdanlabFmerge
namespace Go.Proofs.Ytpakihjkjdanlab

set_option maxRecDepth 100000 in
theorem fmerge_all : joinedFacts Try.pinned.checked.prog 10 Try.f10 Rows.fnExactMergeLengthsSpec Rows.fnExactMergeLengthsRow = true := by
  unfold joinedFacts
  exact andT (andT (andT (andT (andT (andT (andT (andT (andT (andT (andT (andT (andT (andT (andT (andT (andT (andT (andT (andT (andT (andT (andT (andT (andT (andT (andT (andT (andT (andT (andT
    fmerge_wf fact_laid) fact_maps) fmerge_params) fmerge_tie) rfl) fact_stops) rfl) fact_knobs) fmerge_place) fmerge_unf) fmerge_rec) fmerge_named) fmerge_maps) fmerge_ifaces) fmerge_mapsOut) fmerge_loops) fmerge_wide) fmerge_vars) fmerge_res) fmerge_ifacesOut) fmerge_loopsOut) fmerge_keys) rfl) fact_heard) fact_enter) fmerge_lifted) fmerge_make) rfl) fmerge_pinned) fmerge_veiled) fmerge_fits

theorem fmerge_name : Try.pinned.checked.prog.funcNamed Rows.fnExactMergeLengthsRow.func = some 10 := by kernel_rfl
theorem fmerge_inst : Try.f10.isInstance Try.pinned.checked.prog Rows.fnExactMergeLengthsRow.origin Rows.fnExactMergeLengthsRow.targs := of_decide_eq_true (by kernel_rfl)
theorem fmerge_wrap : Try.f10.isWrapper Try.pinned.checked.prog Rows.fnExactMergeLengthsRow.wrapper Rows.fnExactMergeLengthsRow.mainSum := by unfold Func.isWrapper; first | (rw [if_pos (by decide +kernel)]; kernel_rfl) | (rw [if_neg (by decide +kernel)]; exact ⟨rfl, rfl⟩)

end Go.Proofs.Ytpakihjkjdanlab
