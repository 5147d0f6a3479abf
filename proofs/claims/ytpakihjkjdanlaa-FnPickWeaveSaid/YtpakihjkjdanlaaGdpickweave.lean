/- The closed facts of the row of PickWeave, together. -/
import Derived.Test.YtpakihjkjdanlaaFdpickweave
namespace Go.Proofs.Ytpakihjkjdanlaa

set_option maxRecDepth 100000 in
theorem fdpickweave_all : joinedFacts Try.pinned.checked.prog 14 Try.f14 Rows.fnPickWeaveSpec Rows.fnPickWeaveRow = true := by
  unfold joinedFacts
  exact andT (andT (andT (andT (andT (andT (andT (andT (andT (andT (andT (andT (andT (andT (andT (andT (andT (andT (andT (andT (andT (andT (andT (andT (andT (andT (andT (andT (andT (andT (andT
    fdpickweave_wf fact_laid) fact_maps) fdpickweave_params) fdpickweave_tie) rfl) fact_stops) rfl) fact_knobs) fdpickweave_place) fdpickweave_unf) fdpickweave_rec) fdpickweave_named) fdpickweave_maps) fdpickweave_ifaces) fdpickweave_mapsOut) fdpickweave_loops) fdpickweave_wide) fdpickweave_vars) fdpickweave_res) fdpickweave_ifacesOut) fdpickweave_loopsOut) fdpickweave_keys) rfl) fact_heard) fact_enter) fdpickweave_lifted) fdpickweave_make) rfl) fdpickweave_pinned) fdpickweave_veiled) fdpickweave_fits

theorem fdpickweave_name : Try.pinned.checked.prog.funcNamed Rows.fnPickWeaveRow.func = some 14 := by kernel_rfl
theorem fdpickweave_inst : Try.f14.isInstance Try.pinned.checked.prog Rows.fnPickWeaveRow.origin Rows.fnPickWeaveRow.targs := of_decide_eq_true (by kernel_rfl)
theorem fdpickweave_wrap : Try.f14.isWrapper Try.pinned.checked.prog Rows.fnPickWeaveRow.wrapper Rows.fnPickWeaveRow.mainSum := by unfold Func.isWrapper; first | (rw [if_pos (by decide +kernel)]; kernel_rfl) | (rw [if_neg (by decide +kernel)]; exact ⟨rfl, rfl⟩)

end Go.Proofs.Ytpakihjkjdanlaa
