/- The closed facts of the row of Gather, together. -/
import Derived.Test.YtpakihjkjdanlaaFdgather
namespace Go.Proofs.Ytpakihjkjdanlaa

set_option maxRecDepth 100000 in
theorem fdgather_all : joinedFacts Try.pinned.checked.prog 11 Try.f11 Rows.fnGatherSpec Rows.fnGatherRow = true := by
  unfold joinedFacts
  exact andT (andT (andT (andT (andT (andT (andT (andT (andT (andT (andT (andT (andT (andT (andT (andT (andT (andT (andT (andT (andT (andT (andT (andT (andT (andT (andT (andT (andT (andT (andT
    fdgather_wf fact_laid) fact_maps) fdgather_params) fdgather_tie) rfl) fact_stops) rfl) fact_knobs) fdgather_place) fdgather_unf) fdgather_rec) fdgather_named) fdgather_maps) fdgather_ifaces) fdgather_mapsOut) fdgather_loops) fdgather_wide) fdgather_vars) fdgather_res) fdgather_ifacesOut) fdgather_loopsOut) fdgather_keys) rfl) fact_heard) fact_enter) fdgather_lifted) fdgather_make) rfl) fdgather_pinned) fdgather_veiled) fdgather_fits

theorem fdgather_name : Try.pinned.checked.prog.funcNamed Rows.fnGatherRow.func = some 11 := by kernel_rfl
theorem fdgather_inst : Try.f11.isInstance Try.pinned.checked.prog Rows.fnGatherRow.origin Rows.fnGatherRow.targs := of_decide_eq_true (by kernel_rfl)
theorem fdgather_wrap : Try.f11.isWrapper Try.pinned.checked.prog Rows.fnGatherRow.wrapper Rows.fnGatherRow.mainSum := by unfold Func.isWrapper; first | (rw [if_pos (by decide +kernel)]; kernel_rfl) | (rw [if_neg (by decide +kernel)]; exact ⟨rfl, rfl⟩)

end Go.Proofs.Ytpakihjkjdanlaa
