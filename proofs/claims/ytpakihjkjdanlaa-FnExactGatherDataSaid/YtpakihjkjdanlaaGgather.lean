/- The closed facts of the row of GatherData, together. -/
import Derived.Test.YtpakihjkjdanlaaFgather
namespace Go.Proofs.Ytpakihjkjdanlaa

set_option maxRecDepth 100000 in
theorem fgather_all : joinedFacts Try.pinned.checked.prog 3 Try.f3 Rows.fnExactGatherDataSpec Rows.fnExactGatherDataRow = true := by
  unfold joinedFacts
  exact andT (andT (andT (andT (andT (andT (andT (andT (andT (andT (andT (andT (andT (andT (andT (andT (andT (andT (andT (andT (andT (andT (andT (andT (andT (andT (andT (andT (andT (andT (andT
    fgather_wf fact_laid) fact_maps) fgather_params) fgather_tie) rfl) fact_stops) rfl) fact_knobs) fgather_place) fgather_unf) fgather_rec) fgather_named) fgather_maps) fgather_ifaces) fgather_mapsOut) fgather_loops) fgather_wide) fgather_vars) fgather_res) fgather_ifacesOut) fgather_loopsOut) fgather_keys) rfl) fact_heard) fact_enter) fgather_lifted) fgather_make) rfl) fgather_pinned) fgather_veiled) fgather_fits

theorem fgather_name : Try.pinned.checked.prog.funcNamed Rows.fnExactGatherDataRow.func = some 3 := by kernel_rfl
theorem fgather_inst : Try.f3.isInstance Try.pinned.checked.prog Rows.fnExactGatherDataRow.origin Rows.fnExactGatherDataRow.targs := of_decide_eq_true (by kernel_rfl)
theorem fgather_wrap : Try.f3.isWrapper Try.pinned.checked.prog Rows.fnExactGatherDataRow.wrapper Rows.fnExactGatherDataRow.mainSum := by unfold Func.isWrapper; first | (rw [if_pos (by decide +kernel)]; kernel_rfl) | (rw [if_neg (by decide +kernel)]; exact ⟨rfl, rfl⟩)

end Go.Proofs.Ytpakihjkjdanlaa
