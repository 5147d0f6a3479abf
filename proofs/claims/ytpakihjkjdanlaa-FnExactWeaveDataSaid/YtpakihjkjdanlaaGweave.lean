/- The closed facts of the row of WeaveData, together. -/
import Derived.Test.YtpakihjkjdanlaaFweave
namespace Go.Proofs.Ytpakihjkjdanlaa

set_option maxRecDepth 100000 in
theorem fweave_all : joinedFacts Try.pinned.checked.prog 10 Try.f10 Rows.fnExactWeaveDataSpec Rows.fnExactWeaveDataRow = true := by
  unfold joinedFacts
  exact andT (andT (andT (andT (andT (andT (andT (andT (andT (andT (andT (andT (andT (andT (andT (andT (andT (andT (andT (andT (andT (andT (andT (andT (andT (andT (andT (andT (andT (andT (andT
    fweave_wf fact_laid) fact_maps) fweave_params) fweave_tie) rfl) fact_stops) rfl) fact_knobs) fweave_place) fweave_unf) fweave_rec) fweave_named) fweave_maps) fweave_ifaces) fweave_mapsOut) fweave_loops) fweave_wide) fweave_vars) fweave_res) fweave_ifacesOut) fweave_loopsOut) fweave_keys) rfl) fact_heard) fact_enter) fweave_lifted) fweave_make) rfl) fweave_pinned) fweave_veiled) fweave_fits

theorem fweave_name : Try.pinned.checked.prog.funcNamed Rows.fnExactWeaveDataRow.func = some 10 := by kernel_rfl
theorem fweave_inst : Try.f10.isInstance Try.pinned.checked.prog Rows.fnExactWeaveDataRow.origin Rows.fnExactWeaveDataRow.targs := of_decide_eq_true (by kernel_rfl)
theorem fweave_wrap : Try.f10.isWrapper Try.pinned.checked.prog Rows.fnExactWeaveDataRow.wrapper Rows.fnExactWeaveDataRow.mainSum := by unfold Func.isWrapper; first | (rw [if_pos (by decide +kernel)]; kernel_rfl) | (rw [if_neg (by decide +kernel)]; exact ⟨rfl, rfl⟩)

end Go.Proofs.Ytpakihjkjdanlaa
