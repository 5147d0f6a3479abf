/- The closed facts of the row of Most, together. -/
import Derived.Test.YtpakihjkjdanlabFdmost
namespace Go.Proofs.Ytpakihjkjdanlab

set_option maxRecDepth 100000 in
theorem fdmost_all : joinedFacts Try.pinned.checked.prog 11 Try.f11 Rows.fnMostSpec Rows.fnMostRow = true := by
  unfold joinedFacts
  exact andT (andT (andT (andT (andT (andT (andT (andT (andT (andT (andT (andT (andT (andT (andT (andT (andT (andT (andT (andT (andT (andT (andT (andT (andT (andT (andT (andT (andT (andT (andT
    fdmost_wf fact_laid) fact_maps) fdmost_params) fdmost_tie) rfl) fact_stops) rfl) fact_knobs) fdmost_place) fdmost_unf) fdmost_rec) fdmost_named) fdmost_maps) fdmost_ifaces) fdmost_mapsOut) fdmost_loops) fdmost_wide) fdmost_vars) fdmost_res) fdmost_ifacesOut) fdmost_loopsOut) fdmost_keys) rfl) fact_heard) fact_enter) fdmost_lifted) fdmost_make) rfl) fdmost_pinned) fdmost_veiled) fdmost_fits

theorem fdmost_name : Try.pinned.checked.prog.funcNamed Rows.fnMostRow.func = some 11 := by kernel_rfl
theorem fdmost_inst : Try.f11.isInstance Try.pinned.checked.prog Rows.fnMostRow.origin Rows.fnMostRow.targs := of_decide_eq_true (by kernel_rfl)
theorem fdmost_wrap : Try.f11.isWrapper Try.pinned.checked.prog Rows.fnMostRow.wrapper Rows.fnMostRow.mainSum := by unfold Func.isWrapper; first | (rw [if_pos (by decide +kernel)]; kernel_rfl) | (rw [if_neg (by decide +kernel)]; exact ⟨rfl, rfl⟩)

end Go.Proofs.Ytpakihjkjdanlab
