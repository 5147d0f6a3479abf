/- The closed facts of the row of Pack, together. -/
import Derived.Test.YtpakihjkjdanlabFdpackd
namespace Go.Proofs.Ytpakihjkjdanlab

set_option maxRecDepth 100000 in
theorem fdpackd_all : joinedFacts Try.pinned.checked.prog 13 Try.f13 Rows.fnPackSpec Rows.fnPackRow = true := by
  unfold joinedFacts
  exact andT (andT (andT (andT (andT (andT (andT (andT (andT (andT (andT (andT (andT (andT (andT (andT (andT (andT (andT (andT (andT (andT (andT (andT (andT (andT (andT (andT (andT (andT (andT
    fdpackd_wf fact_laid) fact_maps) fdpackd_params) fdpackd_tie) rfl) fact_stops) rfl) fact_knobs) fdpackd_place) fdpackd_unf) fdpackd_rec) fdpackd_named) fdpackd_maps) fdpackd_ifaces) fdpackd_mapsOut) fdpackd_loops) fdpackd_wide) fdpackd_vars) fdpackd_res) fdpackd_ifacesOut) fdpackd_loopsOut) fdpackd_keys) rfl) fact_heard) fact_enter) fdpackd_lifted) fdpackd_make) rfl) fdpackd_pinned) fdpackd_veiled) fdpackd_fits

theorem fdpackd_name : Try.pinned.checked.prog.funcNamed Rows.fnPackRow.func = some 13 := by kernel_rfl
theorem fdpackd_inst : Try.f13.isInstance Try.pinned.checked.prog Rows.fnPackRow.origin Rows.fnPackRow.targs := of_decide_eq_true (by kernel_rfl)
theorem fdpackd_wrap : Try.f13.isWrapper Try.pinned.checked.prog Rows.fnPackRow.wrapper Rows.fnPackRow.mainSum := by unfold Func.isWrapper; first | (rw [if_pos (by decide +kernel)]; kernel_rfl) | (rw [if_neg (by decide +kernel)]; exact ⟨rfl, rfl⟩)

end Go.Proofs.Ytpakihjkjdanlab
