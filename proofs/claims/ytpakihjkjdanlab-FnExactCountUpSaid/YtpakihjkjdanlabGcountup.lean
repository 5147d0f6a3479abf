/- The closed facts of the row of CountUp, together. -/
import Derived.Test.YtpakihjkjdanlabFcountup
namespace Go.Proofs.Ytpakihjkjdanlab

set_option maxRecDepth 100000 in
theorem fcountup_all : joinedFacts Try.pinned.checked.prog 8 Try.f8 Rows.fnExactCountUpSpec Rows.fnExactCountUpRow = true := by
  unfold joinedFacts
  exact andT (andT (andT (andT (andT (andT (andT (andT (andT (andT (andT (andT (andT (andT (andT (andT (andT (andT (andT (andT (andT (andT (andT (andT (andT (andT (andT (andT (andT (andT (andT
    fcountup_wf fact_laid) fact_maps) fcountup_params) fcountup_tie) rfl) fact_stops) rfl) fact_knobs) fcountup_place) fcountup_unf) fcountup_rec) fcountup_named) fcountup_maps) fcountup_ifaces) fcountup_mapsOut) fcountup_loops) fcountup_wide) fcountup_vars) fcountup_res) fcountup_ifacesOut) fcountup_loopsOut) fcountup_keys) rfl) fact_heard) fact_enter) fcountup_lifted) fcountup_make) rfl) fcountup_pinned) fcountup_veiled) fcountup_fits

theorem fcountup_name : Try.pinned.checked.prog.funcNamed Rows.fnExactCountUpRow.func = some 8 := by kernel_rfl
theorem fcountup_inst : Try.f8.isInstance Try.pinned.checked.prog Rows.fnExactCountUpRow.origin Rows.fnExactCountUpRow.targs := of_decide_eq_true (by kernel_rfl)
theorem fcountup_wrap : Try.f8.isWrapper Try.pinned.checked.prog Rows.fnExactCountUpRow.wrapper Rows.fnExactCountUpRow.mainSum := by unfold Func.isWrapper; first | (rw [if_pos (by decide +kernel)]; kernel_rfl) | (rw [if_neg (by decide +kernel)]; exact ⟨rfl, rfl⟩)

end Go.Proofs.Ytpakihjkjdanlab
