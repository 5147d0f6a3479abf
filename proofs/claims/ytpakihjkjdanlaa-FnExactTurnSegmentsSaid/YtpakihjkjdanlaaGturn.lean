/- The closed facts of the row of TurnSegments, together. -/
import Derived.Test.YtpakihjkjdanlaaFturn
namespace Go.Proofs.Ytpakihjkjdanlaa

set_option maxRecDepth 100000 in
theorem fturn_all : joinedFacts Try.pinned.checked.prog 7 Try.f7 Rows.fnExactTurnSegmentsSpec Rows.fnExactTurnSegmentsRow = true := by
  unfold joinedFacts
  exact andT (andT (andT (andT (andT (andT (andT (andT (andT (andT (andT (andT (andT (andT (andT (andT (andT (andT (andT (andT (andT (andT (andT (andT (andT (andT (andT (andT (andT (andT (andT
    fturn_wf fact_laid) fact_maps) fturn_params) fturn_tie) rfl) fact_stops) rfl) fact_knobs) fturn_place) fturn_unf) fturn_rec) fturn_named) fturn_maps) fturn_ifaces) fturn_mapsOut) fturn_loops) fturn_wide) fturn_vars) fturn_res) fturn_ifacesOut) fturn_loopsOut) fturn_keys) rfl) fact_heard) fact_enter) fturn_lifted) fturn_make) rfl) fturn_pinned) fturn_veiled) fturn_fits

theorem fturn_name : Try.pinned.checked.prog.funcNamed Rows.fnExactTurnSegmentsRow.func = some 7 := by kernel_rfl
theorem fturn_inst : Try.f7.isInstance Try.pinned.checked.prog Rows.fnExactTurnSegmentsRow.origin Rows.fnExactTurnSegmentsRow.targs := of_decide_eq_true (by kernel_rfl)
theorem fturn_wrap : Try.f7.isWrapper Try.pinned.checked.prog Rows.fnExactTurnSegmentsRow.wrapper Rows.fnExactTurnSegmentsRow.mainSum := by unfold Func.isWrapper; first | (rw [if_pos (by decide +kernel)]; kernel_rfl) | (rw [if_neg (by decide +kernel)]; exact ⟨rfl, rfl⟩)

end Go.Proofs.Ytpakihjkjdanlaa
