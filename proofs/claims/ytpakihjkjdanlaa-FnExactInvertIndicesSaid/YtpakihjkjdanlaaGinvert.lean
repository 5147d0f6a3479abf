/- The closed facts of the row of InvertIndices, together. -/
import Derived.Test.YtpakihjkjdanlaaFinvert
namespace Go.Proofs.Ytpakihjkjdanlaa

set_option maxRecDepth 100000 in
theorem finvert_all : joinedFacts Try.pinned.checked.prog 5 Try.f5 Rows.fnExactInvertIndicesSpec Rows.fnExactInvertIndicesRow = true := by
  unfold joinedFacts
  exact andT (andT (andT (andT (andT (andT (andT (andT (andT (andT (andT (andT (andT (andT (andT (andT (andT (andT (andT (andT (andT (andT (andT (andT (andT (andT (andT (andT (andT (andT (andT
    finvert_wf fact_laid) fact_maps) finvert_params) finvert_tie) rfl) fact_stops) rfl) fact_knobs) finvert_place) finvert_unf) finvert_rec) finvert_named) finvert_maps) finvert_ifaces) finvert_mapsOut) finvert_loops) finvert_wide) finvert_vars) finvert_res) finvert_ifacesOut) finvert_loopsOut) finvert_keys) rfl) fact_heard) fact_enter) finvert_lifted) finvert_make) rfl) finvert_pinned) finvert_veiled) finvert_fits

theorem finvert_name : Try.pinned.checked.prog.funcNamed Rows.fnExactInvertIndicesRow.func = some 5 := by kernel_rfl
theorem finvert_inst : Try.f5.isInstance Try.pinned.checked.prog Rows.fnExactInvertIndicesRow.origin Rows.fnExactInvertIndicesRow.targs := of_decide_eq_true (by kernel_rfl)
theorem finvert_wrap : Try.f5.isWrapper Try.pinned.checked.prog Rows.fnExactInvertIndicesRow.wrapper Rows.fnExactInvertIndicesRow.mainSum := by unfold Func.isWrapper; first | (rw [if_pos (by decide +kernel)]; kernel_rfl) | (rw [if_neg (by decide +kernel)]; exact ⟨rfl, rfl⟩)

end Go.Proofs.Ytpakihjkjdanlaa
