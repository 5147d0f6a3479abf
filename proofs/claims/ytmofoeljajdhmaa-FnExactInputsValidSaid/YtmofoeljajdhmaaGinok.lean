/- The closed facts of the row of InputsValid, together. -/
import Derived.Test.YtmofoeljajdhmaaFinok
namespace Go.Proofs.Ytmofoeljajdhmaa

set_option maxRecDepth 100000 in
theorem finok_all : joinedFacts Try.pinned.checked.prog 8 Try.f8 Rows.fnExactInputsValidSpec Rows.fnExactInputsValidRow = true := by
  unfold joinedFacts
  exact andT (andT (andT (andT (andT (andT (andT (andT (andT (andT (andT (andT (andT (andT (andT (andT (andT (andT (andT (andT (andT (andT (andT (andT (andT (andT (andT (andT (andT (andT (andT
    finok_wf fact_laid) fact_maps) finok_params) finok_tie) rfl) fact_stops) rfl) fact_knobs) finok_place) finok_unf) finok_rec) finok_named) finok_maps) finok_ifaces) finok_mapsOut) finok_loops) finok_wide) finok_vars) finok_res) finok_ifacesOut) finok_loopsOut) finok_keys) rfl) fact_heard) fact_enter) finok_lifted) finok_make) rfl) finok_pinned) finok_veiled) finok_fits

theorem finok_name : Try.pinned.checked.prog.funcNamed Rows.fnExactInputsValidRow.func = some 8 := by kernel_rfl
theorem finok_inst : Try.f8.isInstance Try.pinned.checked.prog Rows.fnExactInputsValidRow.origin Rows.fnExactInputsValidRow.targs := of_decide_eq_true (by kernel_rfl)
theorem finok_wrap : Try.f8.isWrapper Try.pinned.checked.prog Rows.fnExactInputsValidRow.wrapper Rows.fnExactInputsValidRow.mainSum := by unfold Func.isWrapper; first | (rw [if_pos (by decide +kernel)]; kernel_rfl) | (rw [if_neg (by decide +kernel)]; exact ⟨rfl, rfl⟩)

end Go.Proofs.Ytmofoeljajdhmaa
