/- The closed facts of the row of SpreadValues, together. -/
import Derived.Test.YtbideeajdhejoaaFspread
namespace Go.Proofs.Ytbideeajdhejoaa

set_option maxRecDepth 100000 in
theorem fspread_all : joinedFacts Try.pinned.checked.prog 10 Try.f10 Rows.fnExactSpreadValuesSpec Rows.fnExactSpreadValuesRow = true := by
  unfold joinedFacts
  exact andT (andT (andT (andT (andT (andT (andT (andT (andT (andT (andT (andT (andT (andT (andT (andT (andT (andT (andT (andT (andT (andT (andT (andT (andT (andT (andT (andT (andT (andT (andT
    fspread_wf fact_laid) fact_maps) fspread_params) fspread_tie) rfl) fact_stops) rfl) fact_knobs) fspread_place) fspread_unf) fspread_rec) fspread_named) fspread_maps) fspread_ifaces) fspread_mapsOut) fspread_loops) fspread_wide) fspread_vars) fspread_res) fspread_ifacesOut) fspread_loopsOut) fspread_keys) rfl) fact_heard) fact_enter) fspread_lifted) fspread_make) rfl) fspread_pinned) fspread_veiled) fspread_fits

theorem fspread_name : Try.pinned.checked.prog.funcNamed Rows.fnExactSpreadValuesRow.func = some 10 := by kernel_rfl
theorem fspread_inst : Try.f10.isInstance Try.pinned.checked.prog Rows.fnExactSpreadValuesRow.origin Rows.fnExactSpreadValuesRow.targs := of_decide_eq_true (by kernel_rfl)
theorem fspread_wrap : Try.f10.isWrapper Try.pinned.checked.prog Rows.fnExactSpreadValuesRow.wrapper Rows.fnExactSpreadValuesRow.mainSum := by unfold Func.isWrapper; first | (rw [if_pos (by decide +kernel)]; kernel_rfl) | (rw [if_neg (by decide +kernel)]; exact ⟨rfl, rfl⟩)

end Go.Proofs.Ytbideeajdhejoaa
