/- The closed facts of the row of Spread, together. -/
import Derived.Test.YtbideeajdhejoaaFdspreadd
namespace Go.Proofs.Ytbideeajdhejoaa

set_option maxRecDepth 100000 in
theorem fdspreadd_all : joinedFacts Try.pinned.checked.prog 11 Try.f11 Rows.fnSpreadSpec Rows.fnSpreadRow = true := by
  unfold joinedFacts
  exact andT (andT (andT (andT (andT (andT (andT (andT (andT (andT (andT (andT (andT (andT (andT (andT (andT (andT (andT (andT (andT (andT (andT (andT (andT (andT (andT (andT (andT (andT (andT
    fdspreadd_wf fact_laid) fact_maps) fdspreadd_params) fdspreadd_tie) rfl) fact_stops) rfl) fact_knobs) fdspreadd_place) fdspreadd_unf) fdspreadd_rec) fdspreadd_named) fdspreadd_maps) fdspreadd_ifaces) fdspreadd_mapsOut) fdspreadd_loops) fdspreadd_wide) fdspreadd_vars) fdspreadd_res) fdspreadd_ifacesOut) fdspreadd_loopsOut) fdspreadd_keys) rfl) fact_heard) fact_enter) fdspreadd_lifted) fdspreadd_make) rfl) fdspreadd_pinned) fdspreadd_veiled) fdspreadd_fits

theorem fdspreadd_name : Try.pinned.checked.prog.funcNamed Rows.fnSpreadRow.func = some 11 := by kernel_rfl
theorem fdspreadd_inst : Try.f11.isInstance Try.pinned.checked.prog Rows.fnSpreadRow.origin Rows.fnSpreadRow.targs := of_decide_eq_true (by kernel_rfl)
theorem fdspreadd_wrap : Try.f11.isWrapper Try.pinned.checked.prog Rows.fnSpreadRow.wrapper Rows.fnSpreadRow.mainSum := by unfold Func.isWrapper; first | (rw [if_pos (by decide +kernel)]; kernel_rfl) | (rw [if_neg (by decide +kernel)]; exact ⟨rfl, rfl⟩)

end Go.Proofs.Ytbideeajdhejoaa
