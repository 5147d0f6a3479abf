/- The closed facts of the row of Spread, each by itself. -/
import Derived.Test.YtbideeajdhejoaaLeav
namespace Go.Proofs.Ytbideeajdhejoaa

theorem fdspreadd_wf : Rows.fnSpreadRow.wf (OpenSpec.ofChange Rows.fnSpreadSpec) = true := by kernel_rfl
theorem fdspreadd_params : Try.f11.params.all (Try.pinned.checked.prog.readableRec ·) = true := by kernel_rfl
theorem fdspreadd_tie : namedTie Try.pinned.checked.prog Rows.fnSpreadRow.named Rows.fnSpreadSpec.vars = true := by kernel_rfl
theorem fdspreadd_place : (Rows.fnSpreadRow.inPlace == Try.pinned.checked.prog.inPlace 11) = true := by kernel_rfl
theorem fdspreadd_unf : (Rows.fnSpreadRow.unfollowed == Try.pinned.checked.prog.unfollowed 11) = true := by kernel_rfl
theorem fdspreadd_rec : (Rows.fnSpreadRow.recurses == Try.pinned.checked.prog.recurses 11) = true := by kernel_rfl
theorem fdspreadd_named : (Rows.fnSpreadRow.named == Try.pinned.checked.prog.varsNamed 11) = true := by kernel_rfl
theorem fdspreadd_maps : (Rows.fnSpreadRow.maps == (Try.f11.params.toList ++ Rows.fnSpreadSpec.plain.varTypes Try.pinned.checked.prog).any (Try.pinned.checked.prog.mapsRec ·)) = true := by kernel_rfl
theorem fdspreadd_ifaces : (Rows.fnSpreadRow.ifaces == (Try.f11.params.toList ++ Rows.fnSpreadSpec.plain.varTypes Try.pinned.checked.prog).any (Try.pinned.checked.prog.ifacesRec ·)) = true := by kernel_rfl
theorem fdspreadd_mapsOut : (Rows.fnSpreadRow.mapsOut == Try.pinned.checked.prog.mapsAmong Try.f11.resultTypes.toList) = true := by kernel_rfl
theorem fdspreadd_loops : (Rows.fnSpreadRow.loops == (Try.f11.params.toList ++ Rows.fnSpreadSpec.plain.varTypes Try.pinned.checked.prog).any (Try.pinned.checked.prog.loopsFrom ·)) = true := by kernel_rfl
theorem fdspreadd_wide : (Rows.fnSpreadRow.wideKeys == (Try.f11.params.toList ++ Rows.fnSpreadSpec.plain.varTypes Try.pinned.checked.prog ++ Try.f11.resultTypes.toList).any (Try.pinned.checked.prog.wideKeysFrom ·)) = true := by kernel_rfl
theorem fdspreadd_vars : Rows.fnSpreadSpec.vars.all (Try.pinned.checked.prog.varReadable ·) = true := by kernel_rfl
theorem fdspreadd_res : Try.f11.resultTypes.all (fun t => Try.pinned.checked.prog.readableRec t && decide (t < Try.pinned.checked.prog.types.size)) = true := by kernel_rfl
theorem fdspreadd_ifacesOut : (Rows.fnSpreadRow.ifacesOut == Try.f11.resultTypes.toList.any (Try.pinned.checked.prog.ifacesRec ·)) = true := by kernel_rfl
theorem fdspreadd_loopsOut : (Rows.fnSpreadRow.loopsOut == Try.f11.resultTypes.toList.any (Try.pinned.checked.prog.loopsFrom ·)) = true := by kernel_rfl
theorem fdspreadd_keys : (Rows.fnSpreadRow.plainKeys == Try.pinned.checked.prog.plainKeys) = true := by kernel_rfl
theorem fdspreadd_lifted : (Rows.fnSpreadRow.lifted == Try.pinned.checked.prog.liftsFinal) = true := by kernel_rfl
theorem fdspreadd_make : (Try.pinned.checked.prog.make == some Rows.fnSpreadRow.make) = true := by kernel_rfl
theorem fdspreadd_pinned : (Rows.fnSpreadRow.pinned == Rows.fnSpreadRow.pinnedBy) = true := by kernel_rfl
theorem fdspreadd_veiled : (Rows.fnSpreadRow.veiled == (Try.f11.params.toList ++ Rows.fnSpreadSpec.plain.varTypes Try.pinned.checked.prog ++ Try.f11.resultTypes.toList).any (Try.pinned.checked.prog.veiledRec ·)) = true := by kernel_rfl
theorem fdspreadd_fits : Rows.fnSpreadRow.veiledFits Try.pinned.checked.prog Try.f11.params.toList (Try.f11.params.toList ++ Rows.fnSpreadSpec.plain.varTypes Try.pinned.checked.prog ++ Try.f11.resultTypes.toList) = true := by kernel_rfl

end Go.Proofs.Ytbideeajdhejoaa
