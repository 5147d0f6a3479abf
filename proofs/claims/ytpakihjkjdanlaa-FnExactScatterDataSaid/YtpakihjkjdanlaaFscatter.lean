/- The closed facts of the row of ScatterData, each by itself. -/
import Derived.Test.YtpakihjkjdanlaaLeav
namespace Go.Proofs.Ytpakihjkjdanlaa

theorem fscatter_wf : Rows.fnExactScatterDataRow.wf (OpenSpec.ofChange Rows.fnExactScatterDataSpec) = true := by kernel_rfl
theorem fscatter_params : Try.f6.params.all (Try.pinned.checked.prog.readableRec ·) = true := by kernel_rfl
theorem fscatter_tie : namedTie Try.pinned.checked.prog Rows.fnExactScatterDataRow.named Rows.fnExactScatterDataSpec.vars = true := by kernel_rfl
theorem fscatter_place : (Rows.fnExactScatterDataRow.inPlace == Try.pinned.checked.prog.inPlace 6) = true := by kernel_rfl
theorem fscatter_unf : (Rows.fnExactScatterDataRow.unfollowed == Try.pinned.checked.prog.unfollowed 6) = true := by kernel_rfl
theorem fscatter_rec : (Rows.fnExactScatterDataRow.recurses == Try.pinned.checked.prog.recurses 6) = true := by kernel_rfl
theorem fscatter_named : (Rows.fnExactScatterDataRow.named == Try.pinned.checked.prog.varsNamed 6) = true := by kernel_rfl
theorem fscatter_maps : (Rows.fnExactScatterDataRow.maps == (Try.f6.params.toList ++ Rows.fnExactScatterDataSpec.plain.varTypes Try.pinned.checked.prog).any (Try.pinned.checked.prog.mapsRec ·)) = true := by kernel_rfl
theorem fscatter_ifaces : (Rows.fnExactScatterDataRow.ifaces == (Try.f6.params.toList ++ Rows.fnExactScatterDataSpec.plain.varTypes Try.pinned.checked.prog).any (Try.pinned.checked.prog.ifacesRec ·)) = true := by kernel_rfl
theorem fscatter_mapsOut : (Rows.fnExactScatterDataRow.mapsOut == Try.pinned.checked.prog.mapsAmong Try.f6.resultTypes.toList) = true := by kernel_rfl
theorem fscatter_loops : (Rows.fnExactScatterDataRow.loops == (Try.f6.params.toList ++ Rows.fnExactScatterDataSpec.plain.varTypes Try.pinned.checked.prog).any (Try.pinned.checked.prog.loopsFrom ·)) = true := by kernel_rfl
theorem fscatter_wide : (Rows.fnExactScatterDataRow.wideKeys == (Try.f6.params.toList ++ Rows.fnExactScatterDataSpec.plain.varTypes Try.pinned.checked.prog ++ Try.f6.resultTypes.toList).any (Try.pinned.checked.prog.wideKeysFrom ·)) = true := by kernel_rfl
theorem fscatter_vars : Rows.fnExactScatterDataSpec.vars.all (Try.pinned.checked.prog.varReadable ·) = true := by kernel_rfl
theorem fscatter_res : Try.f6.resultTypes.all (fun t => Try.pinned.checked.prog.readableRec t && decide (t < Try.pinned.checked.prog.types.size)) = true := by kernel_rfl
theorem fscatter_ifacesOut : (Rows.fnExactScatterDataRow.ifacesOut == Try.f6.resultTypes.toList.any (Try.pinned.checked.prog.ifacesRec ·)) = true := by kernel_rfl
theorem fscatter_loopsOut : (Rows.fnExactScatterDataRow.loopsOut == Try.f6.resultTypes.toList.any (Try.pinned.checked.prog.loopsFrom ·)) = true := by kernel_rfl
theorem fscatter_keys : (Rows.fnExactScatterDataRow.plainKeys == Try.pinned.checked.prog.plainKeys) = true := by kernel_rfl
theorem fscatter_lifted : (Rows.fnExactScatterDataRow.lifted == Try.pinned.checked.prog.liftsFinal) = true := by kernel_rfl
theorem fscatter_make : (Try.pinned.checked.prog.make == some Rows.fnExactScatterDataRow.make) = true := by kernel_rfl
theorem fscatter_pinned : (Rows.fnExactScatterDataRow.pinned == Rows.fnExactScatterDataRow.pinnedBy) = true := by kernel_rfl
theorem fscatter_veiled : (Rows.fnExactScatterDataRow.veiled == (Try.f6.params.toList ++ Rows.fnExactScatterDataSpec.plain.varTypes Try.pinned.checked.prog ++ Try.f6.resultTypes.toList).any (Try.pinned.checked.prog.veiledRec ·)) = true := by kernel_rfl
theorem fscatter_fits : Rows.fnExactScatterDataRow.veiledFits Try.pinned.checked.prog Try.f6.params.toList (Try.f6.params.toList ++ Rows.fnExactScatterDataSpec.plain.varTypes Try.pinned.checked.prog ++ Try.f6.resultTypes.toList) = true := by kernel_rfl

end Go.Proofs.Ytpakihjkjdanlaa
