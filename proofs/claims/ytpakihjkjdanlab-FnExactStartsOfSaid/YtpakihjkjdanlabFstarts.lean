/- The closed facts of the row of StartsOf, each by itself. -/
import Derived.Test.YtpakihjkjdanlabLeav
namespace Go.Proofs.Ytpakihjkjdanlab

theorem fstarts_wf : Rows.fnExactStartsOfRow.wf (OpenSpec.ofChange Rows.fnExactStartsOfSpec) = true := by kernel_rfl
theorem fstarts_params : Try.f4.params.all (Try.pinned.checked.prog.readableRec ·) = true := by kernel_rfl
theorem fstarts_tie : namedTie Try.pinned.checked.prog Rows.fnExactStartsOfRow.named Rows.fnExactStartsOfSpec.vars = true := by kernel_rfl
theorem fstarts_place : (Rows.fnExactStartsOfRow.inPlace == Try.pinned.checked.prog.inPlace 4) = true := by kernel_rfl
theorem fstarts_unf : (Rows.fnExactStartsOfRow.unfollowed == Try.pinned.checked.prog.unfollowed 4) = true := by kernel_rfl
theorem fstarts_rec : (Rows.fnExactStartsOfRow.recurses == Try.pinned.checked.prog.recurses 4) = true := by kernel_rfl
theorem fstarts_named : (Rows.fnExactStartsOfRow.named == Try.pinned.checked.prog.varsNamed 4) = true := by kernel_rfl
theorem fstarts_maps : (Rows.fnExactStartsOfRow.maps == (Try.f4.params.toList ++ Rows.fnExactStartsOfSpec.plain.varTypes Try.pinned.checked.prog).any (Try.pinned.checked.prog.mapsRec ·)) = true := by kernel_rfl
theorem fstarts_ifaces : (Rows.fnExactStartsOfRow.ifaces == (Try.f4.params.toList ++ Rows.fnExactStartsOfSpec.plain.varTypes Try.pinned.checked.prog).any (Try.pinned.checked.prog.ifacesRec ·)) = true := by kernel_rfl
theorem fstarts_mapsOut : (Rows.fnExactStartsOfRow.mapsOut == Try.pinned.checked.prog.mapsAmong Try.f4.resultTypes.toList) = true := by kernel_rfl
theorem fstarts_loops : (Rows.fnExactStartsOfRow.loops == (Try.f4.params.toList ++ Rows.fnExactStartsOfSpec.plain.varTypes Try.pinned.checked.prog).any (Try.pinned.checked.prog.loopsFrom ·)) = true := by kernel_rfl
theorem fstarts_wide : (Rows.fnExactStartsOfRow.wideKeys == (Try.f4.params.toList ++ Rows.fnExactStartsOfSpec.plain.varTypes Try.pinned.checked.prog ++ Try.f4.resultTypes.toList).any (Try.pinned.checked.prog.wideKeysFrom ·)) = true := by kernel_rfl
theorem fstarts_vars : Rows.fnExactStartsOfSpec.vars.all (Try.pinned.checked.prog.varReadable ·) = true := by kernel_rfl
theorem fstarts_res : Try.f4.resultTypes.all (fun t => Try.pinned.checked.prog.readableRec t && decide (t < Try.pinned.checked.prog.types.size)) = true := by kernel_rfl
theorem fstarts_ifacesOut : (Rows.fnExactStartsOfRow.ifacesOut == Try.f4.resultTypes.toList.any (Try.pinned.checked.prog.ifacesRec ·)) = true := by kernel_rfl
theorem fstarts_loopsOut : (Rows.fnExactStartsOfRow.loopsOut == Try.f4.resultTypes.toList.any (Try.pinned.checked.prog.loopsFrom ·)) = true := by kernel_rfl
theorem fstarts_keys : (Rows.fnExactStartsOfRow.plainKeys == Try.pinned.checked.prog.plainKeys) = true := by kernel_rfl
theorem fstarts_lifted : (Rows.fnExactStartsOfRow.lifted == Try.pinned.checked.prog.liftsFinal) = true := by kernel_rfl
theorem fstarts_make : (Try.pinned.checked.prog.make == some Rows.fnExactStartsOfRow.make) = true := by kernel_rfl
theorem fstarts_pinned : (Rows.fnExactStartsOfRow.pinned == Rows.fnExactStartsOfRow.pinnedBy) = true := by kernel_rfl
theorem fstarts_veiled : (Rows.fnExactStartsOfRow.veiled == (Try.f4.params.toList ++ Rows.fnExactStartsOfSpec.plain.varTypes Try.pinned.checked.prog ++ Try.f4.resultTypes.toList).any (Try.pinned.checked.prog.veiledRec ·)) = true := by kernel_rfl
theorem fstarts_fits : Rows.fnExactStartsOfRow.veiledFits Try.pinned.checked.prog Try.f4.params.toList (Try.f4.params.toList ++ Rows.fnExactStartsOfSpec.plain.varTypes Try.pinned.checked.prog ++ Try.f4.resultTypes.toList) = true := by kernel_rfl

end Go.Proofs.Ytpakihjkjdanlab
