/- The closed facts of the row of InputsValid, each by itself. -/
import Derived.Test.YtmofoeljajdhmaaLeav
namespace Go.Proofs.Ytmofoeljajdhmaa

theorem finok_wf : Rows.fnExactInputsValidRow.wf (OpenSpec.ofChange Rows.fnExactInputsValidSpec) = true := by kernel_rfl
theorem finok_params : Try.f8.params.all (Try.pinned.checked.prog.readableRec ·) = true := by kernel_rfl
theorem finok_tie : namedTie Try.pinned.checked.prog Rows.fnExactInputsValidRow.named Rows.fnExactInputsValidSpec.vars = true := by kernel_rfl
theorem finok_place : (Rows.fnExactInputsValidRow.inPlace == Try.pinned.checked.prog.inPlace 8) = true := by kernel_rfl
theorem finok_unf : (Rows.fnExactInputsValidRow.unfollowed == Try.pinned.checked.prog.unfollowed 8) = true := by kernel_rfl
theorem finok_rec : (Rows.fnExactInputsValidRow.recurses == Try.pinned.checked.prog.recurses 8) = true := by kernel_rfl
theorem finok_named : (Rows.fnExactInputsValidRow.named == Try.pinned.checked.prog.varsNamed 8) = true := by kernel_rfl
theorem finok_maps : (Rows.fnExactInputsValidRow.maps == (Try.f8.params.toList ++ Rows.fnExactInputsValidSpec.plain.varTypes Try.pinned.checked.prog).any (Try.pinned.checked.prog.mapsRec ·)) = true := by kernel_rfl
theorem finok_ifaces : (Rows.fnExactInputsValidRow.ifaces == (Try.f8.params.toList ++ Rows.fnExactInputsValidSpec.plain.varTypes Try.pinned.checked.prog).any (Try.pinned.checked.prog.ifacesRec ·)) = true := by kernel_rfl
theorem finok_mapsOut : (Rows.fnExactInputsValidRow.mapsOut == Try.pinned.checked.prog.mapsAmong Try.f8.resultTypes.toList) = true := by kernel_rfl
theorem finok_loops : (Rows.fnExactInputsValidRow.loops == (Try.f8.params.toList ++ Rows.fnExactInputsValidSpec.plain.varTypes Try.pinned.checked.prog).any (Try.pinned.checked.prog.loopsFrom ·)) = true := by kernel_rfl
theorem finok_wide : (Rows.fnExactInputsValidRow.wideKeys == (Try.f8.params.toList ++ Rows.fnExactInputsValidSpec.plain.varTypes Try.pinned.checked.prog ++ Try.f8.resultTypes.toList).any (Try.pinned.checked.prog.wideKeysFrom ·)) = true := by kernel_rfl
theorem finok_vars : Rows.fnExactInputsValidSpec.vars.all (Try.pinned.checked.prog.varReadable ·) = true := by kernel_rfl
theorem finok_res : Try.f8.resultTypes.all (fun t => Try.pinned.checked.prog.readableRec t && decide (t < Try.pinned.checked.prog.types.size)) = true := by kernel_rfl
theorem finok_ifacesOut : (Rows.fnExactInputsValidRow.ifacesOut == Try.f8.resultTypes.toList.any (Try.pinned.checked.prog.ifacesRec ·)) = true := by kernel_rfl
theorem finok_loopsOut : (Rows.fnExactInputsValidRow.loopsOut == Try.f8.resultTypes.toList.any (Try.pinned.checked.prog.loopsFrom ·)) = true := by kernel_rfl
theorem finok_keys : (Rows.fnExactInputsValidRow.plainKeys == Try.pinned.checked.prog.plainKeys) = true := by kernel_rfl
theorem finok_lifted : (Rows.fnExactInputsValidRow.lifted == Try.pinned.checked.prog.liftsFinal) = true := by kernel_rfl
theorem finok_make : (Try.pinned.checked.prog.make == some Rows.fnExactInputsValidRow.make) = true := by kernel_rfl
theorem finok_pinned : (Rows.fnExactInputsValidRow.pinned == Rows.fnExactInputsValidRow.pinnedBy) = true := by kernel_rfl
theorem finok_veiled : (Rows.fnExactInputsValidRow.veiled == (Try.f8.params.toList ++ Rows.fnExactInputsValidSpec.plain.varTypes Try.pinned.checked.prog ++ Try.f8.resultTypes.toList).any (Try.pinned.checked.prog.veiledRec ·)) = true := by kernel_rfl
theorem finok_fits : Rows.fnExactInputsValidRow.veiledFits Try.pinned.checked.prog Try.f8.params.toList (Try.f8.params.toList ++ Rows.fnExactInputsValidSpec.plain.varTypes Try.pinned.checked.prog ++ Try.f8.resultTypes.toList) = true := by kernel_rfl

end Go.Proofs.Ytmofoeljajdhmaa
