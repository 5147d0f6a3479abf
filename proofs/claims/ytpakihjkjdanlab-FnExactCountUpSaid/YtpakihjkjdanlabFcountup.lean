/- The closed facts of the row of CountUp, each by itself. -/
import Derived.Test.YtpakihjkjdanlabLeav
namespace Go.Proofs.Ytpakihjkjdanlab

theorem fcountup_wf : Rows.fnExactCountUpRow.wf (OpenSpec.ofChange Rows.fnExactCountUpSpec) = true := by kernel_rfl
theorem fcountup_params : Try.f8.params.all (Try.pinned.checked.prog.readableRec ·) = true := by kernel_rfl
theorem fcountup_tie : namedTie Try.pinned.checked.prog Rows.fnExactCountUpRow.named Rows.fnExactCountUpSpec.vars = true := by kernel_rfl
theorem fcountup_place : (Rows.fnExactCountUpRow.inPlace == Try.pinned.checked.prog.inPlace 8) = true := by kernel_rfl
theorem fcountup_unf : (Rows.fnExactCountUpRow.unfollowed == Try.pinned.checked.prog.unfollowed 8) = true := by kernel_rfl
theorem fcountup_rec : (Rows.fnExactCountUpRow.recurses == Try.pinned.checked.prog.recurses 8) = true := by kernel_rfl
theorem fcountup_named : (Rows.fnExactCountUpRow.named == Try.pinned.checked.prog.varsNamed 8) = true := by kernel_rfl
theorem fcountup_maps : (Rows.fnExactCountUpRow.maps == (Try.f8.params.toList ++ Rows.fnExactCountUpSpec.plain.varTypes Try.pinned.checked.prog).any (Try.pinned.checked.prog.mapsRec ·)) = true := by kernel_rfl
theorem fcountup_ifaces : (Rows.fnExactCountUpRow.ifaces == (Try.f8.params.toList ++ Rows.fnExactCountUpSpec.plain.varTypes Try.pinned.checked.prog).any (Try.pinned.checked.prog.ifacesRec ·)) = true := by kernel_rfl
theorem fcountup_mapsOut : (Rows.fnExactCountUpRow.mapsOut == Try.pinned.checked.prog.mapsAmong Try.f8.resultTypes.toList) = true := by kernel_rfl
theorem fcountup_loops : (Rows.fnExactCountUpRow.loops == (Try.f8.params.toList ++ Rows.fnExactCountUpSpec.plain.varTypes Try.pinned.checked.prog).any (Try.pinned.checked.prog.loopsFrom ·)) = true := by kernel_rfl
theorem fcountup_wide : (Rows.fnExactCountUpRow.wideKeys == (Try.f8.params.toList ++ Rows.fnExactCountUpSpec.plain.varTypes Try.pinned.checked.prog ++ Try.f8.resultTypes.toList).any (Try.pinned.checked.prog.wideKeysFrom ·)) = true := by kernel_rfl
theorem fcountup_vars : Rows.fnExactCountUpSpec.vars.all (Try.pinned.checked.prog.varReadable ·) = true := by kernel_rfl
theorem fcountup_res : Try.f8.resultTypes.all (fun t => Try.pinned.checked.prog.readableRec t && decide (t < Try.pinned.checked.prog.types.size)) = true := by kernel_rfl
theorem fcountup_ifacesOut : (Rows.fnExactCountUpRow.ifacesOut == Try.f8.resultTypes.toList.any (Try.pinned.checked.prog.ifacesRec ·)) = true := by kernel_rfl
theorem fcountup_loopsOut : (Rows.fnExactCountUpRow.loopsOut == Try.f8.resultTypes.toList.any (Try.pinned.checked.prog.loopsFrom ·)) = true := by kernel_rfl
theorem fcountup_keys : (Rows.fnExactCountUpRow.plainKeys == Try.pinned.checked.prog.plainKeys) = true := by kernel_rfl
theorem fcountup_lifted : (Rows.fnExactCountUpRow.lifted == Try.pinned.checked.prog.liftsFinal) = true := by kernel_rfl
theorem fcountup_make : (Try.pinned.checked.prog.make == some Rows.fnExactCountUpRow.make) = true := by kernel_rfl
theorem fcountup_pinned : (Rows.fnExactCountUpRow.pinned == Rows.fnExactCountUpRow.pinnedBy) = true := by kernel_rfl
theorem fcountup_veiled : (Rows.fnExactCountUpRow.veiled == (Try.f8.params.toList ++ Rows.fnExactCountUpSpec.plain.varTypes Try.pinned.checked.prog ++ Try.f8.resultTypes.toList).any (Try.pinned.checked.prog.veiledRec ·)) = true := by kernel_rfl
theorem fcountup_fits : Rows.fnExactCountUpRow.veiledFits Try.pinned.checked.prog Try.f8.params.toList (Try.f8.params.toList ++ Rows.fnExactCountUpSpec.plain.varTypes Try.pinned.checked.prog ++ Try.f8.resultTypes.toList) = true := by kernel_rfl

end Go.Proofs.Ytpakihjkjdanlab
