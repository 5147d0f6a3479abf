/- The closed facts of the row of Pack, each by itself. -/
import Derived.Test.YtpakihjkjdanlabLeav
namespace Go.Proofs.Ytpakihjkjdanlab

theorem fdpackd_wf : Rows.fnPackRow.wf (OpenSpec.ofChange Rows.fnPackSpec) = true := by kernel_rfl
theorem fdpackd_params : Try.f13.params.all (Try.pinned.checked.prog.readableRec ·) = true := by kernel_rfl
theorem fdpackd_tie : namedTie Try.pinned.checked.prog Rows.fnPackRow.named Rows.fnPackSpec.vars = true := by kernel_rfl
theorem fdpackd_place : (Rows.fnPackRow.inPlace == Try.pinned.checked.prog.inPlace 13) = true := by kernel_rfl
theorem fdpackd_unf : (Rows.fnPackRow.unfollowed == Try.pinned.checked.prog.unfollowed 13) = true := by kernel_rfl
theorem fdpackd_rec : (Rows.fnPackRow.recurses == Try.pinned.checked.prog.recurses 13) = true := by kernel_rfl
theorem fdpackd_named : (Rows.fnPackRow.named == Try.pinned.checked.prog.varsNamed 13) = true := by kernel_rfl
theorem fdpackd_maps : (Rows.fnPackRow.maps == (Try.f13.params.toList ++ Rows.fnPackSpec.plain.varTypes Try.pinned.checked.prog).any (Try.pinned.checked.prog.mapsRec ·)) = true := by kernel_rfl
theorem fdpackd_ifaces : (Rows.fnPackRow.ifaces == (Try.f13.params.toList ++ Rows.fnPackSpec.plain.varTypes Try.pinned.checked.prog).any (Try.pinned.checked.prog.ifacesRec ·)) = true := by kernel_rfl
theorem fdpackd_mapsOut : (Rows.fnPackRow.mapsOut == Try.pinned.checked.prog.mapsAmong Try.f13.resultTypes.toList) = true := by kernel_rfl
theorem fdpackd_loops : (Rows.fnPackRow.loops == (Try.f13.params.toList ++ Rows.fnPackSpec.plain.varTypes Try.pinned.checked.prog).any (Try.pinned.checked.prog.loopsFrom ·)) = true := by kernel_rfl
theorem fdpackd_wide : (Rows.fnPackRow.wideKeys == (Try.f13.params.toList ++ Rows.fnPackSpec.plain.varTypes Try.pinned.checked.prog ++ Try.f13.resultTypes.toList).any (Try.pinned.checked.prog.wideKeysFrom ·)) = true := by kernel_rfl
theorem fdpackd_vars : Rows.fnPackSpec.vars.all (Try.pinned.checked.prog.varReadable ·) = true := by kernel_rfl
theorem fdpackd_res : Try.f13.resultTypes.all (fun t => Try.pinned.checked.prog.readableRec t && decide (t < Try.pinned.checked.prog.types.size)) = true := by kernel_rfl
theorem fdpackd_ifacesOut : (Rows.fnPackRow.ifacesOut == Try.f13.resultTypes.toList.any (Try.pinned.checked.prog.ifacesRec ·)) = true := by kernel_rfl
theorem fdpackd_loopsOut : (Rows.fnPackRow.loopsOut == Try.f13.resultTypes.toList.any (Try.pinned.checked.prog.loopsFrom ·)) = true := by kernel_rfl
theorem fdpackd_keys : (Rows.fnPackRow.plainKeys == Try.pinned.checked.prog.plainKeys) = true := by kernel_rfl
theorem fdpackd_lifted : (Rows.fnPackRow.lifted == Try.pinned.checked.prog.liftsFinal) = true := by kernel_rfl
theorem fdpackd_make : (Try.pinned.checked.prog.make == some Rows.fnPackRow.make) = true := by kernel_rfl
theorem fdpackd_pinned : (Rows.fnPackRow.pinned == Rows.fnPackRow.pinnedBy) = true := by kernel_rfl
theorem fdpackd_veiled : (Rows.fnPackRow.veiled == (Try.f13.params.toList ++ Rows.fnPackSpec.plain.varTypes Try.pinned.checked.prog ++ Try.f13.resultTypes.toList).any (Try.pinned.checked.prog.veiledRec ·)) = true := by kernel_rfl
theorem fdpackd_fits : Rows.fnPackRow.veiledFits Try.pinned.checked.prog Try.f13.params.toList (Try.f13.params.toList ++ Rows.fnPackSpec.plain.varTypes Try.pinned.checked.prog ++ Try.f13.resultTypes.toList) = true := by kernel_rfl

end Go.Proofs.Ytpakihjkjdanlab
