/- The closed facts of the row of Most, each by itself. -/
import Derived.Test.YtpakihjkjdanlabLeav
namespace Go.Proofs.Ytpakihjkjdanlab

theorem fdmost_wf : Rows.fnMostRow.wf (OpenSpec.ofChange Rows.fnMostSpec) = true := by kernel_rfl
theorem fdmost_params : Try.f11.params.all (Try.pinned.checked.prog.readableRec ·) = true := by kernel_rfl
theorem fdmost_tie : namedTie Try.pinned.checked.prog Rows.fnMostRow.named Rows.fnMostSpec.vars = true := by kernel_rfl
theorem fdmost_place : (Rows.fnMostRow.inPlace == Try.pinned.checked.prog.inPlace 11) = true := by kernel_rfl
theorem fdmost_unf : (Rows.fnMostRow.unfollowed == Try.pinned.checked.prog.unfollowed 11) = true := by kernel_rfl
theorem fdmost_rec : (Rows.fnMostRow.recurses == Try.pinned.checked.prog.recurses 11) = true := by kernel_rfl
theorem fdmost_named : (Rows.fnMostRow.named == Try.pinned.checked.prog.varsNamed 11) = true := by kernel_rfl
theorem fdmost_maps : (Rows.fnMostRow.maps == (Try.f11.params.toList ++ Rows.fnMostSpec.plain.varTypes Try.pinned.checked.prog).any (Try.pinned.checked.prog.mapsRec ·)) = true := by kernel_rfl
theorem fdmost_ifaces : (Rows.fnMostRow.ifaces == (Try.f11.params.toList ++ Rows.fnMostSpec.plain.varTypes Try.pinned.checked.prog).any (Try.pinned.checked.prog.ifacesRec ·)) = true := by kernel_rfl
theorem fdmost_mapsOut : (Rows.fnMostRow.mapsOut == Try.pinned.checked.prog.mapsAmong Try.f11.resultTypes.toList) = true := by kernel_rfl
theorem fdmost_loops : (Rows.fnMostRow.loops == (Try.f11.params.toList ++ Rows.fnMostSpec.plain.varTypes Try.pinned.checked.prog).any (Try.pinned.checked.prog.loopsFrom ·)) = true := by kernel_rfl
theorem fdmost_wide : (Rows.fnMostRow.wideKeys == (Try.f11.params.toList ++ Rows.fnMostSpec.plain.varTypes Try.pinned.checked.prog ++ Try.f11.resultTypes.toList).any (Try.pinned.checked.prog.wideKeysFrom ·)) = true := by kernel_rfl
theorem fdmost_vars : Rows.fnMostSpec.vars.all (Try.pinned.checked.prog.varReadable ·) = true := by kernel_rfl
theorem fdmost_res : Try.f11.resultTypes.all (fun t => Try.pinned.checked.prog.readableRec t && decide (t < Try.pinned.checked.prog.types.size)) = true := by kernel_rfl
theorem fdmost_ifacesOut : (Rows.fnMostRow.ifacesOut == Try.f11.resultTypes.toList.any (Try.pinned.checked.prog.ifacesRec ·)) = true := by kernel_rfl
theorem fdmost_loopsOut : (Rows.fnMostRow.loopsOut == Try.f11.resultTypes.toList.any (Try.pinned.checked.prog.loopsFrom ·)) = true := by kernel_rfl
theorem fdmost_keys : (Rows.fnMostRow.plainKeys == Try.pinned.checked.prog.plainKeys) = true := by kernel_rfl
theorem fdmost_lifted : (Rows.fnMostRow.lifted == Try.pinned.checked.prog.liftsFinal) = true := by kernel_rfl
theorem fdmost_make : (Try.pinned.checked.prog.make == some Rows.fnMostRow.make) = true := by kernel_rfl
theorem fdmost_pinned : (Rows.fnMostRow.pinned == Rows.fnMostRow.pinnedBy) = true := by kernel_rfl
theorem fdmost_veiled : (Rows.fnMostRow.veiled == (Try.f11.params.toList ++ Rows.fnMostSpec.plain.varTypes Try.pinned.checked.prog ++ Try.f11.resultTypes.toList).any (Try.pinned.checked.prog.veiledRec ·)) = true := by kernel_rfl
theorem fdmost_fits : Rows.fnMostRow.veiledFits Try.pinned.checked.prog Try.f11.params.toList (Try.f11.params.toList ++ Rows.fnMostSpec.plain.varTypes Try.pinned.checked.prog ++ Try.f11.resultTypes.toList) = true := by kernel_rfl

end Go.Proofs.Ytpakihjkjdanlab
