/- The closed facts of the row of MergeLengths, each by itself. -/
import Derived.Test.YtpakihjkjdanlabLeav
namespace Go.Proofs.Ytpakihjkjdanlab

theorem fdmerged_wf : Rows.fnMergeLengthsRow.wf (OpenSpec.ofChange Rows.fnMergeLengthsSpec) = true := by kernel_rfl
theorem fdmerged_params : Try.f14.params.all (Try.pinned.checked.prog.readableRec ·) = true := by kernel_rfl
theorem fdmerged_tie : namedTie Try.pinned.checked.prog Rows.fnMergeLengthsRow.named Rows.fnMergeLengthsSpec.vars = true := by kernel_rfl
theorem fdmerged_place : (Rows.fnMergeLengthsRow.inPlace == Try.pinned.checked.prog.inPlace 14) = true := by kernel_rfl
theorem fdmerged_unf : (Rows.fnMergeLengthsRow.unfollowed == Try.pinned.checked.prog.unfollowed 14) = true := by kernel_rfl
theorem fdmerged_rec : (Rows.fnMergeLengthsRow.recurses == Try.pinned.checked.prog.recurses 14) = true := by kernel_rfl
theorem fdmerged_named : (Rows.fnMergeLengthsRow.named == Try.pinned.checked.prog.varsNamed 14) = true := by kernel_rfl
theorem fdmerged_maps : (Rows.fnMergeLengthsRow.maps == (Try.f14.params.toList ++ Rows.fnMergeLengthsSpec.plain.varTypes Try.pinned.checked.prog).any (Try.pinned.checked.prog.mapsRec ·)) = true := by kernel_rfl
theorem fdmerged_ifaces : (Rows.fnMergeLengthsRow.ifaces == (Try.f14.params.toList ++ Rows.fnMergeLengthsSpec.plain.varTypes Try.pinned.checked.prog).any (Try.pinned.checked.prog.ifacesRec ·)) = true := by kernel_rfl
theorem fdmerged_mapsOut : (Rows.fnMergeLengthsRow.mapsOut == Try.pinned.checked.prog.mapsAmong Try.f14.resultTypes.toList) = true := by kernel_rfl
theorem fdmerged_loops : (Rows.fnMergeLengthsRow.loops == (Try.f14.params.toList ++ Rows.fnMergeLengthsSpec.plain.varTypes Try.pinned.checked.prog).any (Try.pinned.checked.prog.loopsFrom ·)) = true := by kernel_rfl
theorem fdmerged_wide : (Rows.fnMergeLengthsRow.wideKeys == (Try.f14.params.toList ++ Rows.fnMergeLengthsSpec.plain.varTypes Try.pinned.checked.prog ++ Try.f14.resultTypes.toList).any (Try.pinned.checked.prog.wideKeysFrom ·)) = true := by kernel_rfl
theorem fdmerged_vars : Rows.fnMergeLengthsSpec.vars.all (Try.pinned.checked.prog.varReadable ·) = true := by kernel_rfl
theorem fdmerged_res : Try.f14.resultTypes.all (fun t => Try.pinned.checked.prog.readableRec t && decide (t < Try.pinned.checked.prog.types.size)) = true := by kernel_rfl
theorem fdmerged_ifacesOut : (Rows.fnMergeLengthsRow.ifacesOut == Try.f14.resultTypes.toList.any (Try.pinned.checked.prog.ifacesRec ·)) = true := by kernel_rfl
theorem fdmerged_loopsOut : (Rows.fnMergeLengthsRow.loopsOut == Try.f14.resultTypes.toList.any (Try.pinned.checked.prog.loopsFrom ·)) = true := by kernel_rfl
theorem fdmerged_keys : (Rows.fnMergeLengthsRow.plainKeys == Try.pinned.checked.prog.plainKeys) = true := by kernel_rfl
theorem fdmerged_lifted : (Rows.fnMergeLengthsRow.lifted == Try.pinned.checked.prog.liftsFinal) = true := by kernel_rfl
theorem fdmerged_make : (Try.pinned.checked.prog.make == some Rows.fnMergeLengthsRow.make) = true := by kernel_rfl
theorem fdmerged_pinned : (Rows.fnMergeLengthsRow.pinned == Rows.fnMergeLengthsRow.pinnedBy) = true := by kernel_rfl
theorem fdmerged_veiled : (Rows.fnMergeLengthsRow.veiled == (Try.f14.params.toList ++ Rows.fnMergeLengthsSpec.plain.varTypes Try.pinned.checked.prog ++ Try.f14.resultTypes.toList).any (Try.pinned.checked.prog.veiledRec ·)) = true := by kernel_rfl
theorem fdmerged_fits : Rows.fnMergeLengthsRow.veiledFits Try.pinned.checked.prog Try.f14.params.toList (Try.f14.params.toList ++ Rows.fnMergeLengthsSpec.plain.varTypes Try.pinned.checked.prog ++ Try.f14.resultTypes.toList) = true := by kernel_rfl

end Go.Proofs.Ytpakihjkjdanlab
