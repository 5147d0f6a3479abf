/- The closed facts of the row of Gather, each by itself. -/
import Derived.Test.YtpakihjkjdanlaaLeav
namespace Go.Proofs.Ytpakihjkjdanlaa

theorem fdgather_wf : Rows.fnGatherRow.wf (OpenSpec.ofChange Rows.fnGatherSpec) = true := by kernel_rfl
theorem fdgather_params : Try.f11.params.all (Try.pinned.checked.prog.readableRec ·) = true := by kernel_rfl
theorem fdgather_tie : namedTie Try.pinned.checked.prog Rows.fnGatherRow.named Rows.fnGatherSpec.vars = true := by kernel_rfl
theorem fdgather_place : (Rows.fnGatherRow.inPlace == Try.pinned.checked.prog.inPlace 11) = true := by kernel_rfl
theorem fdgather_unf : (Rows.fnGatherRow.unfollowed == Try.pinned.checked.prog.unfollowed 11) = true := by kernel_rfl
theorem fdgather_rec : (Rows.fnGatherRow.recurses == Try.pinned.checked.prog.recurses 11) = true := by kernel_rfl
theorem fdgather_named : (Rows.fnGatherRow.named == Try.pinned.checked.prog.varsNamed 11) = true := by kernel_rfl
theorem fdgather_maps : (Rows.fnGatherRow.maps == (Try.f11.params.toList ++ Rows.fnGatherSpec.plain.varTypes Try.pinned.checked.prog).any (Try.pinned.checked.prog.mapsRec ·)) = true := by kernel_rfl
theorem fdgather_ifaces : (Rows.fnGatherRow.ifaces == (Try.f11.params.toList ++ Rows.fnGatherSpec.plain.varTypes Try.pinned.checked.prog).any (Try.pinned.checked.prog.ifacesRec ·)) = true := by kernel_rfl
theorem fdgather_mapsOut : (Rows.fnGatherRow.mapsOut == Try.pinned.checked.prog.mapsAmong Try.f11.resultTypes.toList) = true := by kernel_rfl
theorem fdgather_loops : (Rows.fnGatherRow.loops == (Try.f11.params.toList ++ Rows.fnGatherSpec.plain.varTypes Try.pinned.checked.prog).any (Try.pinned.checked.prog.loopsFrom ·)) = true := by kernel_rfl
theorem fdgather_wide : (Rows.fnGatherRow.wideKeys == (Try.f11.params.toList ++ Rows.fnGatherSpec.plain.varTypes Try.pinned.checked.prog ++ Try.f11.resultTypes.toList).any (Try.pinned.checked.prog.wideKeysFrom ·)) = true := by kernel_rfl
theorem fdgather_vars : Rows.fnGatherSpec.vars.all (Try.pinned.checked.prog.varReadable ·) = true := by kernel_rfl
theorem fdgather_res : Try.f11.resultTypes.all (fun t => Try.pinned.checked.prog.readableRec t && decide (t < Try.pinned.checked.prog.types.size)) = true := by kernel_rfl
theorem fdgather_ifacesOut : (Rows.fnGatherRow.ifacesOut == Try.f11.resultTypes.toList.any (Try.pinned.checked.prog.ifacesRec ·)) = true := by kernel_rfl
theorem fdgather_loopsOut : (Rows.fnGatherRow.loopsOut == Try.f11.resultTypes.toList.any (Try.pinned.checked.prog.loopsFrom ·)) = true := by kernel_rfl
theorem fdgather_keys : (Rows.fnGatherRow.plainKeys == Try.pinned.checked.prog.plainKeys) = true := by kernel_rfl
theorem fdgather_lifted : (Rows.fnGatherRow.lifted == Try.pinned.checked.prog.liftsFinal) = true := by kernel_rfl
theorem fdgather_make : (Try.pinned.checked.prog.make == some Rows.fnGatherRow.make) = true := by kernel_rfl
theorem fdgather_pinned : (Rows.fnGatherRow.pinned == Rows.fnGatherRow.pinnedBy) = true := by kernel_rfl
theorem fdgather_veiled : (Rows.fnGatherRow.veiled == (Try.f11.params.toList ++ Rows.fnGatherSpec.plain.varTypes Try.pinned.checked.prog ++ Try.f11.resultTypes.toList).any (Try.pinned.checked.prog.veiledRec ·)) = true := by kernel_rfl
theorem fdgather_fits : Rows.fnGatherRow.veiledFits Try.pinned.checked.prog Try.f11.params.toList (Try.f11.params.toList ++ Rows.fnGatherSpec.plain.varTypes Try.pinned.checked.prog ++ Try.f11.resultTypes.toList) = true := by kernel_rfl

end Go.Proofs.Ytpakihjkjdanlaa
