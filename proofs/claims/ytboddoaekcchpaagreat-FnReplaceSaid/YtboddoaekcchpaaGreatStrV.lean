/- Lists of strings as rows. -/
import Derived.Test.YtboddoaekcchpaaGreatSTxtA
import Derived.Test.YtboddoaekcchpaaGreatOwnSt
namespace Go.Proofs.YtboddoaekcchpaaGreat
open Go.RowKit

theorem infoStr : (Tryz.prog.info? 9).map (fun i => (i.zero, i.size, i.bytes)) = some (some (.string .empty), 1, 16) := by kernel_rfl

end Go.Proofs.YtboddoaekcchpaaGreat
