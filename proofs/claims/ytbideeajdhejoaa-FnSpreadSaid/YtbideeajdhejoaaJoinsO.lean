/- The functions that foldSegments of the program is handed by MostSegments and MergeLengths. -/
import Derived.Test.YtbideeajdhejoaaJoinsF
namespace Go.Proofs.Ytbideeajdhejoaa
open Go.RowKit

set_option maxHeartbeats 400000 in
theorem joins_most : Joins2 103 mostF 0 (fun _ => 10006) where
  enters := enters_of Try.func103 (by kernel_rfl) rfl
  call := fun j a b u _ h0 h1 h2 h3 => by
    go_enter Try.func103, Try.ntmps103
    go_wp2_with fail
    all_goals
      go_ret
      exact ⟨ret_intY (by unfold mostF; omega), rfl⟩
  stays := fun j a b h0 h1 h2 h3 => by unfold mostF; omega

end Go.Proofs.Ytbideeajdhejoaa
