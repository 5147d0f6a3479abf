/- What isDigit of the program does. -/
import Derived.Test.YtachjodnhgmoiaaDoorGr
namespace Go.Proofs.YtachjodnhgmoiaaDoor
open Go.RowKit

theorem isdigit_any (c : Int) (b : Bool) (hb : decide (48 ≤ c ∧ c ≤ 57) = b) (w : World) :
    Calls Tryd.prog 167 #[.int .u8 c] w fun e w' => e = .returned (.bool b) ∧ w' = w := by
  subst hb
  by_cases h1 : 48 ≤ c
  · have e : decide (48 ≤ c ∧ c ≤ 57) = decide (c ≤ 57) := by simp [h1]
    rw [e]
    clear e
    go_enter Tryd.func167, Tryd.ntmps167
    go_wp2_with fail
    go_ret
    exact ⟨rfl, rfl⟩
  · have e : decide (48 ≤ c ∧ c ≤ 57) = false := by simp [h1]
    rw [e]
    clear e
    go_enter Tryd.func167, Tryd.ntmps167
    go_wp2_with fail
    go_ret
    exact ⟨rfl, rfl⟩

end Go.Proofs.YtachjodnhgmoiaaDoor
