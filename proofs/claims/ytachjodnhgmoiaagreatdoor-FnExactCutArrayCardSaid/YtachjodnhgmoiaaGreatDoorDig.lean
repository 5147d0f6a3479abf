/- What isDigit of the program does. -/
import Derived.Test.YtachjodnhgmoiaaGreatDoorGr
namespace Go.Proofs.YtachjodnhgmoiaaGreatDoor
open Go.RowKit

theorem isdigit_any (c : Int) (b : Bool) (hb : decide (48 ≤ c ∧ c ≤ 57) = b) (w : World) :
    Calls Tryz.prog 112 #[.int .u8 c] w fun e w' => e = .returned (.bool b) ∧ w' = w := by
  subst hb
  by_cases h1 : 48 ≤ c
  · have e : decide (48 ≤ c ∧ c ≤ 57) = decide (c ≤ 57) := by simp [h1]
    rw [e]
    clear e
    go_enter Tryz.func112, Tryz.ntmps112
    go_wp2_with fail
    go_ret
    exact ⟨rfl, rfl⟩
  · have e : decide (48 ≤ c ∧ c ≤ 57) = false := by simp [h1]
    rw [e]
    clear e
    go_enter Tryz.func112, Tryz.ntmps112
    go_wp2_with fail
    go_ret
    exact ⟨rfl, rfl⟩

end Go.Proofs.YtachjodnhgmoiaaGreatDoor
