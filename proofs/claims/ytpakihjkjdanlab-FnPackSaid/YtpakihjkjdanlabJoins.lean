/- The functions that foldSegments of the program is handed. -/
import Derived.Test.YtpakihjkjdanlabFoldSg
namespace Go.Proofs.Ytpakihjkjdanlab
open Go.RowKit

theorem ret_intY {a b : Int} (h : a = b) : Ending.returned (.int .i64 a) = .returned (.int .i64 b) := by rw [h]

def addF (a b : Int) : Int := (a + b) % 10007
def mostF (a b : Int) : Int := max a b
def countF (a b : Int) : Int := if b = 0 then a else a + 1
def plusF (a b : Int) : Int := a + b

set_option maxHeartbeats 400000 in
theorem joins_add : Joins2 60 addF 0 (fun _ => 10006) where
  enters := enters_of Try.func60 (by kernel_rfl) rfl
  call := fun j a b u _ h0 h1 h2 h3 => by
    go_enter Try.func60, Try.ntmps60
    go_wp2_with fail
    go_ret
    exact ⟨rfl, rfl⟩
  stays := fun j a b h0 h1 h2 h3 => by unfold addF; omega

set_option maxHeartbeats 400000 in
theorem joins_most : Joins2 62 mostF 0 (fun _ => 10006) where
  enters := enters_of Try.func62 (by kernel_rfl) rfl
  call := fun j a b u _ h0 h1 h2 h3 => by
    go_enter Try.func62, Try.ntmps62
    go_wp2_with fail
    all_goals
      go_ret
      exact ⟨ret_intY (by unfold mostF; omega), rfl⟩
  stays := fun j a b h0 h1 h2 h3 => by unfold mostF; omega

set_option maxHeartbeats 400000 in
theorem joins_count : Joins2 67 countF 0 (fun j => j) where
  enters := enters_of Try.func67 (by kernel_rfl) rfl
  call := fun j a b u hj h0 h1 h2 h3 => by
    have h4 : a ≤ 1048576 := by omega
    by_cases hb : b = 0
    · subst hb
      clear h1
      go_enter Try.func67, Try.ntmps67
      go_wp2_with fail
      go_ret
      exact ⟨rfl, rfl⟩
    · have hb2 : (b == 0) = false := by simpa using hb
      have e : countF a b = a + 1 := by simp [countF, hb]
      rw [e]
      clear h1 hb e
      go_enter Try.func67, Try.ntmps67
      go_wp2_with fail
      go_ret
      exact ⟨rfl, rfl⟩
  stays := fun j a b h0 h1 h2 h3 => by unfold countF; split <;> omega

set_option maxHeartbeats 400000 in
theorem joins_plus : Joins2 69 plusF 0 (fun j => 10006 * j) where
  enters := enters_of Try.func69 (by kernel_rfl) rfl
  call := fun j a b u hj h0 h1 h2 h3 => by
    have h4 : a ≤ 100000000000 := by omega
    clear h1
    go_enter Try.func69, Try.ntmps69
    go_wp2_with fail
    go_ret
    exact ⟨rfl, rfl⟩
  stays := fun j a b h0 h1 h2 h3 => by unfold plusF; omega

end Go.Proofs.Ytpakihjkjdanlab
