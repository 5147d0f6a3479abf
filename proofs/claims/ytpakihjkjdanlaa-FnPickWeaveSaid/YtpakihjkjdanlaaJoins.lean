/- The functions that foldSegments of the program is handed. -/
import Derived.Test.YtpakihjkjdanlaaFoldSg
namespace Go.Proofs.Ytpakihjkjdanlaa
open Go.RowKit

theorem ret_intY {a b : Int} (h : a = b) : Ending.returned (.int .i64 a) = .returned (.int .i64 b) := by rw [h]

def addF (a b : Int) : Int := (a + b) % 10007
def mostF (a b : Int) : Int := max a b
def countF (a b : Int) : Int := if b = 0 then a else a + 1
def plusF (a b : Int) : Int := a + b

set_option maxHeartbeats 400000 in
theorem joins_add : Joins2 84 addF 0 (fun _ => 10006) where
  enters := enters_of Try.func84 (by kernel_rfl) rfl
  call := fun j a b u _ h0 h1 h2 h3 => by
    go_enter Try.func84, Try.ntmps84
    go_wp2_with fail
    go_ret
    exact ⟨rfl, rfl⟩
  stays := fun j a b h0 h1 h2 h3 => by unfold addF; omega

set_option maxHeartbeats 400000 in
theorem joins_count : Joins2 86 countF 0 (fun j => j) where
  enters := enters_of Try.func86 (by kernel_rfl) rfl
  call := fun j a b u hj h0 h1 h2 h3 => by
    have h4 : a ≤ 1048576 := by omega
    by_cases hb : b = 0
    · subst hb
      clear h1
      go_enter Try.func86, Try.ntmps86
      go_wp2_with fail
      go_ret
      exact ⟨rfl, rfl⟩
    · have hb2 : (b == 0) = false := by simpa using hb
      have e : countF a b = a + 1 := by simp [countF, hb]
      rw [e]
      clear h1 hb e
      go_enter Try.func86, Try.ntmps86
      go_wp2_with fail
      go_ret
      exact ⟨rfl, rfl⟩
  stays := fun j a b h0 h1 h2 h3 => by unfold countF; split <;> omega

end Go.Proofs.Ytpakihjkjdanlaa
