/- Plain facts: how many numbers levels have that lie one behind another. -/
import Derived.Test.YtdfanconjiiceaaLevels
namespace Go.Proofs.Ytdfanconjiiceaa

theorem totL_addL : ∀ (A B : List (List Int)), A.length = B.length → totL (addL A B) = totL A + totL B
  | [], [], _ => rfl
  | L :: A, M :: B, h => by
    have := totL_addL A B (by simpa using h)
    unfold addL at this ⊢
    simp only [List.zipWith_cons_cons, totL, List.length_append, this]
    omega
  | [], _ :: _, h => by simp at h
  | _ :: _, [], h => by simp at h
theorem totL_lv_nil : ∀ d, totL (lv d []) = 0
  | 0 => rfl
  | d + 1 => by simp [lv, totL, totL_lv_nil d]

end Go.Proofs.Ytdfanconjiiceaa
