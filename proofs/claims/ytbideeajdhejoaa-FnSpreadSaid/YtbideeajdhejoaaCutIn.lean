/- Plain facts: segments' numbers are in bounds. -/
import Derived.Test.YtbideeajdhejoaaSeg
namespace Go.Proofs.Ytbideeajdhejoaa

/-- The segments' numbers are in bounds, and they are no longer than the data. -/
theorem cutI_in : ∀ (L D : List Int) (j : Nat) (seg : List Int), okN 10006 D = true → (cutI L D)[j]? = some seg → okN 10006 seg = true ∧ seg.length ≤ D.length
  | [], _, _, _, _, h => by simp [cutI] at h
  | z :: L, D, 0, seg, hok, h => by
    simp only [cutI, List.getElem?_cons_zero, Option.some.injEq] at h
    subst h
    exact ⟨okN_take hok _, by rw [List.length_take]; omega⟩
  | z :: L, D, j + 1, seg, hok, h => by
    have := cutI_in L (D.drop z.toNat) j seg (okN_drop hok _) (by simpa [cutI] using h)
    exact ⟨this.1, by have := this.2; rw [List.length_drop] at this; omega⟩

end Go.Proofs.Ytbideeajdhejoaa
