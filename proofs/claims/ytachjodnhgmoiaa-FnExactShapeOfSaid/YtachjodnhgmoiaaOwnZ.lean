/- Owned layouts: when the heap grows, and the empty one. -/
import Derived.Test.YtachjodnhgmoiaaFam
namespace Go.Proofs.Ytachjodnhgmoiaa
open Go.RowKit

theorem OwnLyt.grown {w w' : World} {base : Nat} {u : Value} {LL : List (List Int)} {D : List Int} (h : OwnLyt w base u LL D) (hg : w.grownBy w' none) : OwnLyt w' base u LL D := by
  obtain ⟨A, c, d, vs, rfl, hc, ho, hf⟩ := h
  exact ⟨A, c, d, vs, rfl, hc, own_keep ho (fun g hb => hg.block g (ho.lt g hb).2 (by simp)), hf.grown hg⟩
theorem OwnLyt.zero (w : World) (base : Nat) : OwnLyt w base (.agg #[.slice none 0 0, .slice none 0 0]) [] [] := by
  refine ⟨none, 0, .slice none 0 0, [], rfl, Nat.le_refl _, World.ownsRow_nil _ _ _ _, fun i L hi hL => ?_, fun i i' v u L L' g hi hi' hne => ?_⟩
  · have h0 : i = 0 := by simpa using hi
    subst h0
    simp at hL
    subst hL
    exact ⟨_, rfl, none, 0, rfl, Nat.le_refl _, fun h => by simp at h⟩
  · simp at hi hi'
    omega

end Go.Proofs.Ytachjodnhgmoiaa
