/- A row of its own more. -/
import Derived.Test.YtachjodnhgmoiaaGreatDoorLayMem
namespace Go.Proofs.YtachjodnhgmoiaaGreatDoor
open Go.RowKit

theorem snoc_at {α : Type} {l : List α} {x y : α} {i : Nat} (h : (l ++ [x])[i]? = some y) : (i < l.length ∧ l[i]? = some y) ∨ (i = l.length ∧ y = x) := by
  rcases Nat.lt_or_ge i l.length with hi | hi
  · rw [List.getElem?_append_left hi] at h
    exact .inl ⟨hi, h⟩
  · rw [List.getElem?_append_right hi] at h
    have h0 : i - l.length = 0 := by
      have := (List.getElem?_eq_some_iff.1 h).1
      simp at this
      omega
    rw [h0] at h
    exact .inr ⟨by omega, by simpa using h.symm⟩
theorem LRows.push {w : World} {base : Nat} {vs : List Value} {LL : List (List Int)} {x : Value} {L : List Int} (h : LRows w base vs LL) (hx : w.ownsRow base 3 1 x L.length (L.map (Value.int .i64)))
    (hnew : ∀ (g i : Nat) (v : Value), x.ownBlock = some g → vs[i]? = some v → v.ownBlock ≠ some g) : LRows w base (vs ++ [x]) (LL ++ [L]) := by
  obtain ⟨h1, h2, h3⟩ := h
  refine ⟨by simp [h1], fun i v M hv hM => ?_, fun i j v u g hne hv hu hg => ?_⟩
  · rcases snoc_at hv with ⟨hi, hv'⟩ | ⟨hi, rfl⟩
    · rcases snoc_at hM with ⟨_, hM'⟩ | ⟨hi2, _⟩
      · exact h2 i v M hv' hM'
      · omega
    · rcases snoc_at hM with ⟨hi2, _⟩ | ⟨_, rfl⟩
      · omega
      · exact hx
  · rcases snoc_at hv with ⟨hi, hv'⟩ | ⟨hi, rfl⟩
    · rcases snoc_at hu with ⟨hj, hu'⟩ | ⟨hj, rfl⟩
      · exact h3 i j v u g hne hv' hu' hg
      · intro hg'
        exact hnew g i v hg' hv' hg
    · rcases snoc_at hu with ⟨hj, hu'⟩ | ⟨hj, rfl⟩
      · exact hnew g j u hg hu'
      · omega
theorem LRows.lt {w : World} {base : Nat} {vs : List Value} {LL : List (List Int)} (h : LRows w base vs LL) {i g : Nat} {v : Value} (hv : vs[i]? = some v) (hg : v.ownBlock = some g) : base ≤ g ∧ g < w.heap.size := by
  have hi : i < LL.length := by have := (List.getElem?_eq_some_iff.1 hv).1; have := h.1; omega
  exact (h.2.1 i v _ hv (List.getElem?_eq_getElem hi)).lt g hg
theorem LRows.low {w : World} {base base' : Nat} {vs : List Value} {LL : List (List Int)} (h : LRows w base vs LL) (hb : base' ≤ base) : LRows w base' vs LL := ⟨h.1, fun i v L hv hL => own_base (h.2.1 i v L hv hL) hb, h.2.2⟩

end Go.Proofs.YtachjodnhgmoiaaGreatDoor
