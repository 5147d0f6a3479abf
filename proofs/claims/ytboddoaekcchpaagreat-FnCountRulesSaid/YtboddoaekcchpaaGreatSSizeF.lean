/- How the parts of a node of the model read. -/
import Derived.Test.YtboddoaekcchpaaGreatTSizeF
import Derived.Test.YtboddoaekcchpaaGreatSTerm
namespace Go.Proofs.YtboddoaekcchpaaGreat
open Go.RowKit

theorem SN.kids {w : World} {S : Nat → Prop} {t : Tm} {a b : Int} {sv : Value} (h : SN w S t (a, b, sv)) : ∃ xs, w.ownsRow 0 57 3 sv xs.length (flat3 xs) ∧ All2 (SN w S) t.kids xs := by
  cases t with
  | dig c => obtain ⟨_, _, ho, _⟩ := h; exact ⟨[], ho, trivial⟩
  | var c => obtain ⟨_, _, ho, _⟩ := h; exact ⟨[], ho, trivial⟩
  | pre c s => obtain ⟨_, _, y, ho, _, h1⟩ := h; exact ⟨[y], ho, h1, trivial⟩
  | two c s t => obtain ⟨_, _, y, z, ho, _, h1, h2⟩ := h; exact ⟨[y, z], ho, h1, h2, trivial⟩
  | loop c i s t => obtain ⟨_, _, y, z, ho, _, h1, h2⟩ := h; exact ⟨[y, z], ho, h1, h2, trivial⟩

theorem flat3_at : ∀ (l : List (Int × Int × Value)) (j : Nat) (x : Int × Int × Value), l[j]? = some x → (flat3 l)[j * 3]? = some (.int .u8 x.1) ∧ (flat3 l)[j * 3 + 1]? = some (.int .u8 x.2.1) ∧ (flat3 l)[j * 3 + 2]? = some x.2.2
  | [], j, x, h => by simp at h
  | (m, n, sv) :: l, 0, x, h => by simp at h; subst h; exact ⟨rfl, rfl, rfl⟩
  | (m, n, sv) :: l, j + 1, x, h => by
    have := flat3_at l j x (by simpa using h)
    have e1 : (j + 1) * 3 = j * 3 + 1 + 1 + 1 := by omega
    rw [e1]
    exact this

/-- A model row whose slice is known: its length, and the cells of each part. -/
theorem srow3 {w : World} {A : Option Addr} {k c : Nat} {xs : List (Int × Int × Value)} (h : w.ownsRow 0 57 3 (.slice A k c) xs.length (flat3 xs)) :
    k = xs.length ∧ k ≤ c ∧ (0 < k → ∃ g, A = some ⟨g, 0, none⟩ ∧ g < w.heap.size ∧ ∀ (j : Nat) (x : Int × Int × Value), xs[j]? = some x → w.cell? ⟨g, j * 3, none⟩ = some (.int .u8 x.1) ∧ w.cell? ⟨g, j * 3 + 1, none⟩ = some (.int .u8 x.2.1) ∧ w.cell? ⟨g, j * 3 + 2, none⟩ = some x.2.2) := by
  rcases h.2 with ⟨hv, hn⟩ | ⟨g, cap, cur, hv, _, hg, hnc, hcm, hcs, htake⟩
  · cases hv
    exact ⟨by omega, by omega, fun h => by omega⟩
  · cases hv
    refine ⟨rfl, hnc, fun _ => ⟨g, rfl, (Array.getElem?_eq_some_iff.1 hg).1, fun j x hj => ?_⟩⟩
    have hjl : j < xs.length := by
      rcases Nat.lt_or_ge j xs.length with h | h
      · exact h
      · rw [List.getElem?_eq_none h] at hj; cases hj
    have hf := flat3_at xs j x hj
    have hc : ∀ i, i < xs.length * 3 → w.cell? ⟨g, i, none⟩ = (flat3 xs)[i]? := fun i hi => by
      rw [cell_of_row w g i _ _ (0, 0) hg, ← htake, List.getElem?_take, if_pos hi]
      simp
    exact ⟨(hc _ (by omega)).trans hf.1, (hc _ (by omega)).trans hf.2.1, (hc _ (by omega)).trans hf.2.2⟩

end Go.Proofs.YtboddoaekcchpaaGreat
