/- Plain: a row more among rows. -/
import Derived.Test.YtachjodnhgmoiaaLayMem
namespace Go.Proofs.Ytachjodnhgmoiaa
open Go.RowKit

theorem ins_at {α : Type} (vs : List α) (x d : α) (i : Nat) (v : α) (h : ((vs ++ [x]) ++ [d])[i]? = some v) :
    (i = vs.length ∧ v = x) ∨ (i < vs.length ∧ (vs ++ [d])[i]? = some v) ∨ (i = vs.length + 1 ∧ (vs ++ [d])[vs.length]? = some v) := by
  rcases Nat.lt_trichotomy i vs.length with h1 | h1 | h1
  · right; left
    refine ⟨h1, ?_⟩
    rw [List.append_assoc, List.getElem?_append_left h1] at h
    rw [List.getElem?_append_left h1]
    exact h
  · left
    subst h1
    rw [List.append_assoc, List.getElem?_append_right (Nat.le_refl _), Nat.sub_self] at h
    simp only [List.cons_append, List.getElem?_cons_zero, Option.some.injEq] at h
    exact ⟨rfl, h.symm⟩
  · right; right
    rw [List.append_assoc, List.getElem?_append_right (by omega)] at h
    have hi : i = vs.length + 1 := by
      have := (List.getElem?_eq_some_iff.1 h).1
      simp only [List.cons_append, List.nil_append, List.length_cons, List.length_nil] at this
      omega
    subst hi
    refine ⟨rfl, ?_⟩
    rw [List.getElem?_append_right (Nat.le_refl _), Nat.sub_self]
    have e : vs.length + 1 - vs.length = 1 := by omega
    rw [e] at h
    simpa using h
theorem LRows.insert {w : World} {base : Nat} {vs : List Value} {LL : List (List Int)} {d x : Value} {D L : List Int} (h : LRows w base (vs ++ [d]) (LL ++ [D])) (hl : vs.length = LL.length) (hx : w.ownsRow base 3 1 x L.length (L.map (Value.int .i64)))
    (hnew : ∀ (g i : Nat) (v : Value), x.ownBlock = some g → (vs ++ [d])[i]? = some v → v.ownBlock ≠ some g) : LRows w base ((vs ++ [x]) ++ [d]) ((LL ++ [L]) ++ [D]) := by
  obtain ⟨h1, h2, h3⟩ := h
  refine ⟨by simp; omega, fun i v M hv hM => ?_, fun i j v u g hne hv hu hg => ?_⟩
  · rcases ins_at _ _ _ i v hv with ⟨hi, rfl⟩ | ⟨hi, hv'⟩ | ⟨hi, hv'⟩
    · rcases ins_at _ _ _ i M hM with ⟨_, rfl⟩ | ⟨hi2, _⟩ | ⟨hi2, _⟩
      · exact hx
      · omega
      · omega
    · rcases ins_at _ _ _ i M hM with ⟨hi2, _⟩ | ⟨_, hM'⟩ | ⟨hi2, _⟩
      · omega
      · exact h2 i v M hv' hM'
      · omega
    · rcases ins_at _ _ _ i M hM with ⟨hi2, _⟩ | ⟨hi2, _⟩ | ⟨_, hM'⟩
      · omega
      · omega
      · exact h2 _ v M hv' (by rw [hl]; exact hM')
  · rcases ins_at _ _ _ i v hv with ⟨hi, rfl⟩ | ⟨hi, hv'⟩ | ⟨hi, hv'⟩
    · rcases ins_at _ _ _ j u hu with ⟨hj, _⟩ | ⟨_, hu'⟩ | ⟨_, hu'⟩
      · omega
      · exact hnew g j u hg hu'
      · exact hnew g _ u hg hu'
    · rcases ins_at _ _ _ j u hu with ⟨hj, rfl⟩ | ⟨hj, hu'⟩ | ⟨hj, hu'⟩
      · intro hg'; exact hnew g i v hg' hv' hg
      · exact h3 i j v u g hne hv' hu' hg
      · exact h3 i _ v u g (by omega) hv' hu' hg
    · rcases ins_at _ _ _ j u hu with ⟨hj, rfl⟩ | ⟨hj, hu'⟩ | ⟨hj, hu'⟩
      · intro hg'; exact hnew g _ v hg' hv' hg
      · exact h3 _ j v u g (by omega) hv' hu' hg
      · omega

end Go.Proofs.Ytachjodnhgmoiaa
