/- The cells of a row; how many terms the parts of a term hold. -/
import Derived.Test.YtboddoaekcchpaaGreatTmT
import Derived.Test.YtboddoaekcchpaaGreatTmM
namespace Go.Proofs.YtboddoaekcchpaaGreat
open Go.RowKit

/-- The cells of a row of one-cell things. -/
theorem orow {w : World} {base : Nat} {e : TypeId} {A : Option Addr} {k c n : Nat} {xs : List Value} (h : w.ownsRow base e 1 (.slice A k c) n xs) :
    k = n ∧ k ≤ c ∧ (0 < k → ∃ g, A = some ⟨g, 0, none⟩ ∧ base ≤ g ∧ g < w.heap.size ∧ ∀ (j : Nat) (x : Value), xs[j]? = some x → w.cell? ⟨g, j, none⟩ = some x) := by
  rcases h.2 with ⟨hv, hn⟩ | ⟨g, cap, cur, hv, hb, hg, hnc, hcm, hcs, htake⟩
  · cases hv
    exact ⟨hn.symm, Nat.le_refl _, fun h => by omega⟩
  · cases hv
    refine ⟨rfl, hnc, fun _ => ⟨g, rfl, hb, (Array.getElem?_eq_some_iff.1 hg).1, fun j x hj => ?_⟩⟩
    have hl := h.1
    have hjl : j < xs.length := by
      rcases Nat.lt_or_ge j xs.length with h | h
      · exact h
      · rw [List.getElem?_eq_none h] at hj; cases hj
    rw [cell_of_row w g j _ _ (0, 0) hg, ← hj, ← htake, List.getElem?_take, if_pos (by omega)]
    simp

theorem All2.get {α β : Type} {R : α → β → Prop} : ∀ {l : List α} {m : List β} {j : Nat}, All2 R l m → j < m.length → ∃ a b, l[j]? = some a ∧ m[j]? = some b ∧ R a b
  | a :: l, b :: m, 0, ⟨h, _⟩, _ => ⟨a, b, rfl, rfl, h⟩
  | _ :: l, _ :: m, j + 1, ⟨_, h⟩, hj => by
    obtain ⟨a, b, h1, h2, h3⟩ := All2.get (j := j) h (by simpa using hj)
    exact ⟨a, b, by simpa using h1, by simpa using h2, h3⟩
  | [], [], _, _, hj => by simp at hj
  | [], _ :: _, _, h, _ => h.elim
  | _ :: _, [], _, h, _ => h.elim

def csum : List Tm → Nat
  | [] => 0
  | t :: l => t.size + csum l
theorem csum_kids (t : Tm) : t.size = 1 + csum t.kids := by cases t <;> simp [Tm.size, Tm.kids, csum] <;> omega
theorem csum_step : ∀ {l : List Tm} {j : Nat} {t : Tm}, l[j]? = some t → csum (l.take (j + 1)) = csum (l.take j) + t.size
  | [], _, _, h => by simp at h
  | a :: l, 0, t, h => by simp at h; subst h; simp [csum]
  | a :: l, j + 1, t, h => by
    have := csum_step (l := l) (j := j) (by simpa using h)
    simp only [List.take_succ_cons, csum, this]; omega
theorem csum_take (l : List Tm) (j : Nat) : csum (l.take j) ≤ csum l := by
  induction l generalizing j with
  | nil => simp [csum]
  | cons a l ih =>
    cases j with
    | zero => simp [csum]
    | succ j => simp only [List.take_succ_cons, csum]; have := ih j; omega
theorem kids_len (t : Tm) : t.kids.length ≤ 2 := by cases t <;> simp [Tm.kids]

end Go.Proofs.YtboddoaekcchpaaGreat
