/- Lists along each other; rows that are owned, kept while other blocks are written. -/
import Derived.Test.YtachjodnhgmoiaaGreatDoorGr
namespace Go.Proofs.YtachjodnhgmoiaaGreatDoor
open Go.RowKit

/-- The two lists go along each other. -/
def All2 {α β : Type} (R : α → β → Prop) : List α → List β → Prop
  | [], [] => True
  | a :: l, v :: m => R a v ∧ All2 R l m
  | _, _ => False

theorem All2.mono {α β : Type} {R R' : α → β → Prop} (h : ∀ a v, R a v → R' a v) : ∀ (l : List α) (m : List β), All2 R l m → All2 R' l m
  | [], [], _ => trivial
  | _ :: l, _ :: m, ⟨h1, h2⟩ => ⟨h _ _ h1, All2.mono h l m h2⟩
  | [], _ :: _, h => h.elim
  | _ :: _, [], h => h.elim
theorem All2.snoc {α β : Type} {R : α → β → Prop} {a : α} {v : β} (h : R a v) : ∀ (l : List α) (m : List β), All2 R l m → All2 R (l ++ [a]) (m ++ [v])
  | [], [], _ => ⟨h, trivial⟩
  | _ :: l, _ :: m, ⟨h1, h2⟩ => ⟨h1, All2.snoc h l m h2⟩
  | [], _ :: _, h => h.elim
  | _ :: _, [], h => h.elim
theorem All2.length {α β : Type} {R : α → β → Prop} : ∀ (l : List α) (m : List β), All2 R l m → l.length = m.length
  | [], [], _ => rfl
  | _ :: l, _ :: m, ⟨_, h2⟩ => by simp [All2.length l m h2]
  | [], _ :: _, h => h.elim
  | _ :: _, [], h => h.elim

theorem own_keep {w w' : World} {base : Nat} {e : TypeId} {size n : Nat} {v : Value} {xs : List Value} (h : w.ownsRow base e size v n xs)
    (hk : ∀ g, v.ownBlock = some g → w'.heap[g]? = w.heap[g]?) : w'.ownsRow base e size v n xs := by
  refine ⟨h.1, ?_⟩
  rcases h.2 with hn | ⟨g, cap, cur, rfl, hb, hgg, rest⟩
  · exact .inl hn
  · exact .inr ⟨g, cap, cur, rfl, hb, (hk g rfl).trans hgg, rest⟩
theorem own_base {w : World} {base base' : Nat} {e : TypeId} {size n : Nat} {v : Value} {xs : List Value} (h : w.ownsRow base e size v n xs) (hb' : base' ≤ base) : w.ownsRow base' e size v n xs := by
  refine ⟨h.1, ?_⟩
  rcases h.2 with hn | ⟨g, cap, cur, rfl, hb, rest⟩
  · exact .inl hn
  · exact .inr ⟨g, cap, cur, rfl, by omega, rest⟩

theorem own_form {w : World} {base : Nat} {e : TypeId} {size n : Nat} {v : Value} {xs : List Value} (h : w.ownsRow base e size v n xs) : ∃ A m c, v = .slice A m c := by
  rcases h.2 with ⟨hv, _⟩ | ⟨g, cap, cur, hv, _⟩
  · exact ⟨_, _, _, hv⟩
  · exact ⟨_, _, _, hv⟩

end Go.Proofs.YtachjodnhgmoiaaGreatDoor
