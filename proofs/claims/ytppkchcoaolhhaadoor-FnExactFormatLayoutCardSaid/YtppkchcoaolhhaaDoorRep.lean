/- How an array that was read lies in memory: numbers, and nodes behind an interface with their parts in a row; and that it stays while other blocks are written. -/
import Derived.Test.YtppkchcoaolhhaaDoorNum
namespace Go.Proofs.YtppkchcoaolhhaaDoor
open Go.RowKit

/-- The two lists go along each other. -/
def All2 {α β : Type} (R : α → β → Prop) : List α → List β → Prop
  | [], [] => True
  | a :: l, v :: m => R a v ∧ All2 R l m
  | _, _ => False

theorem All2.mono {α β : Type} {R R' : α → β → Prop} (h : ∀ a v, R a v → R' a v) : ∀ (l : List α) (m : List β), All2 R l m → All2 R' l m
  | [], [], _ => trivial
  | _ :: l, _ :: m, ⟨h1, h2⟩ => ⟨h _ _ h1, All2.mono h l m h2⟩
  | [], _ :: _, h => h.elim
  | _ :: _, [], h => h.elim
theorem All2.snoc {α β : Type} {R : α → β → Prop} {a : α} {v : β} (h : R a v) : ∀ (l : List α) (m : List β), All2 R l m → All2 R (l ++ [a]) (m ++ [v])
  | [], [], _ => ⟨h, trivial⟩
  | _ :: l, _ :: m, ⟨h1, h2⟩ => ⟨h1, All2.snoc h l m h2⟩
  | [], _ :: _, h => h.elim
  | _ :: _, [], h => h.elim
theorem All2.length {α β : Type} {R : α → β → Prop} : ∀ (l : List α) (m : List β), All2 R l m → l.length = m.length
  | [], [], _ => rfl
  | _ :: l, _ :: m, ⟨_, h2⟩ => by simp [All2.length l m h2]
  | [], _ :: _, h => h.elim
  | _ :: _, [], h => h.elim

/-- The types of a node, by the depth of its parts. -/
def ptrT : Nat → TypeId
  | 0 => 109
  | _ + 1 => 114
def strT : Nat → TypeId
  | 0 => 113
  | _ + 1 => 118
def elT : Nat → TypeId
  | 0 => 107
  | _ + 1 => 57

/-- A part as it stands in a row: a number, or a node. Its blocks are among S. -/
def Nd (w : World) (S : Nat → Prop) : (d : Nat) → T d → Value → Prop
  | 0, n, v => v = .int .i64 (show Nat from n : Nat)
  | d + 1, ts, v => ∃ b sv xs, v = .iface (ptrT d) (.pointer (some ⟨b, 0, none⟩)) ∧ S b ∧ w.heap[b]? = some (.cells #[sv] (strT d) (0, 0)) ∧
      w.ownsRow 0 (elT d) 1 sv xs.length xs ∧ (∀ g, sv.ownBlock = some g → S g) ∧ All2 (Nd w S d) ts xs

/-- A whole array behind the interface. -/
def RepI (w : World) (S : Nat → Prop) : (d : Nat) → T d → Value → Prop
  | 0, n, v => v = .iface 107 (.int .i64 (show Nat from n : Nat))
  | d + 1, ts, v => Nd w S (d + 1) ts v

theorem own_keep {w w' : World} {base : Nat} {e : TypeId} {size n : Nat} {v : Value} {xs : List Value} (h : w.ownsRow base e size v n xs)
    (hk : ∀ g, v.ownBlock = some g → w'.heap[g]? = w.heap[g]?) : w'.ownsRow base e size v n xs := by
  refine ⟨h.1, ?_⟩
  rcases h.2 with hn | ⟨g, cap, cur, rfl, hb, hgg, rest⟩
  · exact .inl hn
  · exact .inr ⟨g, cap, cur, rfl, hb, (hk g rfl).trans hgg, rest⟩
theorem own_base {w : World} {base base' : Nat} {e : TypeId} {size n : Nat} {v : Value} {xs : List Value} (h : w.ownsRow base e size v n xs) (hb' : base' ≤ base) : w.ownsRow base' e size v n xs := by
  refine ⟨h.1, ?_⟩
  rcases h.2 with hn | ⟨g, cap, cur, rfl, hb, rest⟩
  · exact .inl hn
  · exact .inr ⟨g, cap, cur, rfl, by omega, rest⟩

theorem own_form {w : World} {base : Nat} {e : TypeId} {size n : Nat} {v : Value} {xs : List Value} (h : w.ownsRow base e size v n xs) : ∃ A m c, v = .slice A m c := by
  rcases h.2 with ⟨hv, _⟩ | ⟨g, cap, cur, hv, _⟩
  · exact ⟨_, _, _, hv⟩
  · exact ⟨_, _, _, hv⟩

theorem Nd.keep {w w' : World} {S S' : Nat → Prop} (hk : ∀ b, S b → b < w.heap.size → w'.heap[b]? = w.heap[b]?) (hs : ∀ b, S b → b < w.heap.size → S' b) : ∀ (d : Nat) (t : T d) (v : Value), Nd w S d t v → Nd w' S' d t v
  | 0, _, _, h => h
  | d + 1, ts, v, ⟨b, sv, xs, hv, hb, hh, ho, hS, ha⟩ => by
    have hl : b < w.heap.size := by
      rcases Nat.lt_or_ge b w.heap.size with hlt | hge
      · exact hlt
      · rw [Array.getElem?_eq_none hge] at hh; cases hh
    have hl2 : ∀ g, sv.ownBlock = some g → g < w.heap.size := fun g hg => (ho.lt g hg).2
    exact ⟨b, sv, xs, hv, hs b hb hl, (hk b hb hl).trans hh, own_keep ho (fun g hg => hk g (hS g hg) (hl2 g hg)), fun g hg => hs g (hS g hg) (hl2 g hg), All2.mono (Nd.keep hk hs d) ts xs ha⟩
theorem RepI.keep {w w' : World} {S S' : Nat → Prop} (hk : ∀ b, S b → b < w.heap.size → w'.heap[b]? = w.heap[b]?) (hs : ∀ b, S b → b < w.heap.size → S' b) : ∀ (d : Nat) (t : T d) (v : Value), RepI w S d t v → RepI w' S' d t v
  | 0, _, _, h => h
  | d + 1, ts, v, h => Nd.keep hk hs (d + 1) ts v h

end Go.Proofs.YtppkchcoaolhhaaDoor
