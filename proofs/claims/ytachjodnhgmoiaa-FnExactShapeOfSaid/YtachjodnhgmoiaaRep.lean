/- How an array that was read lies in memory: numbers, and nodes behind an interface with their parts in a row; and that it stays while other blocks are written. -/
import Derived.Test.YtachjodnhgmoiaaNum
import Derived.Test.YtachjodnhgmoiaaOwn
namespace Go.Proofs.Ytachjodnhgmoiaa
open Go.RowKit

/-- The types of a node, by the depth of its parts. -/
def ptrT : Nat → TypeId
  | 0 => 67
  | _ + 1 => 72
def strT : Nat → TypeId
  | 0 => 71
  | _ + 1 => 76
def elT : Nat → TypeId
  | 0 => 65
  | _ + 1 => 38

/-- A part as it stands in a row: a number, or a node. Its blocks are among S. -/
def Nd (w : World) (S : Nat → Prop) : (d : Nat) → T d → Value → Prop
  | 0, n, v => v = .int .i64 (show Nat from n : Nat)
  | d + 1, ts, v => ∃ b sv xs, v = .iface (ptrT d) (.pointer (some ⟨b, 0, none⟩)) ∧ S b ∧ w.heap[b]? = some (.cells #[sv] (strT d) (0, 0)) ∧
      w.ownsRow 0 (elT d) 1 sv xs.length xs ∧ (∀ g, sv.ownBlock = some g → S g) ∧ All2 (Nd w S d) ts xs

/-- A whole array behind the interface. -/
def RepI (w : World) (S : Nat → Prop) : (d : Nat) → T d → Value → Prop
  | 0, n, v => v = .iface 65 (.int .i64 (show Nat from n : Nat))
  | d + 1, ts, v => Nd w S (d + 1) ts v

theorem Nd.keep {w w' : World} {S S' : Nat → Prop} (hk : ∀ b, S b → b < w.heap.size → w'.heap[b]? = w.heap[b]?) (hs : ∀ b, S b → b < w.heap.size → S' b) : ∀ (d : Nat) (t : T d) (v : Value), Nd w S d t v → Nd w' S' d t v
  | 0, _, _, h => h
  | d + 1, ts, v, ⟨b, sv, xs, hv, hb, hh, ho, hS, ha⟩ => by
    have hl : b < w.heap.size := by
      rcases Nat.lt_or_ge b w.heap.size with hlt | hge
      · exact hlt
      · rw [Array.getElem?_eq_none hge] at hh; cases hh
    have hl2 : ∀ g, sv.ownBlock = some g → g < w.heap.size := fun g hg => (ho.lt g hg).2
    exact ⟨b, sv, xs, hv, hs b hb hl, (hk b hb hl).trans hh, own_keep ho (fun g hg => hk g (hS g hg) (hl2 g hg)), fun g hg => hs g (hS g hg) (hl2 g hg), All2.mono (Nd.keep hk hs d) ts xs ha⟩
theorem RepI.keep {w w' : World} {S S' : Nat → Prop} (hk : ∀ b, S b → b < w.heap.size → w'.heap[b]? = w.heap[b]?) (hs : ∀ b, S b → b < w.heap.size → S' b) : ∀ (d : Nat) (t : T d) (v : Value), RepI w S d t v → RepI w' S' d t v
  | 0, _, _, h => h
  | d + 1, ts, v, h => Nd.keep hk hs (d + 1) ts v h

end Go.Proofs.Ytachjodnhgmoiaa
