/- Strings in a row, and how long they are together. -/
import Derived.Test.YtachjodnhgmoiaaGreatDoorGr
namespace Go.Proofs.YtachjodnhgmoiaaGreatDoor
section
open Go.RowKit

/-- The slice's cells are these strings. -/
def Strs (w : World) (A : Option Addr) (ss : List ByteArray) : Prop :=
  0 < ss.length → ∃ b off, A = some ⟨b, off, none⟩ ∧ b < w.heap.size ∧ ∀ (j : Nat) (s : ByteArray), ss[j]? = some s → w.cell? ⟨b, off + j, none⟩ = some (.string s)
theorem Strs.grown {w w' : World} {A : Option Addr} {ss : List ByteArray} (h : Strs w A ss) (hg : w.grownBy w' none) : Strs w' A ss := fun hl => by
  obtain ⟨b, off, rfl, hb, hc⟩ := h hl
  exact ⟨b, off, rfl, Nat.lt_of_lt_of_le hb hg.size, fun j s hj => hg.cell (hc j s hj) (by simp)⟩

/-- The sum of the lengths. -/
def tot : List ByteArray → Nat
  | [] => 0
  | s :: l => s.size + tot l
theorem tot_append : ∀ (l m : List ByteArray), tot (l ++ m) = tot l + tot m
  | [], m => by simp [tot]
  | s :: l, m => by simp [tot, tot_append l m, Nat.add_assoc]
theorem tot_step {ss : List ByteArray} {j : Nat} {s : ByteArray} (h : ss[j]? = some s) : tot (ss.take (j + 1)) = tot (ss.take j) + s.size := by
  rw [List.take_add_one, h, tot_append]
  simp [tot]
end

end Go.Proofs.YtachjodnhgmoiaaGreatDoor
