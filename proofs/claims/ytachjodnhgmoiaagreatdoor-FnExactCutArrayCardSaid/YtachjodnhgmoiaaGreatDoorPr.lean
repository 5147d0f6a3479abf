/- A struct of two cells in a block. -/
import Derived.Test.YtachjodnhgmoiaaGreatDoorGr
namespace Go.Proofs.YtachjodnhgmoiaaGreatDoor
open Go.RowKit

/-- A struct of two cells in a block. -/
def Pr (w : World) (g : Nat) (t : TypeId) (a b : Value) : Prop := w.heap[g]? = some (.cells #[a, b] t (0, 0))
section
variable {w w' : World} {g : Nat} {t : TypeId} {a b : Value}
theorem Pr.new (w : World) (t : TypeId) (a b : Value) : Pr (w.alloc (.cells #[a, b] t)) w.heap.size t a b := heap_alloc_new w _
theorem Pr.c0 (h : Pr w g t a b) : w.cell? ⟨g, 0, none⟩ = some a := cell_of_row w g 0 _ _ (0, 0) h
theorem Pr.c1 (h : Pr w g t a b) : w.cell? ⟨g, 1, none⟩ = some b := cell_of_row w g 1 _ _ (0, 0) h
theorem Pr.f (h : Pr w g t a b) (i : Nat) : w.frozen? ⟨g, i, none⟩ = false := by
  unfold Pr at h
  simp [World.frozen?, h]
theorem Pr.lt (h : Pr w g t a b) : g < w.heap.size := (Array.getElem?_eq_some_iff.1 h).1
theorem Pr.set0 (h : Pr w g t a b) (u : Value) : Pr (w.setCell ⟨g, 0, none⟩ u) g t u b := by
  unfold Pr at h ⊢
  simp [World.setCell, Array.getElem?_modify, h]
theorem Pr.set1 (h : Pr w g t a b) (u : Value) : Pr (w.setCell ⟨g, 1, none⟩ u) g t a u := by
  unfold Pr at h ⊢
  simp [World.setCell, Array.getElem?_modify, h]
theorem Pr.alloc (h : Pr w g t a b) (o : Obj) : Pr (w.alloc o) g t a b := (Below.heap_alloc w o g h.lt).trans h
theorem Pr.grown {row : Option Nat} (h : Pr w g t a b) (hg : w.grownBy w' row) (hne : some g ≠ row) : Pr w' g t a b := (hg.block g h.lt hne).trans h
end

theorem gr_ownF {w w1 w2 : World} {row : Option Nat} (h : w.grownBy w1 none) (h2 : w1.grownBy w2 row) (hr : ∀ k, row = some k → w.heap.size ≤ k) : w.grownBy w2 none :=
  ⟨h2.os.trans h.os, h2.tape.trans h.tape, h2.output.trans h.output, Nat.le_trans h.size h2.size, fun k hk hne => (h2.block k (Nat.lt_of_lt_of_le hk h.size) (fun e => by have := hr k e.symm; omega)).trans (h.block k hk hne)⟩

end Go.Proofs.YtachjodnhgmoiaaGreatDoor
