/- Small laws on what a step grows or draws. -/
import Derived.Test.YtachjodnhgmoiaaGreatDoorRows
import Derived.WalkKit
import Derived.WalkSpells
import Derived.WalkLawsBesides
import Derived.Deep.QuietTactic
import Derived.BigQuiet
import Derived.Lib.Hide
import Derived.Maps.AppendAt
namespace Go.Proofs.YtachjodnhgmoiaaGreatDoor
open Go.RowKit

theorem gr_refl (w : World) (row : Option Nat) : w.grownBy w row := ⟨rfl, rfl, rfl, Nat.le_refl _, fun _ _ _ => rfl⟩
theorem gr_drewN (w : World) (n : Nat) (row : Option Nat) : w.grownBy (w.drewN n) row := ⟨rfl, rfl, rfl, Nat.le_refl _, fun _ _ _ => rfl⟩
theorem gr_set (w : World) (g i : Nat) (u : Value) : w.grownBy (w.setCell ⟨g, i, none⟩ u) (some g) :=
  ⟨rfl, rfl, rfl, by simp [World.setCell], fun k _ hk => Below.heap_setCell _ _ _ _ (fun e => hk (by simp [e]))⟩

theorem gr_new {w w1 w2 : World} {g : Nat} (h : w.grownBy w1 none) (h2 : w1.grownBy w2 (some g)) (hg : w.heap.size ≤ g) : w.grownBy w2 none :=
  ⟨h2.os.trans h.os, h2.tape.trans h.tape, h2.output.trans h.output, Nat.le_trans h.size h2.size, fun k hk hne => (h2.block k (Nat.lt_of_lt_of_le hk h.size) (by simp; omega)).trans (h.block k hk hne)⟩

/-- A callee that leaves the world alone, met in a region that only reads, where draws went ahead of the region. -/
theorem qsame {P : Program} {f : FuncId} {args : Array Value} {w : World} {k j : Nat} {v : Value} (c : ∀ u : World, Calls P f args u fun e u' => e = .returned v ∧ u' = u) :
    Calls P f args (w.drewN (k + j)) fun e u' => e = .returned v ∧ ∃ m, u' = w.drewN (k + m) :=
  (c _).mono fun _ _ ⟨he, hu⟩ => ⟨he, j, hu⟩

end Go.Proofs.YtachjodnhgmoiaaGreatDoor
