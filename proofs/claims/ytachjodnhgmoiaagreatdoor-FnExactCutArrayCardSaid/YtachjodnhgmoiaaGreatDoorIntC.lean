/- Slices of ints in memory. -/
import Derived.Test.YtachjodnhgmoiaaGreatDoorGr
import Derived.Test.YtachjodnhgmoiaaGreatDoorPr
import Derived.IntWalk
import Derived.Below
import Derived.Test.YtachjodnhgmoiaaGreatDoorOwn
namespace Go.Proofs.YtachjodnhgmoiaaGreatDoor
open Go.RowKit

/-- The slice's cells are these ints. -/
def Ints (w : World) (A : Option Addr) (zs : List Int) : Prop :=
  0 < zs.length → ∃ b off, A = some ⟨b, off, none⟩ ∧ b < w.heap.size ∧ ∀ (j : Nat) (z : Int), zs[j]? = some z → w.cell? ⟨b, off + j, none⟩ = some (.int .i64 z)
theorem Ints.grown {w w' : World} {A : Option Addr} {zs : List Int} {row : Option Nat} (h : Ints w A zs) (hg : w.grownBy w' row) (hne : ∀ b off, A = some ⟨b, off, none⟩ → some b ≠ row) : Ints w' A zs := fun hl => by
  obtain ⟨b, off, rfl, hb, hc⟩ := h hl
  exact ⟨b, off, rfl, Nat.lt_of_lt_of_le hb hg.size, fun j z hj => hg.cell (hc j z hj) (hne b off rfl)⟩
theorem Ints.at_ {w : World} {A : Option Addr} {zs : List Int} {j : Nat} (h : Ints w A zs) (hj : j < zs.length) : ∃ b off, A = some ⟨b, off, none⟩ ∧ w.cell? ⟨b, off + j, none⟩ = some (.int .i64 zs[j]) := by
  obtain ⟨b, off, hA, _, hc⟩ := h (by omega)
  exact ⟨b, off, hA, hc j _ (List.getElem?_eq_getElem hj)⟩
theorem Ints.of_own {w : World} {base e : Nat} {A : Option Addr} {k c : Nat} {zs : List Int} (h : w.ownsRow base e 1 (.slice A k c) zs.length (zs.map (Value.int .i64))) : Ints w A zs := fun hl => by
  rcases h.2 with ⟨hv, hn⟩ | ⟨g, cap, cur, hv, _, hg, hnc, _, hcs, htake⟩
  · omega
  · cases hv
    refine ⟨g, 0, rfl, (Array.getElem?_eq_some_iff.1 hg).1, fun j z hj => ?_⟩
    have hjl : j < zs.length := by
      rcases Nat.lt_or_ge j zs.length with h | h
      · exact h
      · rw [List.getElem?_eq_none h] at hj; cases hj
    rw [Nat.zero_add, cell_of_row w g j _ _ (0, 0) hg]
    have : (cur.toList.take (zs.length * 1))[j]? = some (.int .i64 z) := by rw [htake, List.getElem?_map, hj]; rfl
    rw [List.getElem?_take, if_pos (by omega)] at this
    simpa using this
theorem infoJ : (Tryz.prog.info? 3).map (fun i => (i.zero, i.size, i.bytes)) = some (some (.int .i64 0), 1, 8) := by kernel_rfl
theorem addr_flat (b off i : Nat) : (⟨b, off, none⟩ : Addr).add i = ⟨b, off + i, none⟩ := by unfold Addr.add; split <;> simp_all

end Go.Proofs.YtachjodnhgmoiaaGreatDoor
