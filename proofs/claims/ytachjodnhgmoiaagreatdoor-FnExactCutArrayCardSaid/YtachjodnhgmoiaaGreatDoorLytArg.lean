/- A layout that came in as an argument: its lists of ints. -/
import Derived.Test.YtachjodnhgmoiaaGreatDoorFam
import Derived.ProofKit
import Derived.Lib.SmallJoins
import Derived.Deep.Matrix
import Derived.SizedLaws
namespace Go.Proofs.YtachjodnhgmoiaaGreatDoor
open Go.ChangeShapes Go.WideShapes Go.ChangeAt Go.RowKit Go.Joins Go.Deep
open Go.ChangeMaps (open_string shut_string)

theorem knob_own : ownKnob Tryz.prog.godebug = none := by kernel_rfl
theorem below_of {w w' : World} (h : w.grownBy w' none) : Below w.heap.size w w' := ⟨h.os, h.tape, h.output, h.size, fun k hk => h.block k hk (by simp)⟩
theorem cellsI : Tryz.prog.cellsOf 3 = 1 := by kernel_rfl
theorem cellsL : Tryz.prog.cellsOf 25 = 1 := by kernel_rfl
theorem laid_out : laidOutB Tryz.prog = true := by kernel_rfl

theorem ints_cells {W : World} {a : Addr} {L : List Int} (h : ∀ c, c < L.length → W.cell? (a.add c) = some (.int .i64 (L.getD c 0))) : Ints W (some a) L := fun hpos => by
  obtain ⟨b, off, spot⟩ := a
  have hspot : spot = none := by simpa [Addr.add] using World.cell?_spot (h 0 (by omega))
  subst hspot
  have hc0 := h 0 (by omega)
  rw [addr_flat] at hc0
  refine ⟨b, off, rfl, World.block_lt_of_cell? W _ hc0, fun j z hj => ?_⟩
  have hjl : j < L.length := (List.getElem?_eq_some_iff.1 hj).1
  have := h j hjl
  rw [addr_flat] at this
  rw [this, List.getD_eq_getElem?_getD, hj]
  rfl

section
variable {H : Type} {enc : TypeId × Value → H}

theorem open_listarg {W : World} {fuel : Nat} {v : Value} {x : DataW H × List MemPlace} (h : DataW.trod enc Tryz.prog W 0 (fun _ => true) true fuel 25 [v] = some x) :
    ∃ A c D, v = .slice A (D : List Int).length c ∧ D.length ≤ c ∧ c ≤ maxLen ∧ Ints W A D ∧ ∀ n ∈ D, (Lit.int .i64 n).wf = true := by
  rcases open_ints Tryz.underlying25 Tryz.underlying3 cellsI h with ⟨hcs, _⟩ | ⟨a, len, cap, zs, hcs, _, hl, hm, hz, _, hcell, hwz⟩
  · simp only [List.cons.injEq, and_true] at hcs
    exact ⟨none, 0, [], hcs, Nat.le_refl _, Nat.zero_le _, fun h => by simp at h, by simp⟩
  · simp only [List.cons.injEq, and_true] at hcs
    simp only [if_true] at hz
    have hle : (zs.take len).length = len := by rw [List.length_take]; omega
    refine ⟨some a, cap, zs.take len, by rw [hle]; exact hcs, by omega, hm, ints_cells (fun c hc => ?_), fun n hn => hwz n (List.mem_of_mem_take hn)⟩
    rw [hcell c (by omega)]
    simp only [List.getD_eq_getElem?_getD, List.getElem?_take, if_pos (show c < len by omega)]

theorem open_rowsarg {W : World} {fuel : Nat} {v : Value} {x : DataW H × List MemPlace} (h : DataW.trod enc Tryz.prog W 0 (fun _ => true) true fuel 32 [v] = some x) :
    ∃ A c LL, v = .slice A (LL : List (List Int)).length c ∧ LL.length ≤ c ∧ c ≤ maxLen ∧ Rws W A LL ∧ (∀ L ∈ LL, L.length ≤ maxLen) ∧ ∀ L ∈ LL, ∀ n ∈ L, (Lit.int .i64 n).wf = true := by
  rcases open_int_rows Tryz.underlying32 Tryz.underlying25 Tryz.underlying3 cellsL cellsI h with ⟨hcs, _⟩ | ⟨a, len, cap, A, L, C, Z, hcs, _, hl, hm, _, hr⟩
  · simp only [List.cons.injEq, and_true] at hcs
    exact ⟨none, 0, [], hcs, Nat.le_refl _, Nat.zero_le _, fun h => by simp at h, by simp, by simp⟩
  · simp only [List.cons.injEq, and_true] at hcs
    have hlen : ((List.range len).map fun r => (Z r).take (L r)).length = len := by simp
    have hrow : ∀ r, r < len → ((Z r).take (L r)).length = L r := fun r hrl => by
      obtain ⟨_, h1, _, h3, _⟩ := hr r (by omega)
      rw [List.length_take]; omega
    refine ⟨some a, cap, (List.range len).map fun r => (Z r).take (L r), by rw [hlen]; exact hcs, by omega, hm, ?_, ?_, ?_⟩
    · intro hpos
      rw [hlen] at hpos
      obtain ⟨hc0, _⟩ := hr 0 (by omega)
      obtain ⟨b, off, spot⟩ := a
      have hspot : spot = none := by simpa [Addr.add] using World.cell?_spot hc0
      subst hspot
      rw [addr_flat] at hc0
      refine ⟨b, off, rfl, World.block_lt_of_cell? W _ hc0, fun j M hj => ?_⟩
      have hjl : j < len := by have := (List.getElem?_eq_some_iff.1 hj).1; omega
      rw [List.getElem?_map, List.getElem?_range hjl] at hj
      simp only [Option.map_some, Option.some.injEq] at hj
      subst hj
      obtain ⟨h1, h2, h3, h4, _, h6, h7⟩ := hr j (by omega)
      rw [addr_flat] at h1
      refine ⟨A j, C j, by rw [hrow j hjl]; exact h1, by rw [hrow j hjl]; exact h2, ?_⟩
      intro hp
      rw [hrow j hjl] at hp
      cases hA : A j with
      | none => have := h6 hA; omega
      | some a' =>
        obtain ⟨_, hcc⟩ := h7 a' hA
        refine ints_cells (fun c hc => ?_) (by rw [hrow j hjl]; exact hp)
        rw [hrow j hjl] at hc
        rw [hcc c (by omega)]
        simp only [List.getD_eq_getElem?_getD, List.getElem?_take, if_pos hc]
    · intro M hM
      obtain ⟨r, hr1, rfl⟩ := List.mem_map.1 hM
      have hrl := List.mem_range.1 hr1
      rw [hrow r hrl]
      obtain ⟨_, h2, h3, _⟩ := hr r (by omega)
      omega
    · intro M hM n hn
      obtain ⟨r, hr1, rfl⟩ := List.mem_map.1 hM
      have hrl := List.mem_range.1 hr1
      obtain ⟨_, _, _, _, h5, _⟩ := hr r (by omega)
      exact h5 n (List.mem_of_mem_take hn)
end

end Go.Proofs.YtachjodnhgmoiaaGreatDoor
