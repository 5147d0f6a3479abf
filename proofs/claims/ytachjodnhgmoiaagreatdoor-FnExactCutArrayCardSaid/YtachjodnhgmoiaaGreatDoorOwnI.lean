/- A slice of ints that lies in a row of its own, whoever owns it: arguments and results. -/
import Derived.Test.YtachjodnhgmoiaaGreatDoorFam
namespace Go.Proofs.YtachjodnhgmoiaaGreatDoor
open Go.RowKit

/-- The value is a slice of these ints, at the head of a row of its own, or nil. -/
def OwnI (w : World) (v : Value) (L : List Int) : Prop := w.ownsRow 0 3 1 v L.length (L.map (Value.int .i64))
theorem OwnI.of {w : World} {base n : Nat} {v : Value} {L : List Int} (h : w.ownsRow base 3 1 v n (L.map (Value.int .i64))) (hn : L.length = n) : OwnI w v L := by
  subst hn
  exact own_base h (Nat.zero_le _)
theorem OwnI.lt' {w : World} {v : Value} {L : List Int} (h : OwnI w v L) (g : Nat) (hv : v.ownBlock = some g) : g < w.heap.size := (World.ownsRow.lt h g hv).2
theorem OwnI.grown {w w' : World} {v : Value} {L : List Int} {row : Option Nat} (h : OwnI w v L) (hg : w.grownBy w' row) (hne : ∀ g, v.ownBlock = some g → some g ≠ row) : OwnI w' v L :=
  own_keep h (fun g hv => hg.block g (h.lt' g hv) (hne g hv))
theorem OwnI.grown0 {w w' : World} {v : Value} {L : List Int} (h : OwnI w v L) (hg : w.grownBy w' none) : OwnI w' v L := h.grown hg (by simp)
theorem OwnI.form {w : World} {v : Value} {L : List Int} (h : OwnI w v L) : ∃ A c, v = .slice A L.length c ∧ Ints w A L ∧ L.length ≤ c ∧ (A = none → c = 0 ∧ L = []) ∧ (∀ a, A = some a → ∃ b xs m, a = ⟨b, 0, none⟩ ∧ w.heap[b]? = some (.cells xs 3 m) ∧ ∀ (j : Nat) (z : Int), L[j]? = some z → w.cell? ⟨b, j, none⟩ = some (.int .i64 z)) := by
  have h2 := h
  rcases h.2 with ⟨rfl, hn⟩ | ⟨g, cap, cur, rfl, hb, hg, hnc, hcm, hcs, htake⟩
  · have hl : L = [] := List.eq_nil_of_length_eq_zero hn
    subst hl
    exact ⟨none, 0, rfl, fun h => by simp at h, Nat.le_refl _, fun _ => ⟨rfl, rfl⟩, fun a e => by cases e⟩
  · refine ⟨some ⟨g, 0, none⟩, cap, rfl, Ints.of_own h2, hnc, fun e => by (cases e), fun a e => ?_⟩
    · cases e
      refine ⟨g, cur, _, rfl, hg, fun j z hj => ?_⟩
      have hi := Ints.of_own h2
      have hjl : j < L.length := (List.getElem?_eq_some_iff.1 hj).1
      obtain ⟨b, off, e, _, hc⟩ := hi (by omega)
      cases e
      simpa using hc j z hj

end Go.Proofs.YtachjodnhgmoiaaGreatDoor
