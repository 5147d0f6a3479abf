/- The laws' helpers on lists of lists of ints and on layouts. -/
import Derived.Test.YtmofoeljajdhmaaInts
import Derived.Test.YtmofoeljajdhmaaLay
namespace Go.Proofs.Ytmofoeljajdhmaa
open Go.RowKit

/-- The slice's cells are slices of these lists. -/
def Rws (w : World) (A : Option Addr) (LL : List (List Int)) : Prop :=
  0 < LL.length → ∃ b off, A = some ⟨b, off, none⟩ ∧ b < w.heap.size ∧ ∀ (j : Nat) (L : List Int), LL[j]? = some L → ∃ B c, w.cell? ⟨b, off + j, none⟩ = some (.slice B L.length c) ∧ L.length ≤ c ∧ Ints w B L
theorem Rws.grown {w w' : World} {A : Option Addr} {LL : List (List Int)} (h : Rws w A LL) (hg : w.grownBy w' none) : Rws w' A LL := fun hl => by
  obtain ⟨b, off, rfl, hb, hc⟩ := h hl
  refine ⟨b, off, rfl, Nat.lt_of_lt_of_le hb hg.size, fun j L hj => ?_⟩
  obtain ⟨B, c, h1, h2, h3⟩ := hc j L hj
  exact ⟨B, c, hg.cell h1 (by simp), h2, h3.grown hg (by simp)⟩
theorem Rws.at_ {w : World} {A : Option Addr} {LL : List (List Int)} {j : Nat} {L : List Int} (h : Rws w A LL) (hj : LL[j]? = some L) :
    ∃ b off B c, A = some ⟨b, off, none⟩ ∧ w.cell? ⟨b, off + j, none⟩ = some (.slice B L.length c) ∧ L.length ≤ c ∧ Ints w B L := by
  have hl : j < LL.length := (List.getElem?_eq_some_iff.1 hj).1
  obtain ⟨b, off, rfl, _, hc⟩ := h (by omega)
  obtain ⟨B, c, h1, h2, h3⟩ := hc j L hj
  exact ⟨b, off, B, c, rfl, h1, h2, h3⟩

/-- A layout's two cells. -/
def Lyt (w : World) (v : Value) (LL : List (List Int)) (D : List Int) : Prop :=
  ∃ A c B d, v = .agg #[.slice A LL.length c, .slice B D.length d] ∧ LL.length ≤ c ∧ D.length ≤ d ∧ Rws w A LL ∧ Ints w B D
theorem Lyt.grown {w w' : World} {v : Value} {LL : List (List Int)} {D : List Int} (h : Lyt w v LL D) (hg : w.grownBy w' none) : Lyt w' v LL D := by
  obtain ⟨A, c, B, d, rfl, h1, h2, h3, h4⟩ := h
  exact ⟨A, c, B, d, rfl, h1, h2, h3.grown hg, h4.grown hg (by simp)⟩

/-- How many numbers the lists have. -/
def totL : List (List Int) → Nat
  | [] => 0
  | L :: LL => L.length + totL LL
theorem totL_append : ∀ (A B : List (List Int)), totL (A ++ B) = totL A + totL B
  | [], B => by simp [totL]
  | L :: A, B => by simp [totL, totL_append A B, Nat.add_assoc]
theorem totL_step {LL : List (List Int)} {j : Nat} {L : List Int} (h : LL[j]? = some L) : totL (LL.take (j + 1)) = totL (LL.take j) + L.length := by
  rw [List.take_add_one, h, totL_append]
  simp [totL]
theorem totL_at {LL : List (List Int)} {j : Nat} {L : List Int} (h : LL[j]? = some L) : L.length ≤ totL LL := by
  have h1 := totL_step h
  have e : LL.take (j + 1) ++ LL.drop (j + 1) = LL := List.take_append_drop _ _
  have h2 := totL_append (LL.take (j + 1)) (LL.drop (j + 1))
  rw [e] at h2
  omega

end Go.Proofs.Ytmofoeljajdhmaa
