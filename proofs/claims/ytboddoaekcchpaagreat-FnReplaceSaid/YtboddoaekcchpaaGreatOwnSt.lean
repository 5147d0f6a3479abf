/- Lists of strings in rows that are owned. -/
import Derived.Test.YtboddoaekcchpaaGreatOwn
import Derived.Test.YtboddoaekcchpaaGreatTSizeF
import Derived.Laws.OwnMore
namespace Go.Proofs.YtboddoaekcchpaaGreat
open Go.RowKit

def strV (ss : List ByteArray) : List Value := ss.map Value.string
theorem strV_snoc (l : List ByteArray) (x : ByteArray) : strV (l ++ [x]) = strV l ++ [.string x] := by simp [strV]

/-- A list of strings in an owned row. -/
def OwnS (w : World) (B : Nat) (v : Value) (ss : List ByteArray) : Prop := w.ownsRow B 9 1 v ss.length (strV ss)
theorem OwnS.keep {w w' : World} {B : Nat} {v : Value} {ss : List ByteArray} (h : OwnS w B v ss) (hg : w.grownBy w' none) : OwnS w' B v ss := own_keep h (fun b hb => hg.block b (h.lt b hb).2 (by simp))
theorem OwnS.form {w : World} {B : Nat} {v : Value} {ss : List ByteArray} (h : OwnS w B v ss) : ∃ A c, v = .slice A ss.length c := by
  rcases h.2 with ⟨hv, hn⟩ | ⟨g, cap, cur, hv, _⟩
  · exact ⟨none, 0, by rw [hv, hn]⟩
  · exact ⟨_, _, hv⟩
theorem OwnS.cells {w : World} {B : Nat} {A : Option Addr} {n c : Nat} {ss : List ByteArray} (h : OwnS w B (.slice A n c) ss) : n ≤ c ∧ ∀ (j : Nat) (x : ByteArray), ss[j]? = some x → ∃ g, A = some ⟨g, 0, none⟩ ∧ g < w.heap.size ∧ w.cell? ⟨g, j, none⟩ = some (.string x) ∧ w.frozen? ⟨g, j, none⟩ = false := by
  obtain ⟨h1, h2, h3⟩ := orow h
  refine ⟨h2, fun j x hj => ?_⟩
  have hl := (List.getElem?_eq_some_iff.1 hj).1
  obtain ⟨g, hA, _, hg, hc⟩ := h3 (by omega)
  subst hA
  exact ⟨g, rfl, hg, hc j (.string x) (by simp [strV, hj]), World.ownsRow.frozenAt (n := ss.length) (by rw [← h1]; rw [h1]; subst h1; exact h) j⟩

end Go.Proofs.YtboddoaekcchpaaGreat
