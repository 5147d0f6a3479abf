/- What take of the program does to numbers that lie in a box of their own. -/
import Derived.Test.YtachjodnhgmoiaaDoorGr
import Derived.Test.YtachjodnhgmoiaaDoorPr
import Derived.Test.YtachjodnhgmoiaaDoorIntC
import Derived.Test.YtachjodnhgmoiaaDoorOwn
namespace Go.Proofs.YtachjodnhgmoiaaDoor
open Go.RowKit

/-- A box of one cell. -/
def B1 (w : World) (g : Nat) (T : TypeId) (x : Value) : Prop := w.heap[g]? = some (.cells #[x] T (0, 0))
section
variable {w w' : World} {g : Nat} {T : TypeId} {x : Value}
theorem B1.lt (h : B1 w g T x) : g < w.heap.size := (Array.getElem?_eq_some_iff.1 h).1
theorem B1.c0 (h : B1 w g T x) : w.cell? ⟨g, 0, none⟩ = some x := cell_of_row w g 0 _ _ (0, 0) h
theorem B1.f (h : B1 w g T x) : w.frozen? ⟨g, 0, none⟩ = false := by
  unfold B1 at h
  simp [World.frozen?, h]
theorem B1.new (w : World) (T : TypeId) (x : Value) : B1 (w.alloc (.cells #[x] T)) w.heap.size T x := heap_alloc_new _ _
theorem B1.alloc (h : B1 w g T x) (o : Obj) : B1 (w.alloc o) g T x := (Below.heap_alloc w o g h.lt).trans h
theorem B1.set0 (h : B1 w g T x) (u : Value) : B1 (w.setCell ⟨g, 0, none⟩ u) g T u := by
  unfold B1 at h ⊢
  simp [World.setCell, Array.getElem?_modify, h]
theorem B1.grown {row : Option Nat} (h : B1 w g T x) (hg : w.grownBy w' row) (hne : some g ≠ row) : B1 w' g T x := (hg.block g h.lt hne).trans h
end

/-- A slice of ints that is nil without room, or lies somewhere. -/
def Sl (A : Option Addr) (m c : Nat) : Prop := m ≤ c ∧ ((A = none ∧ c = 0) ∨ ∃ b off, A = some ⟨b, off, none⟩)

/-- How take ends. -/
def Tk1P (gf z m : Nat) (A : Option Addr) (w : World) (e : Ending) (w' : World) : Prop :=
  e = .returned (.agg #[.slice A z z]) ∧ w.grownBy w' (some gf) ∧ ∃ A' c', B1 w' gf 80 (.slice A' (m - z) c') ∧ Sl A' (m - z) c' ∧
    ∀ (u : World) (D : List Int), D.length = m → Ints u A D → Ints u A' (D.drop z)

theorem gr_take1 {w : World} {gf : Nat} {x u : Value} {o : Obj} {t : TypeId} (h : B1 w gf t x) : w.grownBy ((w.setCell ⟨gf, 0, none⟩ u).alloc o) (some gf) ∧ B1 ((w.setCell ⟨gf, 0, none⟩ u).alloc o) gf t u :=
  ⟨(gr_set w gf 0 u).trans (World.grownBy_alloc _ _ _), (h.set0 u).alloc o⟩
theorem ints_drop {u : World} {b off z : Nat} {D : List Int} (h : Ints u (some ⟨b, off, none⟩) D) : Ints u (some ⟨b, off + z, none⟩) (D.drop z) := fun hl => by
  rw [List.length_drop] at hl
  obtain ⟨b', off', e, hb, hc⟩ := h (by omega)
  cases e
  refine ⟨b, off + z, rfl, hb, fun j x hj => ?_⟩
  rw [List.getElem?_drop] at hj
  have := hc (z + j) x hj
  rwa [Nat.add_assoc]
theorem ints_take {u : World} {A : Option Addr} {z : Nat} {D : List Int} (h : Ints u A D) : Ints u A (D.take z) := fun hl => by
  rw [List.length_take] at hl
  obtain ⟨b, off, e, hb, hc⟩ := h (by omega)
  refine ⟨b, off, e, hb, fun j x hj => ?_⟩
  rw [List.getElem?_take] at hj
  split at hj
  · exact hc j x hj
  · cases hj

set_option maxRecDepth 100000 in
set_option maxHeartbeats 1000000 in
theorem take1_any (gf z m c : Nat) (A : Option Addr) (w : World) (h : B1 w gf 80 (.slice A m c)) (hz : z ≤ m) (hs : Sl A m c) :
    Calls Tryd.prog 72 #[.pointer (some ⟨gf, 0, none⟩), .int .i64 (z : Int)] w (Tk1P gf z m A w) := by
  obtain ⟨hm, hA⟩ := hs
  have HP := Lib.hid h
  have c0 := (HP.out.alloc (.cells #[.slice none 0 0] 80)).c0
  have f0 := (HP.out.alloc (.cells #[.slice none 0 0] 80)).f
  have hlt := h.lt
  have hzc : z ≤ c := by omega
  clear h
  rcases hA with ⟨rfl, rfl⟩ | ⟨b, off, rfl⟩
  · obtain rfl : m = 0 := by omega
    obtain rfl : z = 0 := by omega
    go_enter Tryd.func72, Tryd.ntmps72
    go_wp2_with fail
    all_goals
      refine bodyPost_ret (v := .agg #[.slice none 0 0]) (by simp [results, Tryd.results72, go_sem]) rfl ?_
      obtain ⟨g1, g2⟩ := gr_take1 (u := .slice none 0 0) (o := .cells #[.slice none 0 0] 80) HP.out
      exact ⟨rfl, g1, none, 0, g2, ⟨Nat.le_refl _, .inl ⟨rfl, rfl⟩⟩, fun u D hD _ hl => by rw [List.length_drop, hD] at hl; omega⟩
  rcases Nat.lt_or_ge z c with hc | hc
  · have hne : ¬ z = c := by omega
    go_enter Tryd.func72, Tryd.ntmps72
    go_wp2_with fail
    all_goals
      refine bodyPost_ret (v := .agg #[.slice (some ⟨b, off, none⟩) z z]) (by simp [results, Tryd.results72, go_sem]) rfl ?_
      obtain ⟨g1, g2⟩ := gr_take1 (u := .slice (some ⟨b, off + z, none⟩) (m - z) (c - z)) (o := .cells #[.slice (some ⟨b, off, none⟩) z z] 80) HP.out
      exact ⟨rfl, g1, _, _, g2, ⟨by omega, .inr ⟨b, off + z, rfl⟩⟩, fun u D hD hI => ints_drop hI⟩
  · obtain rfl : z = c := by omega
    obtain rfl : m = z := by omega
    go_enter Tryd.func72, Tryd.ntmps72
    go_wp2_with fail
    all_goals
      refine bodyPost_ret (v := .agg #[.slice (some ⟨b, off, none⟩) m m]) (by simp [results, Tryd.results72, go_sem]) rfl ?_
      obtain ⟨g1, g2⟩ := gr_take1 (u := .slice (some ⟨b, off, none⟩) 0 0) (o := .cells #[.slice (some ⟨b, off, none⟩) m m] 80) HP.out
      exact ⟨rfl, g1, some ⟨b, off, none⟩, 0, by rw [Nat.sub_self]; exact g2, ⟨by omega, .inr ⟨b, off, rfl⟩⟩, fun u D hD _ hl => by rw [List.length_drop, hD] at hl; omega⟩

end Go.Proofs.YtachjodnhgmoiaaDoor
