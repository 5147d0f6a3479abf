/- What parts of terms gives, and that the parts' blocks are among those of the term. -/
import Derived.Test.YtdfanconjiiceaaDoorKids
namespace Go.Proofs.YtdfanconjiiceaaDoor
open Go.RowKit

def KidsPostS (S : Nat → Prop) (t : Tm) (w : World) (e : Ending) (w' : World) : Prop :=
  w.grownBy w' none ∧ ∃ sv xs, e = .returned sv ∧ w'.ownsRow w.heap.size 40 1 sv xs.length xs ∧ All2 (PT w S) t.kids xs

set_option maxHeartbeats 400000 in
theorem partsS_any (t : Tm) (S : Nat → Prop) (ty : TypeId) (pv : Value) (w : World) (h : PT w S t (.iface ty pv)) : Calls Tryd.prog (partsF t) #[pv] w (KidsPostS S t w) := by
  cases t with
  | dig c =>
    cases h
    unfold partsF
    go_enter Tryd.func95, Tryd.ntmps95
    go_wp2_with fail
    go_ret
    exact ⟨gr_refl _ _, _, [], rfl, ⟨rfl, .inl ⟨rfl, rfl⟩⟩, trivial⟩
  | var c =>
    cases h
    unfold partsF
    go_enter Tryd.func88, Tryd.ntmps88
    go_wp2_with fail
    go_ret
    exact ⟨gr_refl _ _, _, [], rfl, ⟨rfl, .inl ⟨rfl, rfl⟩⟩, trivial⟩
  | pre c s =>
    obtain ⟨b, x, hv, _, hh, hx⟩ := h
    cases hv
    have c1 : w.cell? ⟨b, 1, none⟩ = some x := cell_of_row w b 1 _ _ (0, 0) hh
    obtain ⟨tx, px, rfl⟩ := hx.iface
    have HX := Lib.hid hx
    clear hh hx
    unfold partsF
    go_enter Tryd.func98, Tryd.ntmps98
    go_wp2_with fail
    go_ret
    exact ⟨World.grownBy_alloc _ _ _, _, [.iface tx px], rfl, row1_new _ _ rfl rfl (by simp), HX.out, trivial⟩
  | two c s t =>
    obtain ⟨b, x, y, hv, _, hh, hx, hy⟩ := h
    cases hv
    have c1 : w.cell? ⟨b, 1, none⟩ = some x := cell_of_row w b 1 _ _ (0, 0) hh
    have c2 : w.cell? ⟨b, 2, none⟩ = some y := cell_of_row w b 2 _ _ (0, 0) hh
    obtain ⟨tx, px, rfl⟩ := hx.iface
    obtain ⟨t2, p2, rfl⟩ := hy.iface
    have HX := Lib.hid hx
    have HY := Lib.hid hy
    clear hh hx hy
    unfold partsF
    go_enter Tryd.func101, Tryd.ntmps101
    go_wp2_with fail
    go_region
    all_goals
      go_wp2_with fail
      go_ret
      exact ⟨(gr_drewN w 1 none).trans (World.grownBy_alloc _ _ _), _, [.iface tx px, .iface t2 p2], rfl, row1_new (w := w.drew) _ _ rfl rfl (by simp), HX.out, HY.out, trivial⟩
  | loop c i s t =>
    obtain ⟨b, x, y, hv, _, hh, hx, hy⟩ := h
    cases hv
    have c1 : w.cell? ⟨b, 2, none⟩ = some x := cell_of_row w b 2 _ _ (0, 0) hh
    have c2 : w.cell? ⟨b, 3, none⟩ = some y := cell_of_row w b 3 _ _ (0, 0) hh
    obtain ⟨tx, px, rfl⟩ := hx.iface
    obtain ⟨t2, p2, rfl⟩ := hy.iface
    have HX := Lib.hid hx
    have HY := Lib.hid hy
    clear hh hx hy
    unfold partsF
    go_enter Tryd.func92, Tryd.ntmps92
    go_wp2_with fail
    go_region
    all_goals
      go_wp2_with fail
      go_ret
      exact ⟨(gr_drewN w 1 none).trans (World.grownBy_alloc _ _ _), _, [.iface tx px, .iface t2 p2], rfl, row1_new (w := w.drew) _ _ rfl rfl (by simp), HX.out, HY.out, trivial⟩

end Go.Proofs.YtdfanconjiiceaaDoor
