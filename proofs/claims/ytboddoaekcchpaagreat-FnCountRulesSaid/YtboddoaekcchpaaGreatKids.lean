/- What the program's methods parts and sign of terms do: at whatever term, called by the interface. -/
import Derived.Test.YtboddoaekcchpaaGreatTReadL
namespace Go.Proofs.YtboddoaekcchpaaGreat
open Go.RowKit

/-- Which function a call of parts comes to. -/
def partsF : Tm → FuncId
  | .dig _ => 158
  | .var _ => 152
  | .pre _ _ => 161
  | .two _ _ _ => 164
  | .loop _ _ _ _ => 155
/-- How parts ends: the parts in a row of the call's own. -/
def KidsPost (t : Tm) (w : World) (e : Ending) (w' : World) : Prop :=
  w.grownBy w' none ∧ ∃ sv xs, e = .returned sv ∧ w'.ownsRow w.heap.size 45 1 sv xs.length xs ∧ All2 (PT w (fun _ => True)) t.kids xs

theorem method_parts {w : World} {S : Nat → Prop} {t : Tm} {ty : TypeId} {pv : Value} (h : PT w S t (.iface ty pv)) (u : World) : (method 300 ty pv "loop.example/flatarrays/impl.parts").run Tryz.prog u = .ok (partsF t, pv) u := by
  cases t with
  | dig c => cases h; kernel_rfl
  | var c => cases h; kernel_rfl
  | pre c s => obtain ⟨b, x, hv, _⟩ := h; cases hv; kernel_rfl
  | two c s t => obtain ⟨b, x, y, hv, _⟩ := h; cases hv; kernel_rfl
  | loop c i s t => obtain ⟨b, x, y, hv, _⟩ := h; cases hv; kernel_rfl
theorem run_parts (t : Tm) (pv : Value) (u : World) : (callFunc (partsF t) #[pv]).run Tryz.prog u = .ok (.enter (partsF t) #[pv]) u := by cases t <;> kernel_rfl
theorem row1_new {w : World} {k : Nat} (xs : List Value) (cs : Array Value) (hcs : cs.toList = xs) (hk : w.heap.size = k) (hl : xs.length ≤ 10) :
    (w.alloc (.cells cs 45)).ownsRow w.heap.size 45 1 (.slice (some ⟨k, 0, none⟩) xs.length xs.length) xs.length xs := by
  subst hk
  have hz : cs.size = xs.length * 1 := by rw [← hcs]; simp
  refine ⟨by omega, .inr ⟨w.heap.size, xs.length, cs, rfl, Nat.le_refl _, heap_alloc_new w _, Nat.le_refl _, by unfold maxLen; omega, hz, ?_⟩⟩
  rw [← hcs]
  exact List.take_of_length_le (by simp)
theorem PT.any' {w : World} {S : Nat → Prop} {t : Tm} {v : Value} (h : PT w S t v) : PT w (fun _ => True) t v := h.wide (fun _ _ => trivial)

set_option maxHeartbeats 400000 in
theorem parts_any (t : Tm) (S : Nat → Prop) (ty : TypeId) (pv : Value) (w : World) (h : PT w S t (.iface ty pv)) : Calls Tryz.prog (partsF t) #[pv] w (KidsPost t w) := by
  cases t with
  | dig c =>
    cases h
    unfold partsF
    go_enter Tryz.func158, Tryz.ntmps158
    go_wp2_with fail
    go_ret
    exact ⟨gr_refl _ _, _, [], rfl, ⟨rfl, .inl ⟨rfl, rfl⟩⟩, trivial⟩
  | var c =>
    cases h
    unfold partsF
    go_enter Tryz.func152, Tryz.ntmps152
    go_wp2_with fail
    go_ret
    exact ⟨gr_refl _ _, _, [], rfl, ⟨rfl, .inl ⟨rfl, rfl⟩⟩, trivial⟩
  | pre c s =>
    obtain ⟨b, x, hv, _, hh, hx⟩ := h
    cases hv
    have c1 : w.cell? ⟨b, 1, none⟩ = some x := cell_of_row w b 1 _ _ (0, 0) hh
    obtain ⟨tx, px, rfl⟩ := hx.iface
    have HX := Lib.hid hx
    clear hh hx
    unfold partsF
    go_enter Tryz.func161, Tryz.ntmps161
    go_wp2_with fail
    go_ret
    exact ⟨World.grownBy_alloc _ _ _, _, [.iface tx px], rfl, row1_new _ _ rfl rfl (by simp), HX.out.any', trivial⟩
  | two c s t =>
    obtain ⟨b, x, y, hv, _, hh, hx, hy⟩ := h
    cases hv
    have c1 : w.cell? ⟨b, 1, none⟩ = some x := cell_of_row w b 1 _ _ (0, 0) hh
    have c2 : w.cell? ⟨b, 2, none⟩ = some y := cell_of_row w b 2 _ _ (0, 0) hh
    obtain ⟨tx, px, rfl⟩ := hx.iface
    obtain ⟨t2, p2, rfl⟩ := hy.iface
    have HX := Lib.hid hx
    have HY := Lib.hid hy
    clear hh hx hy
    unfold partsF
    go_enter Tryz.func164, Tryz.ntmps164
    go_wp2_with fail
    go_region
    all_goals
      go_wp2_with fail
      go_ret
      exact ⟨(gr_drewN w 1 none).trans (World.grownBy_alloc _ _ _), _, [.iface tx px, .iface t2 p2], rfl, row1_new (w := w.drew) _ _ rfl rfl (by simp), HX.out.any', HY.out.any', trivial⟩
  | loop c i s t =>
    obtain ⟨b, x, y, hv, _, hh, hx, hy⟩ := h
    cases hv
    have c1 : w.cell? ⟨b, 2, none⟩ = some x := cell_of_row w b 2 _ _ (0, 0) hh
    have c2 : w.cell? ⟨b, 3, none⟩ = some y := cell_of_row w b 3 _ _ (0, 0) hh
    obtain ⟨tx, px, rfl⟩ := hx.iface
    obtain ⟨t2, p2, rfl⟩ := hy.iface
    have HX := Lib.hid hx
    have HY := Lib.hid hy
    clear hh hx hy
    unfold partsF
    go_enter Tryz.func155, Tryz.ntmps155
    go_wp2_with fail
    go_region
    all_goals
      go_wp2_with fail
      go_ret
      exact ⟨(gr_drewN w 1 none).trans (World.grownBy_alloc _ _ _), _, [.iface tx px, .iface t2 p2], rfl, row1_new (w := w.drew) _ _ rfl rfl (by simp), HX.out.any', HY.out.any', trivial⟩

end Go.Proofs.YtboddoaekcchpaaGreat
