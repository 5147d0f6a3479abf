/- The replacement's method in of the program at loops; at whatever term. -/
import Derived.Test.YtmofoeljajdhmaaTFreeL
import Derived.Test.YtmofoeljajdhmaaTmD
namespace Go.Proofs.Ytmofoeljajdhmaa
section
open Go.RowKit

/-- How it ends: with a term behind the interface. -/
def InP (t : Tm) (w : World) (e : Ending) (w' : World) : Prop := ∃ v, e = .returned v ∧ w.grownBy w' none ∧ PT w' (fun _ => True) t v

theorem pt_pre {w : World} {c : Int} {s : Tm} {x : Value} (h : PT w (fun _ => True) s x) : PT (w.alloc (.cells #[.int .u8 c, x] 173)) (fun _ => True) (.pre c s) (.iface 171 (.pointer (some ⟨w.heap.size, 0, none⟩))) :=
  ⟨_, _, rfl, trivial, heap_alloc_new _ _, h.grown (World.grownBy_alloc _ _ _)⟩
theorem pt_two {w : World} {c : Int} {s t : Tm} {x y : Value} (h : PT w (fun _ => True) s x) (h2 : PT w (fun _ => True) t y) : PT (w.alloc (.cells #[.int .u8 c, x, y] 176)) (fun _ => True) (.two c s t) (.iface 174 (.pointer (some ⟨w.heap.size, 0, none⟩))) :=
  ⟨_, _, _, rfl, trivial, heap_alloc_new _ _, h.grown (World.grownBy_alloc _ _ _), h2.grown (World.grownBy_alloc _ _ _)⟩
theorem pt_loop {w : World} {c i : Int} {s t : Tm} {x y : Value} (h : PT w (fun _ => True) s x) (h2 : PT w (fun _ => True) t y) : PT (w.alloc (.cells #[.int .u8 c, .int .u8 i, x, y] 163)) (fun _ => True) (.loop c i s t) (.iface 161 (.pointer (some ⟨w.heap.size, 0, none⟩))) :=
  ⟨_, _, _, rfl, trivial, heap_alloc_new _ _, h.grown (World.grownBy_alloc _ _ _), h2.grown (World.grownBy_alloc _ _ _)⟩

set_option maxRecDepth 100000 in
set_option maxHeartbeats 1000000 in
theorem in_dig (c : Int) (p : Value) (w : World) :
    Calls Try.prog 83 #[p, .iface 181 (.int .u8 c)] w (InP (.dig c) w) := by
  have ht1 := fun xT u => ta_dig_var (.int .u8 c) xT u
  have ht2 := fun xT u => ta_dig_pre (.int .u8 c) xT u
  have ht3 := fun xT u => ta_dig_two (.int .u8 c) xT u
  have ht4 := fun xT u => ta_dig_loop (.int .u8 c) xT u
  go_enter Try.func83, Try.ntmps83
  go_wp2_with fail
  go_ret
  exact ⟨_, rfl, gr_refl _ _, rfl⟩

set_option maxRecDepth 100000 in
set_option maxHeartbeats 1000000 in
theorem in_var (c v : Int) (u : Tm) (r : Nat) (byv m : Value) (w : World) (hby : PT w (fun _ => True) u byv)
    (hr : w.heap[r]? = some (.cells #[.int .u8 v, byv, m] 167 (0, 0))) :
    Calls Try.prog 83 #[.pointer (some ⟨r, 0, none⟩), .iface 80 (.int .u8 c)] w (InP (if c = v then u else .var c) w) := by
  have ht1 := fun xT u => ta_var_var (.int .u8 c) xT u
  have ht2 := fun xT u => ta_var_pre (.int .u8 c) xT u
  have ht3 := fun xT u => ta_var_two (.int .u8 c) xT u
  have ht4 := fun xT u => ta_var_loop (.int .u8 c) xT u
  obtain ⟨tb, pb, rfl⟩ := hby.iface
  have r0 : w.cell? ⟨r, 0, none⟩ = some (.int .u8 v) := cell_of_row w r 0 _ _ (0, 0) hr
  have r1 : w.cell? ⟨r, 1, none⟩ = some (.iface tb pb) := cell_of_row w r 1 _ _ (0, 0) hr
  have HB := Lib.hid hby
  by_cases hcv : c = v
  · rw [if_pos hcv]
    have hb : (c == v) = true := by rw [beq_iff_eq]; exact hcv
    clear hby hr hcv
    go_enter Try.func83, Try.ntmps83
    go_wp2_with fail
    go_ret
    exact ⟨_, rfl, gr_refl _ _, HB.out⟩
  · rw [if_neg hcv]
    have hb : (c == v) = false := by rw [beq_eq_false_iff_ne]; exact hcv
    clear hby hr hcv
    go_enter Try.func83, Try.ntmps83
    go_wp2_with fail
    go_ret
    exact ⟨_, rfl, gr_refl _ _, rfl⟩

set_option maxRecDepth 100000 in
set_option maxHeartbeats 4000000 in
theorem in_pre (c : Int) (s : Tm) (r g : Nat) (x : Value) (w : World) (hh : w.heap[g]? = some (.cells #[.int .u8 c, x] 173 (0, 0)))
    (ih : ∀ u : World, w.grownBy u none → Calls Try.prog 83 #[.pointer (some ⟨r, 0, none⟩), x] u (InP s u)) :
    Calls Try.prog 83 #[.pointer (some ⟨r, 0, none⟩), .iface 171 (.pointer (some ⟨g, 0, none⟩))] w (InP (.pre c s) w) := by
  have ht1 := fun xT u => ta_pre_var (.pointer (some ⟨g, 0, none⟩)) xT u
  have ht2 := fun xT u => ta_pre_pre (.pointer (some ⟨g, 0, none⟩)) xT u
  have c0 : w.cell? ⟨g, 0, none⟩ = some (.int .u8 c) := cell_of_row w g 0 _ _ (0, 0) hh
  have c1 : w.cell? ⟨g, 1, none⟩ = some x := cell_of_row w g 1 _ _ (0, 0) hh
  have HI := Lib.hid ih
  clear ih hh
  go_enter Try.func83, Try.ntmps83
  go_wp2_with fail
  go_region_law (first
    | (go_simp
       go_at_call 83
       refine (HI.out _ (gr_drewN w 1 none)).mono ?_
       rintro e wa ⟨x', rfl, hga, hpa⟩
       obtain ⟨tx, px, rfl⟩ := hpa.iface
       have HGa := Lib.hid ((gr_drewN w 1 none).trans hga)
       have HPa := Lib.hid hpa
       have c0a := HGa.out.cell c0 (by simp)
       clear hga hpa))
  all_goals
    go_wp2_with fail
  all_goals
    go_ret
    exact ⟨_, rfl, HGa.out.trans (World.grownBy_alloc _ _ _), pt_pre HPa.out⟩

set_option maxRecDepth 100000 in
set_option maxHeartbeats 4000000 in
theorem in_two (c : Int) (s t : Tm) (r g : Nat) (x y : Value) (w : World) (hh : w.heap[g]? = some (.cells #[.int .u8 c, x, y] 176 (0, 0)))
    (ih1 : ∀ u : World, w.grownBy u none → Calls Try.prog 83 #[.pointer (some ⟨r, 0, none⟩), x] u (InP s u))
    (ih2 : ∀ u : World, w.grownBy u none → Calls Try.prog 83 #[.pointer (some ⟨r, 0, none⟩), y] u (InP t u)) :
    Calls Try.prog 83 #[.pointer (some ⟨r, 0, none⟩), .iface 174 (.pointer (some ⟨g, 0, none⟩))] w (InP (.two c s t) w) := by
  have ht1 := fun xT u => ta_two_var (.pointer (some ⟨g, 0, none⟩)) xT u
  have ht2 := fun xT u => ta_two_pre (.pointer (some ⟨g, 0, none⟩)) xT u
  have ht3 := fun xT u => ta_two_two (.pointer (some ⟨g, 0, none⟩)) xT u
  have c0 : w.cell? ⟨g, 0, none⟩ = some (.int .u8 c) := cell_of_row w g 0 _ _ (0, 0) hh
  have c1 : w.cell? ⟨g, 1, none⟩ = some x := cell_of_row w g 1 _ _ (0, 0) hh
  have c2 : w.cell? ⟨g, 2, none⟩ = some y := cell_of_row w g 2 _ _ (0, 0) hh
  have HI1 := Lib.hid ih1
  have HI2 := Lib.hid ih2
  clear ih1 ih2 hh
  go_enter Try.func83, Try.ntmps83
  go_wp2_with fail
  go_region_law (first
    | (go_simp
       go_at_call 83
       refine (HI2.out _ HGa.out).mono ?_
       rintro e wb ⟨y', rfl, hgb, hpb⟩
       obtain ⟨ty, py, rfl⟩ := hpb.iface
       have HGb := Lib.hid (HGa.out.trans hgb)
       have HPb := Lib.hid hpb
       have HPab := Lib.hid (HPa.out.grown hgb)
       have c0b := HGb.out.cell c0 (by simp)
       clear hgb hpb)
    | (go_simp
       go_at_call 83
       refine (HI1.out _ (gr_drewN w 1 none)).mono ?_
       rintro e wa ⟨x', rfl, hga, hpa⟩
       obtain ⟨tx, px, rfl⟩ := hpa.iface
       have HGa := Lib.hid ((gr_drewN w 1 none).trans hga)
       have HPa := Lib.hid hpa
       have c0a := HGa.out.cell c0 (by simp)
       have c2a := HGa.out.cell c2 (by simp)
       clear hga hpa))
  all_goals
    go_wp2_with fail
  all_goals
    go_ret
    exact ⟨_, rfl, HGb.out.trans (World.grownBy_alloc _ _ _), pt_two HPab.out HPb.out⟩
end

section
open Go.RowKit

set_option maxRecDepth 100000 in
set_option maxHeartbeats 8000000 in
theorem in_loop (c i v : Int) (s t t' : Tm) (S : Nat → Prop) (r g : Nat) (x y byv mv : Value) (w : World) (ht : t' = if i = v then t else t')
    (hr : w.heap[r]? = some (.cells #[.int .u8 v, byv, mv] 167 (0, 0)))
    (hh : w.heap[g]? = some (.cells #[.int .u8 c, .int .u8 i, x, y] 163 (0, 0))) (hy : PT w S t y)
    (ih1 : ∀ u : World, w.grownBy u none → Calls Try.prog 83 #[.pointer (some ⟨r, 0, none⟩), x] u (InP s u))
    (ih2 : i ≠ v → ∀ u : World, w.grownBy u none → Calls Try.prog 83 #[.pointer (some ⟨r, 0, none⟩), y] u (InP t' u)) :
    Calls Try.prog 83 #[.pointer (some ⟨r, 0, none⟩), .iface 161 (.pointer (some ⟨g, 0, none⟩))] w (InP (.loop c i s t') w) := by
  have ht1 := fun xT u => ta_loop_var (.pointer (some ⟨g, 0, none⟩)) xT u
  have ht2 := fun xT u => ta_loop_pre (.pointer (some ⟨g, 0, none⟩)) xT u
  have ht3 := fun xT u => ta_loop_two (.pointer (some ⟨g, 0, none⟩)) xT u
  have ht4 := fun xT u => ta_loop_loop (.pointer (some ⟨g, 0, none⟩)) xT u
  obtain ⟨ty, py, rfl⟩ := hy.iface
  have C0 := Lib.hid (show w.cell? ⟨g, 0, none⟩ = some (.int .u8 c) from cell_of_row w g 0 _ _ (0, 0) hh)
  have C1 := Lib.hid (show w.cell? ⟨g, 1, none⟩ = some (.int .u8 i) from cell_of_row w g 1 _ _ (0, 0) hh)
  have C2 := Lib.hid (show w.cell? ⟨g, 2, none⟩ = some x from cell_of_row w g 2 _ _ (0, 0) hh)
  have c1 := C1.out
  have c3 : w.cell? ⟨g, 3, none⟩ = some (.iface ty py) := cell_of_row w g 3 _ _ (0, 0) hh
  have r0 : w.cell? ⟨r, 0, none⟩ = some (.int .u8 v) := cell_of_row w r 0 _ _ (0, 0) hr
  have HI1 := Lib.hid ih1
  have HI2 := Lib.hid ih2
  have HY := Lib.hid hy.any
  have HT := Lib.hid ht
  clear ih1 ih2 hh hr hy ht
  by_cases hiv : i = v
  · have hne : (i != v) = false := by simp [hiv]
    have HTT : Hid (t' = t) := Lib.hid (by have := HT.out; rw [if_pos hiv] at this; exact this)
    clear hiv
    go_enter Try.func83, Try.ntmps83
    go_wp2_with fail
    go_quiet (fail)
    have HPE : Hid (PT w (fun _ => True) t' (.iface ty py)) := Lib.hid (by rw [HTT.out]; exact HY.out)
    have d0 := C0.out
    have d1 := C1.out
    have d2 := C2.out
    go_wp2_with fail
    go_region_law (first
      | (go_simp
         go_at_call 83
         refine (HI1.out _ (gr_drewN w (nq + 1) none)).mono ?_
         rintro e wb ⟨x', rfl, hgb, hpb⟩
         obtain ⟨tx, px, rfl⟩ := hpb.iface
         have hgb' := (gr_drewN w (nq + 1) none).trans hgb
         have HGb := Lib.hid hgb'
         have HPb := Lib.hid hpb
         have HPe := Lib.hid (HPE.out.grown hgb')
         have d0b := HGb.out.cell C0.out (by simp)
         have d1b := HGb.out.cell C1.out (by simp)
         clear hgb hpb hgb'))
    all_goals
      go_wp2_with fail
    all_goals
      go_ret
      exact ⟨_, rfl, HGb.out.trans (World.grownBy_alloc _ _ _), pt_loop HPb.out HPe.out⟩
  · have hne : (i != v) = true := by simp [hiv]
    have HC2 := Lib.hid (HI2.out hiv)
    clear hiv
    go_enter Try.func83, Try.ntmps83
    go_wp2_with fail
    go_quiet (fail)
    go_wp2_with fail
    refine (HC2.out _ (gr_drewN w nq none)).mono ?_
    rintro e w1 ⟨y', rfl, hg1, hp1⟩
    obtain ⟨tq, pq, rfl⟩ := hp1.iface
    have HGW := Lib.hid ((gr_drewN w nq none).trans hg1)
    have HPE := Lib.hid hp1
    have d0 := HGW.out.cell C0.out (by simp)
    have d1 := HGW.out.cell C1.out (by simp)
    have d2 := HGW.out.cell C2.out (by simp)
    clear hg1 hp1
    go_wp2_with fail
    go_region_law (first
      | (go_simp
         go_at_call 83
         refine (HI1.out _ (HGW.out.trans (gr_drewN w1 1 none))).mono ?_
         rintro e wb ⟨x', rfl, hgb, hpb⟩
         obtain ⟨tx, px, rfl⟩ := hpb.iface
         have hgb' := (gr_drewN w1 1 none).trans hgb
         have HGb := Lib.hid (HGW.out.trans hgb')
         have HPb := Lib.hid hpb
         have HPe := Lib.hid (HPE.out.grown hgb')
         have d0b := HGb.out.cell C0.out (by simp)
         have d1b := HGb.out.cell C1.out (by simp)
         clear hgb hpb hgb'))
    all_goals
      go_wp2_with fail
    all_goals
      go_ret
      exact ⟨_, rfl, HGb.out.trans (World.grownBy_alloc _ _ _), pt_loop HPb.out HPe.out⟩

theorem inn_any (r : Nat) (v : Int) (u : Tm) (byv : Value) (fb : Nat) : ∀ (n : Nat) (t : Tm) (S : Nat → Prop) (x : Value) (w : World), t.size ≤ n → PT w S t x → w.heap[r]? = some (.cells #[.int .u8 v, byv, .map (some fb)] 167 (0, 0)) → PT w (fun _ => True) u byv →
    Calls Try.prog 83 #[.pointer (some ⟨r, 0, none⟩), x] w (InP (t.rep v u) w)
  | 0, t, _, _, _, hn, _, _, _ => by have := t.size_pos; omega
  | n + 1, .dig c, S, x, w, hn, h, hr, hu => by cases h; exact in_dig c _ w
  | n + 1, .var c, S, x, w, hn, h, hr, hu => by cases h; exact in_var c v u r byv _ w hu hr
  | n + 1, .pre c s, S, x, w, hn, h, hr, hu => by
    obtain ⟨g, x, rfl, _, hh, hx⟩ := h
    simp only [Tm.size] at hn
    exact in_pre c _ r g x w hh (fun w' hg => inn_any r v u byv fb n s S x w' (by omega) (hx.grown hg) ((hg.block r (blk_lt hr) (by simp)).trans hr) (hu.grown hg))
  | n + 1, .two c s t, S, x, w, hn, h, hr, hu => by
    obtain ⟨g, x, y, rfl, _, hh, hx, hy⟩ := h
    simp only [Tm.size] at hn
    exact in_two c _ _ r g x y w hh (fun w' hg => inn_any r v u byv fb n s S x w' (by omega) (hx.grown hg) ((hg.block r (blk_lt hr) (by simp)).trans hr) (hu.grown hg))
      (fun w' hg => inn_any r v u byv fb n t S y w' (by omega) (hy.grown hg) ((hg.block r (blk_lt hr) (by simp)).trans hr) (hu.grown hg))
  | n + 1, .loop c i s t, S, x, w, hn, h, hr, hu => by
    obtain ⟨g, x, y, rfl, _, hh, hx, hy⟩ := h
    simp only [Tm.size] at hn
    refine in_loop c i v (s.rep v u) t (if i = v then t else t.rep v u) S r g x y byv _ w (by split <;> rfl) hr hh hy (fun w' hg => inn_any r v u byv fb n s S x w' (by omega) (hx.grown hg) ((hg.block r (blk_lt hr) (by simp)).trans hr) (hu.grown hg))
      (fun hiv w' hg => ?_)
    rw [if_neg hiv]
    exact inn_any r v u byv fb n t S y w' (by omega) (hy.grown hg) ((hg.block r (blk_lt hr) (by simp)).trans hr) (hu.grown hg)
end

end Go.Proofs.Ytmofoeljajdhmaa
