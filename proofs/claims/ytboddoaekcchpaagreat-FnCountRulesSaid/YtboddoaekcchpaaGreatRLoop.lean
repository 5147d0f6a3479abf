/- What leaveOutLoop of the program does. -/
import Derived.Test.YtboddoaekcchpaaGreatREql
import Derived.Test.YtboddoaekcchpaaGreatRFold
namespace Go.Proofs.YtboddoaekcchpaaGreat
open Go.RowKit

theorem isCon_no {u : Tm} (h : u.isDgt = false) : u.isCon = false := by cases u <;> first | rfl | cases h
theorem rLoop_no {t : Tm} (h : t.isLp = false) : rLoop t = none := by cases t <;> first | rfl | cases h

set_option maxRecDepth 100000 in
set_option maxHeartbeats 8000000 in
theorem rloop_any (t : Tm) (S : Nat → Prop) (ty : TypeId) (pv : Value) (w : World) (ho : t.Ok) (h : PT w S t (.iface ty pv)) :
    Calls Tryz.prog 101 #[.iface ty pv] w (RulE (rLoop t) w) := by
  cases hl : t.isLp with
  | false =>
    have ht := ta_nolp h hl
    have HR := Lib.hid (rLoop_no hl)
    clear h hl ho
    go_enter Tryz.func101, Tryz.ntmps101
    go_wp2_with fail
    go_ret2
    exact .inl ⟨HR.out, _, rfl, gr_refl _ _⟩
  | true =>
    obtain ⟨c, i, s, u, rfl⟩ : ∃ c i s u, t = .loop c i s u := by cases t <;> first | exact ⟨_, _, _, _, rfl⟩ | cases hl
    obtain ⟨g, x, y, hv, _, hh, hx, hy⟩ := h
    cases hv
    have ht := fun xT u => ta_loop_loop (.pointer (some ⟨g, 0, none⟩)) xT u
    obtain ⟨tx, px, rfl⟩ := hx.iface
    obtain ⟨t2, p2, rfl⟩ := hy.iface
    have c0 : w.cell? ⟨g, 0, none⟩ = some (.int .u8 c) := cell_of_row w g 0 _ _ (0, 0) hh
    have c1 : w.cell? ⟨g, 1, none⟩ = some (.int .u8 i) := cell_of_row w g 1 _ _ (0, 0) hh
    have c2 : w.cell? ⟨g, 2, none⟩ = some (.iface tx px) := cell_of_row w g 2 _ _ (0, 0) hh
    have c3 : w.cell? ⟨g, 3, none⟩ = some (.iface t2 p2) := cell_of_row w g 3 _ _ (0, 0) hh
    have q1 := fun u => eql_var hy i u
    have HX := Lib.hid hx.any
    obtain ⟨m, bm, htm, hm⟩ := ta_dgt_any hy
    have hc := ho.1
    have HR : Hid (rLoop (.loop c i s u) = if c = 91 then (if u.varIs i = true then some s else none) else (if bm = true ∧ (m != 48) = true then some s else none)) := Lib.hid (by
      simp only [rLoop]
      by_cases h91 : c = 91
      · simp [h91]
      · simp only [h91, false_and, false_or, if_false, ne_eq, not_false_eq_true, true_and]
        rcases hm with ⟨rfl, rfl⟩ | ⟨rfl, hm⟩
        · simp [Tm.isCon]
        · simp [isCon_no hm])
    obtain ⟨d1, hd1⟩ : ∃ b, u.varIs i = b := ⟨_, rfl⟩
    rw [hd1] at HR
    simp only [hd1] at q1
    clear hh hx hy ho hd1 hl hm
    rcases hc with rfl | rfl
    · simp only [if_true] at HR
      go_enter Tryz.func101, Tryz.ntmps101
      go_wp2_with fail
      go_quiet (fail)
      go_wp2_with fail
      go_ret2
      cases d1
      · exact .inl ⟨HR.out, _, rfl, gr_drewN _ _ _⟩
      · exact .inr ⟨_, _, rfl, gr_drewN _ _ _, _, HR.out, HX.out.grown (gr_drewN _ _ _)⟩
    · rw [if_neg (by decide)] at HR
      obtain ⟨k, hk⟩ : ∃ b, (m != 48) = b := ⟨_, rfl⟩
      rw [hk] at HR
      go_enter Tryz.func101, Tryz.ntmps101
      go_wp2_with fail
      go_quiet (fail)
      cases bm <;> cases k
      all_goals
        go_wp2_with fail
        go_ret2
        first
          | exact .inl ⟨HR.out, _, rfl, gr_drewN _ _ _⟩
          | exact .inr ⟨_, _, rfl, gr_drewN _ _ _, _, HR.out, HX.out.grown (gr_drewN _ _ _)⟩

end Go.Proofs.YtboddoaekcchpaaGreat
