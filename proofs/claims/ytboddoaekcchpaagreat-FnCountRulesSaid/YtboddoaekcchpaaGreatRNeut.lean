/- What leaveOutNeutral of the program does. -/
import Derived.Test.YtboddoaekcchpaaGreatREql
namespace Go.Proofs.YtboddoaekcchpaaGreat
open Go.RowKit

theorem rNeut_no {t : Tm} (h : t.isTwo = false) : rNeut t = none := by cases t <;> first | rfl | cases h
/-- What it gives, by what is asked one after another. -/
theorem rNeut_is (c : Int) (s t : Tm) : rNeut (.two c s t) = if s.digIs 48 = true ∧ b2 c = true then some t else if s.digIs 49 = true ∧ c = 42 then some t
    else if t.digIs 48 = true ∧ b3 c = true then some s else if t.digIs 49 = true ∧ c = 42 then some s else none := by
  have e2 : b2 c = true ↔ (c = 43 ∨ c = 94) := by simp [b2]
  have e3 : b3 c = true ↔ (c = 43 ∨ c = 94 ∨ c = 45) := by simp [b3]
  simp only [rNeut, e2, e3]
  by_cases h1 : s.digIs 48 = true ∧ (c = 43 ∨ c = 94)
  · rw [if_pos (.inl ⟨h1.2, h1.1⟩), if_pos h1]
  · rw [if_neg h1]
    by_cases h2 : s.digIs 49 = true ∧ c = 42
    · rw [if_pos (.inr ⟨h2.2, h2.1⟩), if_pos h2]
    · rw [if_neg h2, if_neg (fun h => h.elim (fun h => h1 ⟨h.2, h.1⟩) (fun h => h2 ⟨h.2, h.1⟩))]
      by_cases h3 : t.digIs 48 = true ∧ (c = 43 ∨ c = 94 ∨ c = 45)
      · rw [if_pos (.inl ⟨h3.2, h3.1⟩), if_pos h3]
      · rw [if_neg h3]
        by_cases h4 : t.digIs 49 = true ∧ c = 42
        · rw [if_pos (.inr ⟨h4.2, h4.1⟩), if_pos h4]
        · rw [if_neg h4, if_neg (fun h => h.elim (fun h => h3 ⟨h.2, h.1⟩) (fun h => h4 ⟨h.2, h.1⟩))]

set_option maxRecDepth 100000 in
set_option maxHeartbeats 8000000 in
theorem rneut_any (t : Tm) (S : Nat → Prop) (ty : TypeId) (pv : Value) (w : World) (ho : t.Ok) (h : PT w S t (.iface ty pv)) :
    Calls Tryz.prog 99 #[.iface ty pv] w (RulE (rNeut t) w) := by
  cases hl : t.isTwo with
  | false =>
    have ht := ta_notwo h hl
    have HR := Lib.hid (rNeut_no hl)
    clear h hl ho
    go_enter Tryz.func99, Tryz.ntmps99
    go_wp2_with fail
    go_ret2
    exact .inl ⟨HR.out, _, rfl, gr_refl _ _⟩
  | true =>
    obtain ⟨c, s, u, rfl⟩ : ∃ c s u, t = .two c s u := by cases t <;> first | exact ⟨_, _, _, rfl⟩ | cases hl
    obtain ⟨g, x, y, hv, _, hh, hx, hy⟩ := h
    cases hv
    have ht := fun xT u => ta_two_two (.pointer (some ⟨g, 0, none⟩)) xT u
    have HR := Lib.hid (rNeut_is c s u)
    obtain ⟨tx, px, rfl⟩ := hx.iface
    obtain ⟨t2, p2, rfl⟩ := hy.iface
    have c0 : w.cell? ⟨g, 0, none⟩ = some (.int .u8 c) := cell_of_row w g 0 _ _ (0, 0) hh
    have c1 : w.cell? ⟨g, 1, none⟩ = some (.iface tx px) := cell_of_row w g 1 _ _ (0, 0) hh
    have c2 : w.cell? ⟨g, 2, none⟩ = some (.iface t2 p2) := cell_of_row w g 2 _ _ (0, 0) hh
    have q1 := fun u => eql_dig hx 48 u
    have q2 := fun u => eql_dig hx 49 u
    have q3 := fun u => eql_dig hy 48 u
    have q4 := fun u => eql_dig hy 49 u
    have HX := Lib.hid hx.any
    have HY := Lib.hid hy.any
    have HO2 := Lib.hid (one2 (bb ho.1))
    have HO3 := Lib.hid (one3 (bb ho.1))
    obtain ⟨d1, hd1⟩ : ∃ b, s.digIs 48 = b := ⟨_, rfl⟩
    obtain ⟨d2, hd2⟩ : ∃ b, s.digIs 49 = b := ⟨_, rfl⟩
    obtain ⟨d3, hd3⟩ : ∃ b, u.digIs 48 = b := ⟨_, rfl⟩
    obtain ⟨d4, hd4⟩ : ∃ b, u.digIs 49 = b := ⟨_, rfl⟩
    obtain ⟨k2, hk2⟩ : ∃ b, b2 c = b := ⟨_, rfl⟩
    obtain ⟨k3, hk3⟩ : ∃ b, b3 c = b := ⟨_, rfl⟩
    obtain ⟨k4, hk4⟩ : ∃ b, (c == 42) = b := ⟨_, rfl⟩
    have h42 : c = 42 ↔ k4 = true := by rw [← hk4]; simp
    rw [hd1, hd2, hd3, hd4, hk2, hk3] at HR
    simp only [h42] at HR
    simp only [hd1] at q1
    simp only [hd2] at q2
    simp only [hd3] at q3
    simp only [hd4] at q4
    rw [hk2] at HO2
    rw [hk3] at HO3
    clear hh hx hy ho hd1 hd2 hd3 hd4 hk2 hk3 h42 hl
    go_enter Tryz.func99, Tryz.ntmps99
    cases d1
    · try simp at HR
      cases d2
      · try simp at HR
        cases d3
        · try simp at HR
          cases d4
          · try simp at HR
            go_wp2_with fail
            go_ret2
            exact .inl ⟨HR.out, _, rfl, gr_refl _ _⟩
          · cases k4
            · try simp at HR
              go_wp2_with fail
              go_ret2
              exact .inl ⟨HR.out, _, rfl, gr_refl _ _⟩
            · try simp at HR
              go_wp2_with fail
              go_ret2
              exact .inr ⟨_, _, rfl, gr_refl _ _, _, HR.out, HX.out⟩
        · go_wp2_with fail
          refine (HO3.out _).mono ?_
          rintro e w1 ⟨rfl, rfl⟩
          cases k3
          · try simp at HR
            cases d4
            · try simp at HR
              go_wp2_with fail
              go_ret2
              exact .inl ⟨HR.out, _, rfl, gr_refl _ _⟩
            · cases k4
              · try simp at HR
                go_wp2_with fail
                go_ret2
                exact .inl ⟨HR.out, _, rfl, gr_refl _ _⟩
              · try simp at HR
                go_wp2_with fail
                go_ret2
                exact .inr ⟨_, _, rfl, gr_refl _ _, _, HR.out, HX.out⟩
          · try simp at HR
            go_wp2_with fail
            go_ret2
            exact .inr ⟨_, _, rfl, gr_refl _ _, _, HR.out, HX.out⟩
      · cases k4
        · try simp at HR
          cases d3
          · try simp at HR
            cases d4
            · try simp at HR
              go_wp2_with fail
              go_ret2
              exact .inl ⟨HR.out, _, rfl, gr_refl _ _⟩
            · try simp at HR
              go_wp2_with fail
              go_ret2
              exact .inl ⟨HR.out, _, rfl, gr_refl _ _⟩
          · go_wp2_with fail
            refine (HO3.out _).mono ?_
            rintro e w1 ⟨rfl, rfl⟩
            cases k3
            · try simp at HR
              cases d4
              · try simp at HR
                go_wp2_with fail
                go_ret2
                exact .inl ⟨HR.out, _, rfl, gr_refl _ _⟩
              · try simp at HR
                go_wp2_with fail
                go_ret2
                exact .inl ⟨HR.out, _, rfl, gr_refl _ _⟩
            · try simp at HR
              go_wp2_with fail
              go_ret2
              exact .inr ⟨_, _, rfl, gr_refl _ _, _, HR.out, HX.out⟩
        · try simp at HR
          go_wp2_with fail
          go_ret2
          exact .inr ⟨_, _, rfl, gr_refl _ _, _, HR.out, HY.out⟩
    · go_wp2_with fail
      refine (HO2.out _).mono ?_
      rintro e w1 ⟨rfl, rfl⟩
      cases k2
      · try simp at HR
        cases d2
        · try simp at HR
          cases d3
          · try simp at HR
            cases d4
            · try simp at HR
              go_wp2_with fail
              go_ret2
              exact .inl ⟨HR.out, _, rfl, gr_refl _ _⟩
            · cases k4
              · try simp at HR
                go_wp2_with fail
                go_ret2
                exact .inl ⟨HR.out, _, rfl, gr_refl _ _⟩
              · try simp at HR
                go_wp2_with fail
                go_ret2
                exact .inr ⟨_, _, rfl, gr_refl _ _, _, HR.out, HX.out⟩
          · go_wp2_with fail
            refine (HO3.out _).mono ?_
            rintro e w1 ⟨rfl, rfl⟩
            cases k3
            · try simp at HR
              cases d4
              · try simp at HR
                go_wp2_with fail
                go_ret2
                exact .inl ⟨HR.out, _, rfl, gr_refl _ _⟩
              · cases k4
                · try simp at HR
                  go_wp2_with fail
                  go_ret2
                  exact .inl ⟨HR.out, _, rfl, gr_refl _ _⟩
                · try simp at HR
                  go_wp2_with fail
                  go_ret2
                  exact .inr ⟨_, _, rfl, gr_refl _ _, _, HR.out, HX.out⟩
            · try simp at HR
              go_wp2_with fail
              go_ret2
              exact .inr ⟨_, _, rfl, gr_refl _ _, _, HR.out, HX.out⟩
        · cases k4
          · try simp at HR
            cases d3
            · try simp at HR
              cases d4
              · try simp at HR
                go_wp2_with fail
                go_ret2
                exact .inl ⟨HR.out, _, rfl, gr_refl _ _⟩
              · try simp at HR
                go_wp2_with fail
                go_ret2
                exact .inl ⟨HR.out, _, rfl, gr_refl _ _⟩
            · go_wp2_with fail
              refine (HO3.out _).mono ?_
              rintro e w1 ⟨rfl, rfl⟩
              cases k3
              · try simp at HR
                cases d4
                · try simp at HR
                  go_wp2_with fail
                  go_ret2
                  exact .inl ⟨HR.out, _, rfl, gr_refl _ _⟩
                · try simp at HR
                  go_wp2_with fail
                  go_ret2
                  exact .inl ⟨HR.out, _, rfl, gr_refl _ _⟩
              · try simp at HR
                go_wp2_with fail
                go_ret2
                exact .inr ⟨_, _, rfl, gr_refl _ _, _, HR.out, HX.out⟩
          · try simp at HR
            go_wp2_with fail
            go_ret2
            exact .inr ⟨_, _, rfl, gr_refl _ _, _, HR.out, HY.out⟩
      · try simp at HR
        go_wp2_with fail
        go_ret2
        exact .inr ⟨_, _, rfl, gr_refl _ _, _, HR.out, HY.out⟩

end Go.Proofs.YtboddoaekcchpaaGreat
