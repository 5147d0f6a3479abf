/- What fold of the program does. -/
import Derived.Test.YtboddoaekcchpaaGreatRls
import Derived.Test.YtboddoaekcchpaaGreatAri
namespace Go.Proofs.YtboddoaekcchpaaGreat
open Go.RowKit
attribute [local go_sem] Oper.semAt_some

theorem ta_dgt_any {w : World} {S : Nat → Prop} {t : Tm} {ty : TypeId} {pv : Value} (h : PT w S t (.iface ty pv)) : ∃ (m : Int) (b : Bool), (∀ xT u, (Instr.typeAssert (.iface ty pv) xT 110 true).run Tryz.prog u = .ok (.tuple #[.int .u8 m, .bool b]) u) ∧ ((b = true ∧ t = .dig m) ∨ (b = false ∧ t.isDgt = false)) := by
  cases hb : t.isDgt with
  | true =>
    cases t <;> try cases hb
    rename_i c
    cases h
    exact ⟨c, true, fun xT u => ta_dig_dig _ _ _, .inl ⟨rfl, rfl⟩⟩
  | false => exact ⟨0, false, fun xT u => ta_nodgt h hb xT u, .inr ⟨rfl, rfl⟩⟩
theorem rFold_no {t : Tm} (h : t.isTwo = false) : rFold t = none := by cases t <;> first | rfl | cases h
theorem rFold_l {c : Int} {s u : Tm} (h : s.isDgt = false) : rFold (.two c s u) = none := by cases s <;> first | rfl | cases h
theorem rFold_r {c : Int} {s u : Tm} (h : u.isDgt = false) : rFold (.two c s u) = none := by cases s <;> cases u <;> first | rfl | cases h
theorem rFold_at {s u : Tm} : rFold (.two 64 s u) = none := by cases s <;> cases u <;> first | rfl | simp [rFold]

set_option maxRecDepth 100000 in
set_option maxHeartbeats 4000000 in
theorem rfold_any (t : Tm) (S : Nat → Prop) (ty : TypeId) (pv : Value) (w : World) (ho : t.Ok) (h : PT w S t (.iface ty pv)) :
    Calls Tryz.prog 98 #[.iface ty pv] w (RulE (rFold t) w) := by
  cases hl : t.isTwo with
  | false =>
    have ht := ta_notwo h hl
    have HR := Lib.hid (rFold_no hl)
    clear h hl ho
    go_enter Tryz.func98, Tryz.ntmps98
    go_wp2_with fail
    go_ret2
    exact .inl ⟨HR.out, _, rfl, gr_refl _ _⟩
  | true =>
    cases t <;> try cases hl
    rename_i c s u
    obtain ⟨g, x, y, hv, _, hh, hx, hy⟩ := h
    cases hv
    have ht := fun xT u => ta_two_two (.pointer (some ⟨g, 0, none⟩)) xT u
    have c0 : w.cell? ⟨g, 0, none⟩ = some (.int .u8 c) := cell_of_row w g 0 _ _ (0, 0) hh
    by_cases h64 : c = 64
    · subst h64
      have HR := Lib.hid (rFold_at (s := s) (u := u))
      clear hh hx hy ho
      go_enter Tryz.func98, Tryz.ntmps98
      go_wp2_with fail
      go_ret2
      exact .inl ⟨HR.out, _, rfl, gr_refl _ _⟩
    · have b64 : (c == 64) = false := by rw [beq_eq_false_iff_ne]; exact h64
      obtain ⟨tx, px, rfl⟩ := hx.iface
      obtain ⟨t2, p2, rfl⟩ := hy.iface
      have c1 : w.cell? ⟨g, 1, none⟩ = some (.iface tx px) := cell_of_row w g 1 _ _ (0, 0) hh
      have c2 : w.cell? ⟨g, 2, none⟩ = some (.iface t2 p2) := cell_of_row w g 2 _ _ (0, 0) hh
      obtain ⟨m, bm, htm, hm⟩ := ta_dgt_any hx
      obtain ⟨n, bn, htn, hn⟩ := ta_dgt_any hy
      have HO := Lib.hid ho
      clear hh hx hy ho
      rcases hm with ⟨rfl, rfl⟩ | ⟨rfl, hm⟩
      · rcases hn with ⟨rfl, rfl⟩ | ⟨rfl, hn⟩
        · have hm9 := isD_ge HO.out.2.1
          have hn9 := isD_ge HO.out.2.2
          have HA := Lib.hid (fun w => ariOf_any c w)
          have HR : Hid (rFold (.two c (.dig m) (.dig n)) = if arith c (m - 48) (n - 48) ≤ 9 then some (.dig (48 + arith c (m - 48) (n - 48))) else none) := Lib.hid (by simp [rFold, h64])
          have hpos := arith_pos (c := c) (show 0 ≤ m - 48 by omega) (show 0 ≤ n - 48 by omega)
          have hhi := arith_hi (c := c) (show 0 ≤ m - 48 by omega) (show 0 ≤ n - 48 by omega) (by omega) (by omega)
          obtain ⟨z, hz⟩ : ∃ z, arith c (m - 48) (n - 48) = z := ⟨_, rfl⟩
          rw [hz] at HR hpos hhi
          have HZ := Lib.hid hz
          clear hz h64
          go_enter Tryz.func98, Tryz.ntmps98
          go_wp2_with fail
          refine (HA.out _).mono ?_
          rintro e w1 ⟨gf, rfl, ha, rfl⟩
          have heg := ha.enters
          have HC := Lib.hid (ha.call (m - 48) (n - 48) w1 (by omega) (by omega) (by omega) (by omega))
          rw [HZ.out] at HC
          clear ha
          go_wp2_with fail
          refine HC.out.mono ?_
          rintro e w2 ⟨rfl, rfl⟩
          by_cases h9 : z ≤ 9
          · have hgt : ¬ 9 < z := by omega
            rw [if_pos h9] at HR
            go_wp2_with fail
            go_ret2
            refine .inr ⟨_, _, rfl, gr_refl _ _, _, HR.out, ?_⟩
            rfl
          · have hgt : 9 < z := by omega
            rw [if_neg h9] at HR
            go_wp2_with fail
            go_ret2
            exact .inl ⟨HR.out, _, rfl, gr_refl _ _⟩
        · have HR := Lib.hid (rFold_r (c := c) (s := .dig m) hn)
          clear h64 hn
          go_enter Tryz.func98, Tryz.ntmps98
          go_wp2_with fail
          go_ret2
          exact .inl ⟨HR.out, _, rfl, gr_refl _ _⟩
      · have HR := Lib.hid (rFold_l (c := c) (u := u) hm)
        clear h64 hm hn
        go_enter Tryz.func98, Tryz.ntmps98
        go_wp2_with fail
        go_ret2
        exact .inl ⟨HR.out, _, rfl, gr_refl _ _⟩

end Go.Proofs.YtboddoaekcchpaaGreat
