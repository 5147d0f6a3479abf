/- What leaveOutTurn and lengthOfOver of the program do. -/
import Derived.Test.YtboddoaekcchpaaGreatRls
namespace Go.Proofs.YtboddoaekcchpaaGreat
open Go.RowKit

theorem pt_pre {w : World} {c : Int} {s : Tm} {x : Value} (h : PT w (fun _ => True) s x) : PT (w.alloc (.cells #[.int .u8 c, x] 115)) (fun _ => True) (.pre c s) (.iface 112 (.pointer (some ⟨w.heap.size, 0, none⟩))) :=
  ⟨_, _, rfl, trivial, heap_alloc_new _ _, h.grown (World.grownBy_alloc _ _ _)⟩
theorem pt_two {w : World} {c : Int} {s t : Tm} {x y : Value} (h : PT w (fun _ => True) s x) (h2 : PT w (fun _ => True) t y) : PT (w.alloc (.cells #[.int .u8 c, x, y] 119)) (fun _ => True) (.two c s t) (.iface 116 (.pointer (some ⟨w.heap.size, 0, none⟩))) :=
  ⟨_, _, _, rfl, trivial, heap_alloc_new _ _, h.grown (World.grownBy_alloc _ _ _), h2.grown (World.grownBy_alloc _ _ _)⟩
theorem pt_loop {w : World} {c i : Int} {s t : Tm} {x y : Value} (h : PT w (fun _ => True) s x) (h2 : PT w (fun _ => True) t y) : PT (w.alloc (.cells #[.int .u8 c, .int .u8 i, x, y] 97)) (fun _ => True) (.loop c i s t) (.iface 94 (.pointer (some ⟨w.heap.size, 0, none⟩))) :=
  ⟨_, _, _, rfl, trivial, heap_alloc_new _ _, h.grown (World.grownBy_alloc _ _ _), h2.grown (World.grownBy_alloc _ _ _)⟩

theorem rTurn_no {t : Tm} (h : t.isPrf = false) : rTurn t = none := by cases t <;> first | rfl | cases h
theorem rTurn_c {c : Int} {s : Tm} (h : b4 c = false) : rTurn (.pre c s) = none := by
  have h2 : ¬ (c = 82 ∨ c = 83 ∨ c = 77 ∨ c = 78) := by simpa [b4] using h
  cases s <;> try rfl
  simp only [rTurn]
  split
  · rw [if_neg (by omega), if_neg (by omega)]
  · rfl
theorem rTurn_s {c : Int} {s : Tm} (h : s.isPrf = false) : rTurn (.pre c s) = none := by cases s <;> first | rfl | cases h
theorem rTurn_d {c d : Int} {s : Tm} (h : b1 82 d = false) : rTurn (.pre c (.pre d s)) = none := by
  have h2 : ¬ d = 82 := by simpa [b1] using h
  simp [rTurn, h2]
theorem rTurn_r {d : Int} {s : Tm} (h : b1 82 d = true) : rTurn (.pre 82 (.pre d s)) = some s := by
  have h2 : d = 82 := by simpa [b1] using h
  simp [rTurn, h2]
theorem rTurn_o {c d : Int} {s : Tm} (h4 : b4 c = true) (h : b1 82 d = true) (hc : c ≠ 82) : rTurn (.pre c (.pre d s)) = some (.pre c s) := by
  have h2 : d = 82 := by simpa [b1] using h
  have h3 : c = 82 ∨ c = 83 ∨ c = 77 ∨ c = 78 := by simpa [b4] using h4
  simp only [rTurn, h2, if_true]
  rw [if_neg hc, if_pos (by omega)]

set_option maxRecDepth 100000 in
set_option maxHeartbeats 4000000 in
theorem rturn_any (t : Tm) (S : Nat → Prop) (ty : TypeId) (pv : Value) (w : World) (ho : t.Ok) (h : PT w S t (.iface ty pv)) :
    Calls Tryz.prog 100 #[.iface ty pv] w (RulE (rTurn t) w) := by
  cases hl : t.isPrf with
  | false =>
    have HP := Lib.hid (pfx_miss t S ⟨#[82, 83, 77, 78]⟩ ty pv w h hl)
    have HR := Lib.hid (rTurn_no hl)
    clear h hl ho
    go_enter Tryz.func100, Tryz.ntmps100
    go_wp2_with fail
    refine HP.out.mono ?_
    rintro e w1 ⟨rfl, hg1⟩
    go_wp2_with fail
    go_ret2
    exact .inl ⟨HR.out, _, rfl, hg1⟩
  | true =>
    cases t <;> try cases hl
    rename_i c s
    obtain ⟨g, x, hv, _, hh, hx⟩ := h
    cases hv
    have HP := Lib.hid (pfx_hit c ⟨#[82, 83, 77, 78]⟩ (b4 c) g x w (one4 (pb ho.1)) hh)
    obtain ⟨tx, px, rfl⟩ := hx.iface
    obtain ⟨b, hb⟩ : ∃ b, b4 c = b := ⟨_, rfl⟩
    rw [hb] at HP
    have C0 := Lib.hid (show w.cell? ⟨g, 0, none⟩ = some (.int .u8 c) from cell_of_row w g 0 _ _ (0, 0) hh)
    have C1 := Lib.hid (show w.cell? ⟨g, 1, none⟩ = some (.iface tx px) from cell_of_row w g 1 _ _ (0, 0) hh)
    have HX := Lib.hid hx
    have HO := Lib.hid ho
    have HB := Lib.hid hb
    clear hh hx ho hb
    cases b with
    | false =>
      have HR := Lib.hid (rTurn_c (s := s) HB.out)
      go_enter Tryz.func100, Tryz.ntmps100
      go_wp2_with fail
      refine HP.out.mono ?_
      rintro e w1 ⟨rfl, hg1⟩
      go_wp2_with fail
      go_ret2
      exact .inl ⟨HR.out, _, rfl, hg1⟩
    | true =>
      go_enter Tryz.func100, Tryz.ntmps100
      go_wp2_with fail
      refine HP.out.mono ?_
      rintro e w1 ⟨rfl, hg1⟩
      have HG1 := Lib.hid hg1
      have HX1 := Lib.hid (HX.out.grown hg1)
      have c0 := hg1.cell C0.out (by simp)
      have c1 := hg1.cell C1.out (by simp)
      clear hg1
      cases hl : s.isPrf with
      | false =>
        have HP2 := Lib.hid (pfx_miss s S ⟨#[82]⟩ tx px w1 HX1.out hl)
        have HR := Lib.hid (rTurn_s (c := c) hl)
        clear hl
        go_wp2_with fail
        refine HP2.out.mono ?_
        rintro e w2 ⟨rfl, hg2⟩
        have HG2 := Lib.hid (HG1.out.trans hg2)
        clear hg2
        go_wp2_with fail
        go_ret2
        exact .inl ⟨HR.out, _, rfl, HG2.out⟩
      | true =>
        obtain ⟨d, q, rfl⟩ : ∃ d q, s = .pre d q := by cases s <;> first | exact ⟨_, _, rfl⟩ | cases hl
        obtain ⟨g2, y, hv, _, hh2, hy⟩ := HX1.out
        cases hv
        have HP2 := Lib.hid (pfx_hit d ⟨#[82]⟩ (b1 82 d) g2 y w1 (oneR (pb HO.out.2.1)) hh2)
        obtain ⟨t2, p2, rfl⟩ := hy.iface
        obtain ⟨b2, hb2⟩ : ∃ b, b1 82 d = b := ⟨_, rfl⟩
        rw [hb2] at HP2
        have HB2 := Lib.hid hb2
        have D1 := Lib.hid (show w1.cell? ⟨g2, 1, none⟩ = some (.iface t2 p2) from cell_of_row w1 g2 1 _ _ (0, 0) hh2)
        have HY := Lib.hid hy.any
        have C0b := Lib.hid c0
        clear hh2 hy hb2
        go_wp2_with fail
        refine HP2.out.mono ?_
        rintro e w2 ⟨rfl, hg2⟩
        have HG2 := Lib.hid (HG1.out.trans hg2)
        have d0 := hg2.cell C0b.out (by simp)
        have d1 := hg2.cell D1.out (by simp)
        have HY2 := Lib.hid (HY.out.grown hg2)
        clear hg2 c0 c1
        cases b2 with
        | false =>
          have HR := Lib.hid (rTurn_d (c := c) (s := q) HB2.out)
          go_wp2_with fail
          go_ret2
          exact .inl ⟨HR.out, _, rfl, HG2.out⟩
        | true =>
          by_cases h82 : c = 82
          · subst h82
            have HR := Lib.hid (rTurn_r (s := q) HB2.out)
            go_wp2_with fail
            go_ret2
            exact .inr ⟨_, _, rfl, HG2.out, _, HR.out, HY2.out⟩
          · have b82 : (c == 82) = false := by rw [beq_eq_false_iff_ne]; exact h82
            have HR := Lib.hid (rTurn_o (s := q) HB.out HB2.out h82)
            clear h82
            go_wp2_with fail
            go_region
            all_goals
              go_wp2_with fail
              go_ret2
              exact .inr ⟨_, _, rfl, HG2.out.trans ((gr_drewN _ _ _).trans (World.grownBy_alloc _ _ _)), _, HR.out, pt_pre (HY2.out.grown (gr_drewN _ _ _))⟩

theorem rLen_no {t : Tm} (h : t.isPrf = false) : rLen t = none := by cases t <;> first | rfl | cases h
theorem rLen_c {c : Int} {s : Tm} (h : b1 78 c = false) : rLen (.pre c s) = none := by
  have h2 : ¬ c = 78 := by simpa [b1] using h
  cases s <;> first | rfl | simp [rLen, h2]
theorem rLen_s {c : Int} {s : Tm} (h : s.isLp = false) : rLen (.pre c s) = none := by cases s <;> first | rfl | cases h
theorem rLen_d {c d i : Int} {s q : Tm} (h : b1 91 d = false) : rLen (.pre c (.loop d i s q)) = none := by
  have h2 : ¬ d = 91 := by simpa [b1] using h
  simp [rLen, h2]
theorem rLen_o {c d i : Int} {s q : Tm} (h : b1 78 c = true) (h2 : b1 91 d = true) : rLen (.pre c (.loop d i s q)) = some (.pre c s) := by
  have h3 : c = 78 := by simpa [b1] using h
  have h4 : d = 91 := by simpa [b1] using h2
  simp [rLen, h3, h4]

set_option maxRecDepth 100000 in
set_option maxHeartbeats 4000000 in
theorem rlen_any (t : Tm) (S : Nat → Prop) (ty : TypeId) (pv : Value) (w : World) (ho : t.Ok) (h : PT w S t (.iface ty pv)) :
    Calls Tryz.prog 102 #[.iface ty pv] w (RulE (rLen t) w) := by
  cases hl : t.isPrf with
  | false =>
    have HP := Lib.hid (pfx_miss t S ⟨#[78]⟩ ty pv w h hl)
    have HR := Lib.hid (rLen_no hl)
    clear h hl ho
    go_enter Tryz.func102, Tryz.ntmps102
    go_wp2_with fail
    refine HP.out.mono ?_
    rintro e w1 ⟨rfl, hg1⟩
    go_wp2_with fail
    go_ret2
    exact .inl ⟨HR.out, _, rfl, hg1⟩
  | true =>
    cases t <;> try cases hl
    rename_i c s
    obtain ⟨g, x, hv, _, hh, hx⟩ := h
    cases hv
    have HP := Lib.hid (pfx_hit c ⟨#[78]⟩ (b1 78 c) g x w (oneN (pb ho.1)) hh)
    obtain ⟨tx, px, rfl⟩ := hx.iface
    obtain ⟨b, hb⟩ : ∃ b, b1 78 c = b := ⟨_, rfl⟩
    rw [hb] at HP
    have C0 := Lib.hid (show w.cell? ⟨g, 0, none⟩ = some (.int .u8 c) from cell_of_row w g 0 _ _ (0, 0) hh)
    have C1 := Lib.hid (show w.cell? ⟨g, 1, none⟩ = some (.iface tx px) from cell_of_row w g 1 _ _ (0, 0) hh)
    have HX := Lib.hid hx
    have HB := Lib.hid hb
    clear hh hx ho hb
    cases b with
    | false =>
      have HR := Lib.hid (rLen_c (s := s) HB.out)
      go_enter Tryz.func102, Tryz.ntmps102
      go_wp2_with fail
      refine HP.out.mono ?_
      rintro e w1 ⟨rfl, hg1⟩
      go_wp2_with fail
      go_ret2
      exact .inl ⟨HR.out, _, rfl, hg1⟩
    | true =>
      go_enter Tryz.func102, Tryz.ntmps102
      go_wp2_with fail
      refine HP.out.mono ?_
      rintro e w1 ⟨rfl, hg1⟩
      have HG1 := Lib.hid hg1
      have HX1 := Lib.hid (HX.out.grown hg1)
      have c0 := hg1.cell C0.out (by simp)
      have c1 := hg1.cell C1.out (by simp)
      clear hg1
      cases hl : s.isLp with
      | false =>
        have HP2 := Lib.hid (fe_miss s S tx px w1 HX1.out hl)
        have HR := Lib.hid (rLen_s (c := c) hl)
        clear hl
        go_wp2_with fail
        refine HP2.out.mono ?_
        rintro e w2 ⟨rfl, hg2⟩
        have HG2 := Lib.hid (HG1.out.trans hg2)
        clear hg2
        go_wp2_with fail
        go_ret2
        exact .inl ⟨HR.out, _, rfl, HG2.out⟩
      | true =>
        obtain ⟨d, i, s, q, rfl⟩ : ∃ d i s' q, s = .loop d i s' q := by cases s <;> first | exact ⟨_, _, _, _, rfl⟩ | cases hl
        obtain ⟨g2, y, z, hv, _, hh2, hy, hz⟩ := HX1.out
        cases hv
        have HP2 := Lib.hid (fe_hit d i g2 y z w1 hh2)
        obtain ⟨t2, p2, rfl⟩ := hy.iface
        obtain ⟨b2, hb2⟩ : ∃ b, b1 91 d = b := ⟨_, rfl⟩
        rw [hb2] at HP2
        have HB2 := Lib.hid hb2
        have D1 := Lib.hid (show w1.cell? ⟨g2, 2, none⟩ = some (.iface t2 p2) from cell_of_row w1 g2 2 _ _ (0, 0) hh2)
        have HY := Lib.hid hy.any
        have C0b := Lib.hid c0
        clear hh2 hy hb2 hz
        go_wp2_with fail
        refine HP2.out.mono ?_
        rintro e w2 ⟨rfl, hg2⟩
        have HG2 := Lib.hid (HG1.out.trans hg2)
        have d0 := hg2.cell C0b.out (by simp)
        have d1 := hg2.cell D1.out (by simp)
        have HY2 := Lib.hid (HY.out.grown hg2)
        clear hg2 c0 c1
        cases b2 with
        | false =>
          have HR := Lib.hid (rLen_d (c := c) (i := i) (s := s) (q := q) HB2.out)
          go_wp2_with fail
          go_ret2
          exact .inl ⟨HR.out, _, rfl, HG2.out⟩
        | true =>
          have HR := Lib.hid (rLen_o (i := i) (s := s) (q := q) HB.out HB2.out)
          go_wp2_with fail
          go_region
          all_goals
            go_wp2_with fail
            go_ret2
            exact .inr ⟨_, _, rfl, HG2.out.trans ((gr_drewN _ _ _).trans (World.grownBy_alloc _ _ _)), _, HR.out, pt_pre (HY2.out.grown (gr_drewN _ _ _))⟩

end Go.Proofs.YtboddoaekcchpaaGreat
