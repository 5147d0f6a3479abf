/- 11 texts in one: RFuse WithP WithQ WithL TInN RFirst TTerm RuP SFree SRepS SRepL. -/
import Derived.Test.YtboddoaekcchpaaGreatRTurn
import Derived.Test.YtboddoaekcchpaaGreatInPt
import Derived.Test.YtboddoaekcchpaaGreatUse
import Derived.Test.YtboddoaekcchpaaGreatTBindA
import Derived.Deep.RegionHeld3
import Derived.Test.YtboddoaekcchpaaGreatTFreeL
import Derived.Shelf.Abstract
import Derived.Test.YtboddoaekcchpaaGreatRFold
import Derived.Test.YtboddoaekcchpaaGreatRNeut
import Derived.Test.YtboddoaekcchpaaGreatRLoop
import Derived.Test.YtboddoaekcchpaaGreatTReadL
import Derived.Test.YtboddoaekcchpaaGreatTmT
import Derived.Recover
import Derived.Test.YtboddoaekcchpaaGreatTText
import Derived.Test.YtboddoaekcchpaaGreatSSizeF
import Derived.Test.YtboddoaekcchpaaGreatSTxt
import Derived.Test.YtboddoaekcchpaaGreatKids
import Derived.Test.YtboddoaekcchpaaGreatTmD
import Derived.Test.YtboddoaekcchpaaGreatSTNode
namespace Go.Proofs.YtboddoaekcchpaaGreat
/- RFuse -/
section
open Go.RowKit

theorem rFuse_no {t : Tm} (h : t.isLp = false) : rFuse t = none := by cases t <;> first | rfl | cases h
theorem rFuse_c {c v : Int} {s u : Tm} (h : b1 91 c = false) : rFuse (.loop c v s u) = none := by
  have h2 : ¬ c = 91 := by simpa [b1] using h
  cases s <;> first | rfl | simp [rFuse, h2]
theorem rFuse_s {c v : Int} {s u : Tm} (h : s.isLp = false) : rFuse (.loop c v s u) = none := by cases s <;> first | rfl | cases h
theorem rFuse_d {c v d i : Int} {s t u : Tm} (h : b1 91 d = false) : rFuse (.loop c v (.loop d i s t) u) = none := by
  have h2 : ¬ d = 91 := by simpa [b1] using h
  simp [rFuse, h2]
theorem rFuse_u {c v d i : Int} {s t u : Tm} (h : 1 < u.uses v) : rFuse (.loop c v (.loop d i s t) u) = none := by
  have h2 : ¬ u.uses v ≤ 1 := by omega
  simp [rFuse, h2]
theorem rFuse_i {c v d i : Int} {s t u : Tm} (h1 : i ≠ v) (h : 0 < u.uses i) : rFuse (.loop c v (.loop d i s t) u) = none := by
  have h2 : ¬ u.uses i = 0 := by omega
  simp [rFuse, h2, h1]
theorem rFuse_o {c v d i : Int} {s t u : Tm} (hc : b1 91 c = true) (hd : b1 91 d = true) (h : u.uses v ≤ 1) (h2 : i = v ∨ u.uses i = 0) : rFuse (.loop c v (.loop d i s t) u) = some (.loop d i s (u.rep v t)) := by
  have h3 : c = 91 := by simpa [b1] using hc
  have h4 : d = 91 := by simpa [b1] using hd
  simp only [rFuse]
  rw [if_pos ⟨h3, h4, h, h2⟩, h4]

set_option maxRecDepth 100000 in
set_option maxHeartbeats 8000000 in
theorem rfuse_any (hin : InnC) (t : Tm) (S : Nat → Prop) (ty : TypeId) (pv : Value) (w : World) (ho : t.Ok) (hlen : t.txt.length ≤ 80) (h : PT w S t (.iface ty pv)) :
    Calls Tryz.prog 103 #[.iface ty pv] w (RulE (rFuse t) w) := by
  cases hl : t.isLp with
  | false =>
    have HP := Lib.hid (fe_miss t S ty pv w h hl)
    have HR := Lib.hid (rFuse_no hl)
    clear h hl ho
    go_enter Tryz.func103, Tryz.ntmps103
    go_wp2_with fail
    refine HP.out.mono ?_
    rintro e w1 ⟨rfl, hg1⟩
    go_wp2_with fail
    go_ret2
    exact .inl ⟨HR.out, _, rfl, hg1⟩
  | true =>
    obtain ⟨c, v, s, u, rfl⟩ : ∃ c v s u, t = .loop c v s u := by cases t <;> first | exact ⟨_, _, _, _, rfl⟩ | cases hl
    obtain ⟨g, x, y, hv, _, hh, hx, hy⟩ := h
    cases hv
    have HP := Lib.hid (fe_hit c v g x y w hh)
    obtain ⟨tx, px, rfl⟩ := hx.iface
    obtain ⟨t2, p2, rfl⟩ := hy.iface
    obtain ⟨b, hb⟩ : ∃ b, b1 91 c = b := ⟨_, rfl⟩
    rw [hb] at HP
    have C1 := Lib.hid (show w.cell? ⟨g, 1, none⟩ = some (.int .u8 v) from cell_of_row w g 1 _ _ (0, 0) hh)
    have C2 := Lib.hid (show w.cell? ⟨g, 2, none⟩ = some (.iface tx px) from cell_of_row w g 2 _ _ (0, 0) hh)
    have C3 := Lib.hid (show w.cell? ⟨g, 3, none⟩ = some (.iface t2 p2) from cell_of_row w g 3 _ _ (0, 0) hh)
    have HX := Lib.hid hx
    have HY := Lib.hid hy.any
    have HO := Lib.hid ho
    have HB := Lib.hid hb
    have hul : u.txt.length ≤ 80 := by simp only [Tm.txt, List.length_cons, List.length_append] at hlen; omega
    have HUL := Lib.hid hul
    have hlt : s.txt.length ≤ 80 := by simp only [Tm.txt, List.length_cons, List.length_append] at hlen; omega
    have HIN := Lib.hid hin
    have HSL := Lib.hid hlt
    clear hh hx hy ho hb hlen hul hin hl hlt
    cases b with
    | false =>
      have HR := Lib.hid (rFuse_c (v := v) (s := s) (u := u) HB.out)
      go_enter Tryz.func103, Tryz.ntmps103
      go_wp2_with fail
      refine HP.out.mono ?_
      rintro e w1 ⟨rfl, hg1⟩
      go_wp2_with fail
      go_ret2
      exact .inl ⟨HR.out, _, rfl, hg1⟩
    | true =>
      cases hl : s.isLp with
      | false =>
        have HR := Lib.hid (rFuse_s (c := c) (v := v) (u := u) hl)
        have HL := Lib.hid hl
        clear hl
        go_enter Tryz.func103, Tryz.ntmps103
        go_wp2_with fail
        refine HP.out.mono ?_
        rintro e w1 ⟨rfl, hg1⟩
        have HG1 := Lib.hid hg1
        have HP2 := Lib.hid (fe_miss s S tx px w1 (HX.out.grown hg1) HL.out)
        have c2 := hg1.cell C2.out (by simp)
        clear hg1
        go_wp2_with fail
        refine HP2.out.mono ?_
        rintro e w2 ⟨rfl, hg2⟩
        have HG2 := Lib.hid (HG1.out.trans hg2)
        clear hg2 c2
        go_wp2_with fail
        go_quiet (fail)
        go_wp2_with fail
        go_ret2
        exact .inl ⟨HR.out, _, rfl, HG2.out.trans (gr_drewN _ _ _)⟩
      | true =>
        obtain ⟨d, i, s, t, rfl⟩ : ∃ d i s' t', s = .loop d i s' t' := by cases s <;> first | exact ⟨_, _, _, _, rfl⟩ | cases hl
        obtain ⟨g2, z, y2, hv, _, hh2, hz, hy2⟩ := HX.out
        cases hv
        obtain ⟨t3, p3, rfl⟩ := hz.iface
        obtain ⟨t4, p4, rfl⟩ := hy2.iface
        have D0 := Lib.hid (show w.cell? ⟨g2, 0, none⟩ = some (.int .u8 d) from cell_of_row w g2 0 _ _ (0, 0) hh2)
        have D1 := Lib.hid (show w.cell? ⟨g2, 1, none⟩ = some (.int .u8 i) from cell_of_row w g2 1 _ _ (0, 0) hh2)
        have D2 := Lib.hid (show w.cell? ⟨g2, 2, none⟩ = some (.iface t3 p3) from cell_of_row w g2 2 _ _ (0, 0) hh2)
        have D3 := Lib.hid (show w.cell? ⟨g2, 3, none⟩ = some (.iface t4 p4) from cell_of_row w g2 3 _ _ (0, 0) hh2)
        have HZ := Lib.hid hz.any
        have HY2 := Lib.hid hy2.any
        have HH2 := Lib.hid hh2
        obtain ⟨b', hb'⟩ : ∃ b, b1 91 d = b := ⟨_, rfl⟩
        have HB2 := Lib.hid hb'
        clear hh2 hz hy2 hl hb'
        have HU1 := Lib.hid (fun (w' : World) (hg : w.grownBy w' none) => uses_any v u.size u _ _ w' (Nat.le_refl _) (Nat.le_trans (Tm.uses_hi v HUL.out) (by omega)) (HY.out.grown hg))
        have HU2 := Lib.hid (fun (w' : World) (hg : w.grownBy w' none) => uses_any i u.size u _ _ w' (Nat.le_refl _) (Nat.le_trans (Tm.uses_hi i HUL.out) (by omega)) (HY.out.grown hg))
        have HLT : Hid (t.txt.length ≤ 80) := Lib.hid (by have := HSL.out; simp only [Tm.txt, List.length_cons, List.length_append] at this; omega)
        have hts : t.size ≤ 1000000 := by have := t.size_txt; have := HLT.out; omega
        have HTS := Lib.hid hts
        have HTO := Lib.hid (show t.Ok from HO.out.2.2.1.2.2.2)
        clear hts
        have hb1 := Tm.uses_hi v HUL.out
        have hb2 := Tm.uses_hi i HUL.out
        obtain ⟨z1, hz1⟩ : ∃ z, u.uses v = z := ⟨_, rfl⟩
        obtain ⟨z2, hz2⟩ : ∃ z, u.uses i = z := ⟨_, rfl⟩
        rw [hz1] at HU1 hb1
        rw [hz2] at HU2 hb2
        have HZ1 := Lib.hid hz1
        have HZ2 := Lib.hid hz2
        clear hz1 hz2
        go_enter Tryz.func103, Tryz.ntmps103
        go_wp2_with fail
        refine HP.out.mono ?_
        rintro e w1 ⟨rfl, hg1⟩
        have HG1 := Lib.hid hg1
        have HP2 := Lib.hid (fe_hit d i g2 _ _ w1 ((hg1.block g2 (blk_lt HH2.out) (by simp)).trans HH2.out))
        rw [HB2.out] at HP2
        have c2 := hg1.cell C2.out (by simp)
        clear hg1
        go_wp2_with fail
        refine HP2.out.mono ?_
        rintro e w2 ⟨rfl, hg2⟩
        have HG2 := Lib.hid (HG1.out.trans hg2)
        clear hg2 c2
        cases b' with
        | false =>
          have HR := Lib.hid (rFuse_d (c := c) (v := v) (i := i) (s := s) (t := t) (u := u) HB2.out)
          go_wp2_with fail
          go_quiet (fail)
          go_wp2_with fail
          go_ret2
          exact .inl ⟨HR.out, _, rfl, HG2.out.trans (gr_drewN _ _ _)⟩
        | true =>
          have c1 := HG2.out.cell C1.out (by simp)
          have c3 := HG2.out.cell C3.out (by simp)
          go_wp2_with fail
          go_region_held3 (fun w' => w'.cell? ⟨g, 1, none⟩ = some (.int .u8 v) ∧ w'.cell? ⟨g, 3, none⟩ = some (.iface t2 p2)) (go_keep)
            (first
              | (go_at_call 120
                 (with_reducible refine (HU1.out _ ?_).mono ?_)
                 · exact HG2.out.trans (gr_drewN w2 1 none)
                 rintro e wa ⟨rfl, hga⟩
                 have HGa := Lib.hid ((HG2.out.trans (gr_drewN w2 1 none)).trans hga)
                 have k1 := HGa.out.cell C1.out (by simp)
                 have k3 := HGa.out.cell C3.out (by simp)
                 clear hga))
          by_cases hz1 : 1 < z1
          · have hgt : (1 : Int) < (z1 : Int) := by omega
            have HR := Lib.hid (rFuse_u (c := c) (v := v) (d := d) (i := i) (s := s) (t := t) (u := u) (by rw [HZ1.out]; exact hz1))
            clear hz1
            go_wp2_with fail
            go_ret2
            exact .inl ⟨HR.out, _, rfl, HGa.out⟩
          · have hgt : ¬ (1 : Int) < (z1 : Int) := by omega
            have HU0 : Hid (u.uses v ≤ 1) := Lib.hid (by rw [HZ1.out]; omega)
            clear hz1 c1 c3
            have e1 := HGa.out.cell D1.out (by simp)
            by_cases hiv : i = v
            · have hne : (i != v) = false := by simp [hiv]
              have HR := Lib.hid (rFuse_o (c := c) (v := v) (d := d) (i := i) (s := s) (t := t) (u := u) HB.out HB2.out HU0.out (.inl hiv))
              clear hiv
              go_wp2_with fail
              go_quiet (fail)
              go_wp2_with fail
              have HGW := Lib.hid (HGa.out.trans (gr_drewN wa nq none))
              have m1 := HGa.out.cell C1.out (by simp)
              have m3 := HGa.out.cell C3.out (by simp)
              have n3 := HGa.out.cell D3.out (by simp)
              have HYW := Lib.hid (HY.out.grown HGW.out)
              have HY2W := Lib.hid (HY2.out.grown HGW.out)
              go_region_held3 (fun w' => w'.cell? ⟨g, 1, none⟩ = some (.int .u8 v) ∧ w'.cell? ⟨g2, 3, none⟩ = some (.iface t4 p4) ∧ w'.cell? ⟨g, 3, none⟩ = some (.iface t2 p2)) (go_keep)
                (first
                  | (go_at_call 28
                     (with_reducible refine HIC.out.mono ?_)
                     rintro e wd ⟨x', rfl, hgd, hpd⟩
                     obtain ⟨tx', px', rfl⟩ := hpd.iface
                     have HGd := Lib.hid (HGc.out.trans hgd)
                     have HPd := Lib.hid hpd
                     have i1 := HGd.out.cell C1.out (by simp)
                     have i2 := HGd.out.cell D3.out (by simp)
                     have i3 := HGd.out.cell C3.out (by simp)
                     clear hgd hpd)
                  | (go_at_call 25
                     (with_reducible refine (repof_any v t (fun _ => True) _ _ HTO.out HTS.out ?_).mono ?_)
                     · exact HY2.out.grown (HGa.out.trans (gr_drewN wa (nq + 1) none))
                     rintro e wc ⟨r, fb, rfl, hgc, hra⟩
                     have HGc := Lib.hid ((HGa.out.trans (gr_drewN wa (nq + 1) none)).trans hgc)
                     have HIC := Lib.hid (HIN.out r v t _ fb u _ wc ((HY.out.grown (HGa.out.trans (gr_drewN wa (nq + 1) none))).grown hgc) hra.blk hra.by')
                     have j1 := HGc.out.cell C1.out (by simp)
                     have j2 := HGc.out.cell D3.out (by simp)
                     have j3 := HGc.out.cell C3.out (by simp)
                     clear hgc hra))
              have o0 := HGd.out.cell D0.out (by simp)
              have o1 := HGd.out.cell D1.out (by simp)
              have o2 := HGd.out.cell D2.out (by simp)
              have HZd := Lib.hid (HZ.out.grown HGd.out)
              clear k1 k3 e1 m1 m3 n3
              go_wp2_with fail
              go_region
              all_goals
                go_wp2_with fail
                go_ret2
                exact .inr ⟨_, _, rfl, HGd.out.trans ((gr_drewN _ _ _).trans (World.grownBy_alloc _ _ _)), _, HR.out, pt_loop (HZd.out.grown (gr_drewN _ _ _)) (HPd.out.grown (gr_drewN _ _ _))⟩
            · have hne : (i != v) = true := by simp [hiv]
              have HIV := Lib.hid hiv
              clear hiv
              go_wp2_with fail
              go_region_held3 (fun w' => w'.cell? ⟨g, 1, none⟩ = some (.int .u8 v) ∧ w'.cell? ⟨g2, 1, none⟩ = some (.int .u8 i) ∧ w'.cell? ⟨g, 3, none⟩ = some (.iface t2 p2)) (go_keep)
                (first
                  | (go_at_call 120
                     (with_reducible refine (HU2.out _ ?_).mono ?_)
                     · exact HGa.out.trans (gr_drewN wa 1 none)
                     rintro e wb ⟨rfl, hgb⟩
                     have HGb := Lib.hid ((HGa.out.trans (gr_drewN wa 1 none)).trans hgb)
                     have l1 := HGb.out.cell C1.out (by simp)
                     have l2 := HGb.out.cell D1.out (by simp)
                     have l3 := HGb.out.cell C3.out (by simp)
                     clear hgb))
              by_cases hz2 : 0 < z2
              · have hgt : (0 : Int) < (z2 : Int) := by omega
                have HR := Lib.hid (rFuse_i (c := c) (v := v) (d := d) (i := i) (s := s) (t := t) (u := u) HIV.out (by rw [HZ2.out]; exact hz2))
                clear hz2
                go_wp2_with fail
                go_ret2
                exact .inl ⟨HR.out, _, rfl, HGb.out⟩
              · have hgt : ¬ (0 : Int) < (z2 : Int) := by omega
                have HR := Lib.hid (rFuse_o (c := c) (v := v) (d := d) (i := i) (s := s) (t := t) (u := u) HB.out HB2.out HU0.out (.inr (by rw [HZ2.out]; omega)))
                clear hz2
                go_wp2_with fail
                have HGW := Lib.hid (HGb.out)
                have m1 := HGW.out.cell C1.out (by simp)
                have m3 := HGW.out.cell C3.out (by simp)
                have n3 := HGW.out.cell D3.out (by simp)
                have HYW := Lib.hid (HY.out.grown HGW.out)
                have HY2W := Lib.hid (HY2.out.grown HGW.out)
                go_region_held3 (fun w' => w'.cell? ⟨g, 1, none⟩ = some (.int .u8 v) ∧ w'.cell? ⟨g2, 3, none⟩ = some (.iface t4 p4) ∧ w'.cell? ⟨g, 3, none⟩ = some (.iface t2 p2)) (go_keep)
                  (first
                    | (go_at_call 28
                       (with_reducible refine HIC.out.mono ?_)
                       rintro e wd ⟨x', rfl, hgd, hpd⟩
                       obtain ⟨tx', px', rfl⟩ := hpd.iface
                       have HGd := Lib.hid (HGc.out.trans hgd)
                       have HPd := Lib.hid hpd
                       have i1 := HGd.out.cell C1.out (by simp)
                       have i2 := HGd.out.cell D3.out (by simp)
                       have i3 := HGd.out.cell C3.out (by simp)
                       clear hgd hpd)
                    | (go_at_call 25
                       (with_reducible refine (repof_any v t (fun _ => True) _ _ HTO.out HTS.out ?_).mono ?_)
                       · exact HY2W.out.grown (gr_drewN wb 1 none)
                       rintro e wc ⟨r, fb, rfl, hgc, hra⟩
                       have HGc := Lib.hid (HGW.out.trans ((gr_drewN wb 1 none).trans hgc))
                       have HIC := Lib.hid (HIN.out r v t _ fb u _ wc (HYW.out.grown ((gr_drewN wb 1 none).trans hgc)) hra.blk hra.by')
                       have j1 := HGc.out.cell C1.out (by simp)
                       have j2 := HGc.out.cell D3.out (by simp)
                       have j3 := HGc.out.cell C3.out (by simp)
                       clear hgc hra))
                have o0 := HGd.out.cell D0.out (by simp)
                have o1 := HGd.out.cell D1.out (by simp)
                have o2 := HGd.out.cell D2.out (by simp)
                have HZd := Lib.hid (HZ.out.grown HGd.out)
                clear k1 k3 e1 l1 l2 l3 m1 m3 n3
                go_wp2_with fail
                go_region
                all_goals
                  go_wp2_with fail
                  go_ret2
                  exact .inr ⟨_, _, rfl, HGd.out.trans ((gr_drewN _ _ _).trans (World.grownBy_alloc _ _ _)), _, HR.out, pt_loop (HZd.out.grown (gr_drewN _ _ _)) (HPd.out.grown (gr_drewN _ _ _))⟩
end

/- WithP -/
section
open Go.RowKit
attribute [local go_sem] Oper.semAt_some

/-- A method that is handed to withParts with its receiver: what it writes at most, what it keeps. -/
structure Chg (gf r : Nat) (row : Option Nat) (Inv : List Nat → World → Prop) : Prop where
  enters : ∀ (args : Array Value) (w : World), (callFunc gf args).run Tryz.prog w = .ok (.enter gf args) w
  grown : ∀ (l : List Nat) (u u' : World), Inv l u → u.grownBy u' none → Inv l u'
  heap : ∀ (l : List Nat) (u u' : World) (g : Nat) (cs : Array Value) (ty : TypeId), Inv l u → u.grownBy u' row → (ty = 115 ∨ ty = 119 ∨ ty = 97) →
    u.heap[g]? = some (.cells cs ty (0, 0)) → u'.heap[g]? = some (.cells cs ty (0, 0))

theorem Chg.keep {gf r : Nat} {row : Option Nat} {Inv : List Nat → World → Prop} (hc : Chg gf r row Inv) {l : List Nat} {u u' : World} (hi : Inv l u) (hg : u.grownBy u' row) : ∀ {t : Tm} {v : Value}, PT u (fun _ => True) t v → PT u' (fun _ => True) t v
  | .dig _, _, h => h
  | .var _, _, h => h
  | .pre _ _, _, ⟨b, x, hv, _, hh, hx⟩ => ⟨b, x, hv, trivial, hc.heap l u u' b _ _ hi hg (.inl rfl) hh, hc.keep hi hg hx⟩
  | .two _ _ _, _, ⟨b, x, y, hv, _, hh, hx, hy⟩ => ⟨b, x, y, hv, trivial, hc.heap l u u' b _ _ hi hg (.inr (.inl rfl)) hh, hc.keep hi hg hx, hc.keep hi hg hy⟩
  | .loop _ _ _ _, _, ⟨b, x, y, hv, _, hh, hx, hy⟩ => ⟨b, x, y, hv, trivial, hc.heap l u u' b _ _ hi hg (.inr (.inr rfl)) hh, hc.keep hi hg hx, hc.keep hi hg hy⟩

/-- How a call ends that changes a term: with a term, and what was noted. -/
def ChgP (row : Option Nat) (Inv : List Nat → World → Prop) (t : Tm) (l : List Nat) (w : World) (e : Ending) (w' : World) : Prop :=
  ∃ v, e = .returned v ∧ w.grownBy w' row ∧ PT w' (fun _ => True) t v ∧ Inv l w'
/-- What the method does with a part. -/
def KidP (gf r : Nat) (row : Option Nat) (Inv : List Nat → World → Prop) (k k' : Tm) (m : List Nat) (x : Value) : Prop :=
  ∀ (u : World) (l : List Nat), Inv l u → PT u (fun _ => True) k x → Calls Tryz.prog gf #[.pointer (some ⟨r, 0, none⟩), x] u (ChgP row Inv k' (l ++ m) u)

abbrev fv (gf r : Nat) : Value := .func (.func gf) #[.pointer (some ⟨r, 0, none⟩)] #[]

set_option maxRecDepth 100000 in
set_option maxHeartbeats 2000000 in
theorem withp_leaf (gf r : Nat) (row : Option Nat) (Inv : List Nat → World → Prop) (t : Tm) (l : List Nat) (ty : TypeId) (pv : Value) (w : World) (h1 : t.isPrf = false) (h2 : t.isTwo = false) (h3 : t.isLp = false) (hi : Inv l w) (h : PT w (fun _ => True) t (.iface ty pv)) :
    Calls Tryz.prog 50 #[.iface ty pv, fv gf r] w (ChgP row Inv t l w) := by
  have ht1 := ta_nopre h h1
  have ht2 := ta_notwo h h2
  have ht3 := ta_nolp h h3
  have H := Lib.hid h
  have HI := Lib.hid hi
  clear h hi h1 h2 h3
  go_enter Tryz.func50, Tryz.ntmps50
  go_wp2_with fail
  go_ret
  exact ⟨_, rfl, gr_refl _ _, H.out, HI.out⟩

set_option maxRecDepth 100000 in
set_option maxHeartbeats 4000000 in
theorem withp_pre (gf r : Nat) (row : Option Nat) (Inv : List Nat → World → Prop) (hc : Chg gf r row Inv) (c : Int) (s s' : Tm) (l m : List Nat) (g : Nat) (x : Value) (w : World) (hi : Inv l w)
    (hh : w.heap[g]? = some (.cells #[.int .u8 c, x] 115 (0, 0))) (hx : PT w (fun _ => True) s x) (ih : KidP gf r row Inv s s' m x) :
    Calls Tryz.prog 50 #[.iface 112 (.pointer (some ⟨g, 0, none⟩)), fv gf r] w (ChgP row Inv (.pre c s') (l ++ m) w) := by
  have ht1 := fun xT u => ta_pre_pre (.pointer (some ⟨g, 0, none⟩)) xT u
  have heg := hc.enters
  obtain ⟨tx, px, rfl⟩ := hx.iface
  have c0 : w.cell? ⟨g, 0, none⟩ = some (.int .u8 c) := cell_of_row w g 0 _ _ (0, 0) hh
  have c1 : w.cell? ⟨g, 1, none⟩ = some (.iface tx px) := cell_of_row w g 1 _ _ (0, 0) hh
  have HC := Lib.hid hc
  have HI := Lib.hid hi
  have HH := Lib.hid hh
  have HX := Lib.hid hx
  have HK := Lib.hid ih
  clear hc hi hh hx ih
  go_enter Tryz.func50, Tryz.ntmps50
  go_wp2_with fail
  go_region_law (first
    | (go_simp
       refine (HK.out _ l (HC.out.grown l _ _ HI.out (gr_drewN w 1 none)) (HX.out.grown (gr_drewN w 1 none))).mono ?_
       rintro e wa ⟨x', rfl, hga, hpa, hia⟩
       obtain ⟨tx', px', rfl⟩ := hpa.iface
       have hgg := (gr_drewN w 1 row).trans hga
       have HGa := Lib.hid hgg
       have HPa := Lib.hid hpa
       have HIa := Lib.hid hia
       have c0a : wa.cell? ⟨g, 0, none⟩ = some (.int .u8 c) := cell_of_row wa g 0 _ _ (0, 0) (HC.out.heap l _ _ g _ _ HI.out hgg (.inl rfl) HH.out)
       clear hga hpa hia hgg))
  all_goals
    go_wp2_with fail
  all_goals
    go_ret
    exact ⟨_, rfl, HGa.out.trans (World.grownBy_alloc _ _ _), pt_pre HPa.out, HC.out.grown _ _ _ HIa.out (World.grownBy_alloc _ _ _)⟩
end

/- WithQ -/
section
open Go.RowKit
attribute [local go_sem] Oper.semAt_some

set_option maxRecDepth 100000 in
set_option maxHeartbeats 8000000 in
theorem withp_two (gf r : Nat) (row : Option Nat) (Inv : List Nat → World → Prop) (hc : Chg gf r row Inv) (c : Int) (s s' t t' : Tm) (l m n : List Nat) (g : Nat) (x y : Value) (w : World) (hi : Inv l w)
    (hh : w.heap[g]? = some (.cells #[.int .u8 c, x, y] 119 (0, 0))) (hx : PT w (fun _ => True) s x) (hy : PT w (fun _ => True) t y) (ih1 : KidP gf r row Inv s s' m x) (ih2 : KidP gf r row Inv t t' n y) :
    Calls Tryz.prog 50 #[.iface 116 (.pointer (some ⟨g, 0, none⟩)), fv gf r] w (ChgP row Inv (.two c s' t') (l ++ (m ++ n)) w) := by
  have ht1 := fun xT u => ta_two_pre (.pointer (some ⟨g, 0, none⟩)) xT u
  have ht2 := fun xT u => ta_two_two (.pointer (some ⟨g, 0, none⟩)) xT u
  have heg := hc.enters
  obtain ⟨tx, px, rfl⟩ := hx.iface
  obtain ⟨t2, p2, rfl⟩ := hy.iface
  have c0 : w.cell? ⟨g, 0, none⟩ = some (.int .u8 c) := cell_of_row w g 0 _ _ (0, 0) hh
  have c1 : w.cell? ⟨g, 1, none⟩ = some (.iface tx px) := cell_of_row w g 1 _ _ (0, 0) hh
  have c2 : w.cell? ⟨g, 2, none⟩ = some (.iface t2 p2) := cell_of_row w g 2 _ _ (0, 0) hh
  have HC := Lib.hid hc
  have HI := Lib.hid hi
  have HH := Lib.hid hh
  have HX := Lib.hid hx
  have HY := Lib.hid hy
  have HK1 : Hid (∀ (u : World) (l : List Nat), Inv l u → PT u (fun _ => True) s (.iface tx px) → Calls Tryz.prog gf #[.pointer (some ⟨r, 0, none⟩), .iface tx px] u (ChgP row Inv s' (l ++ m) u)) := Lib.hid ih1
  have HK2 : Hid (∀ (u : World) (l : List Nat), Inv l u → PT u (fun _ => True) t (.iface t2 p2) → Calls Tryz.prog gf #[.pointer (some ⟨r, 0, none⟩), .iface t2 p2] u (ChgP row Inv t' (l ++ n) u)) := Lib.hid ih2
  clear hc hi hh hx hy ih1 ih2
  go_enter Tryz.func50, Tryz.ntmps50
  go_wp2_with fail
  go_region_held3 (fun w' => w'.cell? ⟨g, 0, none⟩ = some (.int .u8 c) ∧ w'.cell? ⟨g, 1, none⟩ = some (.iface tx px) ∧ w'.cell? ⟨g, 2, none⟩ = some (.iface t2 p2)) (go_keep) (first
    | ((with_reducible refine (HK2.out _ _ HIa.out HYa.out).mono ?_)
       rintro e wb ⟨y', rfl, hgb, hpb, hib⟩
       obtain ⟨ty', py', rfl⟩ := hpb.iface
       have hgg := HGa.out.trans hgb
       have HGb := Lib.hid hgg
       have HPb := Lib.hid hpb
       have HPab := Lib.hid (HC.out.keep HIa.out hgb HPa.out)
       have HIb : Hid (Inv (l ++ (m ++ n)) wb) := Lib.hid (by rw [← List.append_assoc]; exact hib)
       have HHb := Lib.hid (HC.out.heap l _ _ g _ _ HI.out hgg (.inr (.inl rfl)) HH.out)
       have d0b : wb.cell? ⟨g, 0, none⟩ = some (.int .u8 c) := cell_of_row wb g 0 _ _ (0, 0) HHb.out
       have d1b : wb.cell? ⟨g, 1, none⟩ = some (.iface tx px) := cell_of_row wb g 1 _ _ (0, 0) HHb.out
       have d2b : wb.cell? ⟨g, 2, none⟩ = some (.iface t2 p2) := cell_of_row wb g 2 _ _ (0, 0) HHb.out
       clear hgb hpb hib hgg)
    | ((with_reducible refine (HK1.out _ l ?_ ?_).mono ?_)
       · exact HC.out.grown l _ _ HI.out (gr_drewN w 1 none)
       · exact HX.out.grown (gr_drewN w 1 none)
       rintro e wa ⟨x', rfl, hga, hpa, hia⟩
       obtain ⟨tx', px', rfl⟩ := hpa.iface
       have hgg := (gr_drewN w 1 row).trans hga
       have HGa := Lib.hid hgg
       have HPa := Lib.hid hpa
       have HIa := Lib.hid hia
       have HHa := Lib.hid (HC.out.heap l _ _ g _ _ HI.out hgg (.inr (.inl rfl)) HH.out)
       have HYa := Lib.hid (HC.out.keep HI.out hgg HY.out)
       have d0a : wa.cell? ⟨g, 0, none⟩ = some (.int .u8 c) := cell_of_row wa g 0 _ _ (0, 0) HHa.out
       have d1a : wa.cell? ⟨g, 1, none⟩ = some (.iface tx px) := cell_of_row wa g 1 _ _ (0, 0) HHa.out
       have d2a : wa.cell? ⟨g, 2, none⟩ = some (.iface t2 p2) := cell_of_row wa g 2 _ _ (0, 0) HHa.out
       clear hga hpa hia hgg))
  all_goals
    go_wp2_with fail
  all_goals
    go_ret
    exact ⟨_, rfl, HGb.out.trans (World.grownBy_alloc _ _ _), pt_two HPab.out HPb.out, HC.out.grown _ _ _ HIb.out (World.grownBy_alloc _ _ _)⟩
end

/- WithL -/
section
open Go.RowKit
attribute [local go_sem] Oper.semAt_some

set_option maxRecDepth 100000 in
set_option maxHeartbeats 8000000 in
theorem withp_loop (gf r : Nat) (row : Option Nat) (Inv : List Nat → World → Prop) (hc : Chg gf r row Inv) (c i : Int) (s s' t t' : Tm) (l m n : List Nat) (g : Nat) (x y : Value) (w : World) (hi : Inv l w)
    (hh : w.heap[g]? = some (.cells #[.int .u8 c, .int .u8 i, x, y] 97 (0, 0))) (hx : PT w (fun _ => True) s x) (hy : PT w (fun _ => True) t y) (ih1 : KidP gf r row Inv s s' m x) (ih2 : KidP gf r row Inv t t' n y) :
    Calls Tryz.prog 50 #[.iface 94 (.pointer (some ⟨g, 0, none⟩)), fv gf r] w (ChgP row Inv (.loop c i s' t') (l ++ (m ++ n)) w) := by
  have ht1 := fun xT u => ta_loop_pre (.pointer (some ⟨g, 0, none⟩)) xT u
  have ht2 := fun xT u => ta_loop_two (.pointer (some ⟨g, 0, none⟩)) xT u
  have ht3 := fun xT u => ta_loop_loop (.pointer (some ⟨g, 0, none⟩)) xT u
  have heg := hc.enters
  obtain ⟨tx, px, rfl⟩ := hx.iface
  obtain ⟨t2, p2, rfl⟩ := hy.iface
  have c0 : w.cell? ⟨g, 0, none⟩ = some (.int .u8 c) := cell_of_row w g 0 _ _ (0, 0) hh
  have c1 : w.cell? ⟨g, 1, none⟩ = some (.int .u8 i) := cell_of_row w g 1 _ _ (0, 0) hh
  have c2 : w.cell? ⟨g, 2, none⟩ = some (.iface tx px) := cell_of_row w g 2 _ _ (0, 0) hh
  have c3 : w.cell? ⟨g, 3, none⟩ = some (.iface t2 p2) := cell_of_row w g 3 _ _ (0, 0) hh
  have HC := Lib.hid hc
  have HI := Lib.hid hi
  have HH := Lib.hid hh
  have HX := Lib.hid hx
  have HY := Lib.hid hy
  have HK1 : Hid (∀ (u : World) (l : List Nat), Inv l u → PT u (fun _ => True) s (.iface tx px) → Calls Tryz.prog gf #[.pointer (some ⟨r, 0, none⟩), .iface tx px] u (ChgP row Inv s' (l ++ m) u)) := Lib.hid ih1
  have HK2 : Hid (∀ (u : World) (l : List Nat), Inv l u → PT u (fun _ => True) t (.iface t2 p2) → Calls Tryz.prog gf #[.pointer (some ⟨r, 0, none⟩), .iface t2 p2] u (ChgP row Inv t' (l ++ n) u)) := Lib.hid ih2
  clear hc hi hh hx hy ih1 ih2
  go_enter Tryz.func50, Tryz.ntmps50
  go_wp2_with fail
  go_region_held3 (fun w' => w'.cell? ⟨g, 0, none⟩ = some (.int .u8 c) ∧ w'.cell? ⟨g, 1, none⟩ = some (.int .u8 i) ∧ w'.cell? ⟨g, 2, none⟩ = some (.iface tx px) ∧ w'.cell? ⟨g, 3, none⟩ = some (.iface t2 p2)) (go_keep) (first
    | ((with_reducible refine (HK2.out _ _ HIa.out HYa.out).mono ?_)
       rintro e wb ⟨y', rfl, hgb, hpb, hib⟩
       obtain ⟨ty', py', rfl⟩ := hpb.iface
       have hgg := HGa.out.trans hgb
       have HGb := Lib.hid hgg
       have HPb := Lib.hid hpb
       have HPab := Lib.hid (HC.out.keep HIa.out hgb HPa.out)
       have HIb : Hid (Inv (l ++ (m ++ n)) wb) := Lib.hid (by rw [← List.append_assoc]; exact hib)
       have HHb := Lib.hid (HC.out.heap l _ _ g _ _ HI.out hgg (.inr (.inr rfl)) HH.out)
       have d0b : wb.cell? ⟨g, 0, none⟩ = some (.int .u8 c) := cell_of_row wb g 0 _ _ (0, 0) HHb.out
       have d1b : wb.cell? ⟨g, 1, none⟩ = some (.int .u8 i) := cell_of_row wb g 1 _ _ (0, 0) HHb.out
       have d2b : wb.cell? ⟨g, 2, none⟩ = some (.iface tx px) := cell_of_row wb g 2 _ _ (0, 0) HHb.out
       have d3b : wb.cell? ⟨g, 3, none⟩ = some (.iface t2 p2) := cell_of_row wb g 3 _ _ (0, 0) HHb.out
       clear hgb hpb hib hgg)
    | ((with_reducible refine (HK1.out _ l ?_ ?_).mono ?_)
       · exact HC.out.grown l _ _ HI.out (gr_drewN w 1 none)
       · exact HX.out.grown (gr_drewN w 1 none)
       rintro e wa ⟨x', rfl, hga, hpa, hia⟩
       obtain ⟨tx', px', rfl⟩ := hpa.iface
       have hgg := (gr_drewN w 1 row).trans hga
       have HGa := Lib.hid hgg
       have HPa := Lib.hid hpa
       have HIa := Lib.hid hia
       have HHa := Lib.hid (HC.out.heap l _ _ g _ _ HI.out hgg (.inr (.inr rfl)) HH.out)
       have HYa := Lib.hid (HC.out.keep HI.out hgg HY.out)
       have d0a : wa.cell? ⟨g, 0, none⟩ = some (.int .u8 c) := cell_of_row wa g 0 _ _ (0, 0) HHa.out
       have d1a : wa.cell? ⟨g, 1, none⟩ = some (.int .u8 i) := cell_of_row wa g 1 _ _ (0, 0) HHa.out
       have d2a : wa.cell? ⟨g, 2, none⟩ = some (.iface tx px) := cell_of_row wa g 2 _ _ (0, 0) HHa.out
       have d3a : wa.cell? ⟨g, 3, none⟩ = some (.iface t2 p2) := cell_of_row wa g 3 _ _ (0, 0) HHa.out
       clear hga hpa hia hgg))
  all_goals
    go_wp2_with fail
  all_goals
    go_ret
    exact ⟨_, rfl, HGb.out.trans (World.grownBy_alloc _ _ _), pt_loop HPab.out HPb.out, HC.out.grown _ _ _ HIb.out (World.grownBy_alloc _ _ _)⟩
end

/- TInN -/
section
open Go.RowKit

abbrev TR : TypeId := 93
abbrev FIN : Nat := 28
/-- The replacement in memory. -/
def InI (r : Nat) (v : Int) (byv : Value) (fb : Nat) (u : Tm) (_ : List Nat) (w : World) : Prop := w.heap[r]? = some (.cells #[.int .u8 v, byv, .map (some fb)] TR (0, 0)) ∧ PT w (fun _ => True) u byv
theorem chg_in (r : Nat) (v : Int) (byv : Value) (fb : Nat) (u : Tm) : Chg FIN r none (InI r v byv fb u) where
  enters := enters_of Tryz.func28 (by kernel_rfl) rfl
  grown := fun _ _ _ h hg => ⟨(hg.block r (blk_lt h.1) (by simp)).trans h.1, h.2.grown hg⟩
  heap := fun _ _ _ g _ _ _ hg _ hh => (hg.block g (blk_lt hh) (by simp)).trans hh

set_option maxRecDepth 100000 in
set_option maxHeartbeats 1000000 in
theorem in_hit (v : Int) (u : Tm) (r fb : Nat) (byv : Value) (w : World) (h : InI r v byv fb u [] w) :
    Calls Tryz.prog FIN #[.pointer (some ⟨r, 0, none⟩), .iface 51 (.int .u8 v)] w (InP u w) := by
  have ht1 := fun xT u => ta_var_var (.int .u8 v) xT u
  obtain ⟨tb, pb, rfl⟩ := h.2.iface
  have r0 : w.cell? ⟨r, 0, none⟩ = some (.int .u8 v) := cell_of_row w r 0 _ _ (0, 0) h.1
  have r1 : w.cell? ⟨r, 1, none⟩ = some (.iface tb pb) := cell_of_row w r 1 _ _ (0, 0) h.1
  have HB := Lib.hid h.2
  have hb : (v == v) = true := by simp
  clear h
  go_enter Tryz.func28, Tryz.ntmps28
  go_wp2_with fail
  go_ret
  exact ⟨_, rfl, gr_refl _ _, HB.out⟩

set_option maxRecDepth 100000 in
set_option maxHeartbeats 1000000 in
theorem in_var (c v : Int) (t' u : Tm) (r fb : Nat) (byv : Value) (w : World) (hcv : c ≠ v) (h : InI r v byv fb u [] w)
    (hw : ∀ w' : World, w.grownBy w' none → Calls Tryz.prog 50 #[.iface 51 (.int .u8 c), fv FIN r] w' (ChgP none (InI r v byv fb u) t' [] w')) :
    Calls Tryz.prog FIN #[.pointer (some ⟨r, 0, none⟩), .iface 51 (.int .u8 c)] w (InP t' w) := by
  have ht1 := fun xT u => ta_var_var (.int .u8 c) xT u
  have ht2 := fun xT u => ta_var_loop (.int .u8 c) xT u
  have r0 : w.cell? ⟨r, 0, none⟩ = some (.int .u8 v) := cell_of_row w r 0 _ _ (0, 0) h.1
  have hb : (c == v) = false := by rw [beq_eq_false_iff_ne]; exact hcv
  have HW := Lib.hid hw
  clear h hw hcv
  go_enter Tryz.func28, Tryz.ntmps28
  go_wp2_with fail
  refine (HW.out _ (gr_refl _ _)).mono ?_
  rintro e w1 ⟨x, rfl, hg1, hp1, _⟩
  obtain ⟨tx, px, rfl⟩ := hp1.iface
  have HG1 := Lib.hid hg1
  have HP1 := Lib.hid hp1
  clear hg1 hp1
  go_wp2_with fail
  go_ret
  exact ⟨_, rfl, HG1.out, HP1.out⟩

set_option maxRecDepth 100000 in
set_option maxHeartbeats 1000000 in
theorem in_rest (t t' u : Tm) (v : Int) (r fb : Nat) (byv : Value) (ty : TypeId) (pv : Value) (w : World) (h1 : t.isVar = false) (h2 : t.isLp = false) (hp : PT w (fun _ => True) t (.iface ty pv))
    (hw : ∀ w' : World, w.grownBy w' none → Calls Tryz.prog 50 #[.iface ty pv, fv FIN r] w' (ChgP none (InI r v byv fb u) t' [] w')) :
    Calls Tryz.prog FIN #[.pointer (some ⟨r, 0, none⟩), .iface ty pv] w (InP t' w) := by
  have ht1 := ta_novar hp h1
  have ht2 := ta_nolp hp h2
  have HW := Lib.hid hw
  clear hp hw h1 h2
  go_enter Tryz.func28, Tryz.ntmps28
  go_wp2_with fail
  refine (HW.out _ (gr_refl _ _)).mono ?_
  rintro e w1 ⟨x, rfl, hg1, hp1, _⟩
  obtain ⟨tx, px, rfl⟩ := hp1.iface
  have HG1 := Lib.hid hg1
  have HP1 := Lib.hid hp1
  clear hg1 hp1
  go_wp2_with fail
  go_ret
  exact ⟨_, rfl, HG1.out, HP1.out⟩

set_option maxRecDepth 100000 in
set_option maxHeartbeats 2000000 in
theorem in_lpn (c i v : Int) (t' u : Tm) (r fb g : Nat) (byv x y : Value) (w : World) (hiv : i ≠ v) (h : InI r v byv fb u [] w)
    (hh : w.heap[g]? = some (.cells #[.int .u8 c, .int .u8 i, x, y] 97 (0, 0)))
    (hw : ∀ w' : World, w.grownBy w' none → Calls Tryz.prog 50 #[.iface 94 (.pointer (some ⟨g, 0, none⟩)), fv FIN r] w' (ChgP none (InI r v byv fb u) t' [] w')) :
    Calls Tryz.prog FIN #[.pointer (some ⟨r, 0, none⟩), .iface 94 (.pointer (some ⟨g, 0, none⟩))] w (InP t' w) := by
  have ht1 := fun xT u => ta_loop_var (.pointer (some ⟨g, 0, none⟩)) xT u
  have ht2 := fun xT u => ta_loop_loop (.pointer (some ⟨g, 0, none⟩)) xT u
  have c1 : w.cell? ⟨g, 1, none⟩ = some (.int .u8 i) := cell_of_row w g 1 _ _ (0, 0) hh
  have r0 : w.cell? ⟨r, 0, none⟩ = some (.int .u8 v) := cell_of_row w r 0 _ _ (0, 0) h.1
  have hb : (i == v) = false := by rw [beq_eq_false_iff_ne]; exact hiv
  have HW := Lib.hid hw
  clear h hw hiv hh
  go_enter Tryz.func28, Tryz.ntmps28
  go_wp2_with fail
  go_quiet (fail)
  go_wp2_with fail
  refine (HW.out _ (gr_drewN w nq none)).mono ?_
  rintro e w1 ⟨x, rfl, hg1, hp1, _⟩
  obtain ⟨tx, px, rfl⟩ := hp1.iface
  have HG1 := Lib.hid ((gr_drewN w nq none).trans hg1)
  have HP1 := Lib.hid hp1
  clear hg1 hp1
  go_wp2_with fail
  go_ret
  exact ⟨_, rfl, HG1.out, HP1.out⟩

set_option maxRecDepth 100000 in
set_option maxHeartbeats 4000000 in
theorem in_lpb (c v : Int) (s s' t u : Tm) (r fb g : Nat) (byv x y : Value) (w : World) (h : InI r v byv fb u [] w)
    (hh : w.heap[g]? = some (.cells #[.int .u8 c, .int .u8 v, x, y] 97 (0, 0))) (hx : PT w (fun _ => True) s x) (hy : PT w (fun _ => True) t y)
    (ih : ∀ w' : World, w.grownBy w' none → Calls Tryz.prog FIN #[.pointer (some ⟨r, 0, none⟩), x] w' (InP s' w')) :
    Calls Tryz.prog FIN #[.pointer (some ⟨r, 0, none⟩), .iface 94 (.pointer (some ⟨g, 0, none⟩))] w (InP (.loop c v s' t) w) := by
  have ht1 := fun xT u => ta_loop_var (.pointer (some ⟨g, 0, none⟩)) xT u
  have ht2 := fun xT u => ta_loop_loop (.pointer (some ⟨g, 0, none⟩)) xT u
  obtain ⟨tx, px, rfl⟩ := hx.iface
  obtain ⟨t2, p2, rfl⟩ := hy.iface
  have C0 := Lib.hid (show w.cell? ⟨g, 0, none⟩ = some (.int .u8 c) from cell_of_row w g 0 _ _ (0, 0) hh)
  have c1 : w.cell? ⟨g, 1, none⟩ = some (.int .u8 v) := cell_of_row w g 1 _ _ (0, 0) hh
  have C2 := Lib.hid (show w.cell? ⟨g, 2, none⟩ = some (.iface tx px) from cell_of_row w g 2 _ _ (0, 0) hh)
  have C3 := Lib.hid (show w.cell? ⟨g, 3, none⟩ = some (.iface t2 p2) from cell_of_row w g 3 _ _ (0, 0) hh)
  have C1 := Lib.hid c1
  have r0 : w.cell? ⟨r, 0, none⟩ = some (.int .u8 v) := cell_of_row w r 0 _ _ (0, 0) h.1
  have hb : (v == v) = true := by simp
  have HI := Lib.hid ih
  have HY := Lib.hid hy
  clear h hh hx hy ih
  go_enter Tryz.func28, Tryz.ntmps28
  go_wp2_with fail
  go_quiet (fail)
  have d0 := C0.out
  have d2 := C2.out
  have d3 := C3.out
  go_wp2_with fail
  go_region_held3 (fun w' => w'.cell? ⟨g, 0, none⟩ = some (.int .u8 c) ∧ w'.cell? ⟨g, 1, none⟩ = some (.int .u8 v) ∧ w'.cell? ⟨g, 2, none⟩ = some (.iface tx px) ∧ w'.cell? ⟨g, 3, none⟩ = some (.iface t2 p2)) (go_keep)
    (first
      | (go_at_call 28
         (with_reducible refine (HI.out _ ?_).mono ?_)
         · exact gr_drewN w (nq + 1) none
         rintro e wa ⟨x', rfl, hga, hpa⟩
         obtain ⟨tx', px', rfl⟩ := hpa.iface
         have HGa := Lib.hid ((gr_drewN w (nq + 1) none).trans hga)
         have HPa := Lib.hid hpa
         have j0 := HGa.out.cell C0.out (by simp)
         have j1 := HGa.out.cell C1.out (by simp)
         have j2 := HGa.out.cell C2.out (by simp)
         have j3 := HGa.out.cell C3.out (by simp)
         clear hga hpa))
  all_goals
    go_wp2_with fail
  all_goals
    go_ret
    exact ⟨_, rfl, HGa.out.trans (World.grownBy_alloc _ _ _), pt_loop HPa.out (HY.out.grown HGa.out)⟩

theorem inr_any (v : Int) (u : Tm) (r fb : Nat) (byv : Value) : ∀ (n : Nat) (t : Tm) (x : Value) (w : World), t.size ≤ n → PT w (fun _ => True) t x → InI r v byv fb u [] w →
    Calls Tryz.prog FIN #[.pointer (some ⟨r, 0, none⟩), x] w (InP (t.rep v u) w)
  | 0, t, _, _, hn, _, _ => by have := t.size_pos; omega
  | n + 1, .dig c, x, w, hn, h, hi => by
    cases h
    exact in_rest (.dig c) (.dig c) u v r fb byv _ _ w rfl rfl rfl (fun w' hg => withp_leaf FIN r none _ (.dig c) [] _ _ w' rfl rfl rfl ((chg_in r v byv fb u).grown _ _ _ hi hg) rfl)
  | n + 1, .var c, x, w, hn, h, hi => by
    cases h
    by_cases hcv : c = v
    · subst hcv
      simp only [Tm.rep, if_true]
      exact in_hit c u r fb byv w hi
    · simp only [Tm.rep, if_neg hcv]
      exact in_var c v (.var c) u r fb byv w hcv hi (fun w' hg => withp_leaf FIN r none _ (.var c) [] _ _ w' rfl rfl rfl ((chg_in r v byv fb u).grown _ _ _ hi hg) rfl)
  | n + 1, .pre c s, x, w, hn, h, hi => by
    obtain ⟨g, x, rfl, _, hh, hx⟩ := h
    simp only [Tm.size] at hn
    exact in_rest (.pre c s) (.pre c (s.rep v u)) u v r fb byv _ _ w rfl rfl ⟨g, x, rfl, trivial, hh, hx⟩ (fun w' hg => withp_pre FIN r none _ (chg_in r v byv fb u) c s (s.rep v u) [] [] g x w' ((chg_in r v byv fb u).grown _ _ _ hi hg) ((hg.block g (blk_lt hh) (by simp)).trans hh) (hx.grown hg)
      (fun u' l hi' hp' => (inr_any v u r fb byv n s x u' (by omega) hp' hi').mono (fun _ _ ⟨v', he, hg', hp''⟩ => ⟨v', he, hg', hp'', (chg_in r v byv fb u).grown _ _ _ hi' hg'⟩)))
  | n + 1, .two c s t, x, w, hn, h, hi => by
    obtain ⟨g, x, y, rfl, _, hh, hx, hy⟩ := h
    simp only [Tm.size] at hn
    exact in_rest (.two c s t) (.two c (s.rep v u) (t.rep v u)) u v r fb byv _ _ w rfl rfl ⟨g, x, y, rfl, trivial, hh, hx, hy⟩ (fun w' hg => withp_two FIN r none _ (chg_in r v byv fb u) c s (s.rep v u) t (t.rep v u) [] [] [] g x y w' ((chg_in r v byv fb u).grown _ _ _ hi hg) ((hg.block g (blk_lt hh) (by simp)).trans hh) (hx.grown hg) (hy.grown hg)
      (fun u' l hi' hp' => (inr_any v u r fb byv n s x u' (by omega) hp' hi').mono (fun _ _ ⟨v', he, hg', hp''⟩ => ⟨v', he, hg', hp'', (chg_in r v byv fb u).grown _ _ _ hi' hg'⟩))
      (fun u' l hi' hp' => (inr_any v u r fb byv n t y u' (by omega) hp' hi').mono (fun _ _ ⟨v', he, hg', hp''⟩ => ⟨v', he, hg', hp'', (chg_in r v byv fb u).grown _ _ _ hi' hg'⟩)))
  | n + 1, .loop c i s t, x, w, hn, h, hi => by
    obtain ⟨g, x, y, rfl, _, hh, hx, hy⟩ := h
    simp only [Tm.size] at hn
    by_cases hiv : i = v
    · subst hiv
      simp only [Tm.rep, if_true]
      exact in_lpb c i s (s.rep i u) t u r fb g byv x y w hi hh hx hy (fun w' hg => inr_any i u r fb byv n s x w' (by omega) (hx.grown hg) ((chg_in r i byv fb u).grown _ _ _ hi hg))
    · simp only [Tm.rep, if_neg hiv]
      exact in_lpn c i v (.loop c i (s.rep v u) (t.rep v u)) u r fb g byv x y w hiv hi hh (fun w' hg => withp_loop FIN r none _ (chg_in r v byv fb u) c i s (s.rep v u) t (t.rep v u) [] [] [] g x y w' ((chg_in r v byv fb u).grown _ _ _ hi hg) ((hg.block g (blk_lt hh) (by simp)).trans hh) (hx.grown hg) (hy.grown hg)
        (fun u' l hi' hp' => (inr_any v u r fb byv n s x u' (by omega) hp' hi').mono (fun _ _ ⟨v', he, hg', hp''⟩ => ⟨v', he, hg', hp'', (chg_in r v byv fb u).grown _ _ _ hi' hg'⟩))
        (fun u' l hi' hp' => (inr_any v u r fb byv n t y u' (by omega) hp' hi').mono (fun _ _ ⟨v', he, hg', hp''⟩ => ⟨v', he, hg', hp'', (chg_in r v byv fb u).grown _ _ _ hi' hg'⟩)))

theorem inn_any (r : Nat) (v : Int) (u : Tm) (byv : Value) (fb : Nat) (n : Nat) (t : Tm) (S : Nat → Prop) (x : Value) (w : World) (hn : t.size ≤ n) (h : PT w S t x) (hr : w.heap[r]? = some (.cells #[.int .u8 v, byv, .map (some fb)] TR (0, 0))) (hu : PT w (fun _ => True) u byv) :
    Calls Tryz.prog FIN #[.pointer (some ⟨r, 0, none⟩), x] w (InP (t.rep v u) w) := inr_any v u r fb byv n t x w hn h.any ⟨hr, hu⟩
theorem innC : InnC := fun r v u byv fb t x w h hr hu => inr_any v u r fb byv t.size t x w (Nat.le_refl _) h ⟨hr, hu⟩
end

/- RFirst -/
section
open Go.RowKit
attribute [local go_sem] Oper.semAt_some

abbrev TRu : TypeId := 144
/-- The functions of the rules. -/
def ruF : Nat → Nat
  | 0 => 98
  | 1 => 99
  | 2 => 100
  | 3 => 101
  | 4 => 102
  | _ => 103
theorem ruF_enters : ∀ (k : Nat) (args : Array Value) (w : World), (callFunc (ruF k) args).run Tryz.prog w = .ok (.enter (ruF k) args) w
  | 0 => enters_of Tryz.func98 (by kernel_rfl) rfl
  | 1 => enters_of Tryz.func99 (by kernel_rfl) rfl
  | 2 => enters_of Tryz.func100 (by kernel_rfl) rfl
  | 3 => enters_of Tryz.func101 (by kernel_rfl) rfl
  | 4 => enters_of Tryz.func102 (by kernel_rfl) rfl
  | _ + 5 => enters_of Tryz.func103 (by kernel_rfl) rfl
theorem ruF_call (k : Nat) (hk : k < 6) (t : Tm) (S : Nat → Prop) (ty : TypeId) (pv : Value) (w : World) (ho : t.Ok) (hl : t.txt.length ≤ 80) (h : PT w S t (.iface ty pv)) :
    Calls Tryz.prog (ruF k) #[.iface ty pv] w (RulE (ruleN k t) w) := by
  match k, hk with
  | 0, _ => exact rfold_any t S ty pv w ho h
  | 1, _ => exact rneut_any t S ty pv w ho h
  | 2, _ => exact rturn_any t S ty pv w ho h
  | 3, _ => exact rloop_any t S ty pv w ho h
  | 4, _ => exact rlen_any t S ty pv w ho h
  | 5, _ => exact rfuse_any innC t S ty pv w ho hl h
  | k + 6, hk => omega

/-- The list of the rules in memory. -/
def RuAt (w : World) (g : Nat) : Prop := ∀ k, k < 6 → w.cell? ⟨g, k, none⟩ = some (.func (.func (ruF k)) #[] #[])
theorem RuAt.grown {w w' : World} {g : Nat} (h : RuAt w g) (hg : w.grownBy w' none) : RuAt w' g := fun k hk => hg.cell (h k hk) (by simp)

set_option maxRecDepth 100000 in
set_option maxHeartbeats 1000000 in
theorem rules_any (w : World) : Calls Tryz.prog 80 #[] w fun e w' => ∃ g, e = .returned (.slice (some ⟨g, 0, none⟩) 6 6) ∧ w.grownBy w' none ∧ RuAt w' g := by
  go_enter Tryz.func80, Tryz.ntmps80
  go_wp2_with fail
  go_ret
  refine ⟨_, rfl, World.grownBy_alloc _ _ _, fun k hk => ?_⟩
  refine (cell_of_row _ _ _ _ _ (0, 0) (heap_alloc_new w _)).trans ?_
  match k, hk with
  | 0, _ => rfl
  | 1, _ => rfl
  | 2, _ => rfl
  | 3, _ => rfl
  | 4, _ => rfl
  | 5, _ => rfl
  | k + 6, hk => omega

/-- How byFirstRule ends. -/
def FirstP (t : Tm) (w : World) (e : Ending) (w' : World) : Prop := ∃ ty pv, e = .returned (.tuple #[.iface ty pv, .int .i64 ((rul t).1 : Int)]) ∧ w.grownBy w' none ∧ PT w' (fun _ => True) (rul t).2 (.iface ty pv)

set_option maxRecDepth 100000 in
set_option maxHeartbeats 4000000 in
theorem first_any (t : Tm) (S : Nat → Prop) (ty : TypeId) (pv : Value) (w : World) (ho : t.Ok) (hl : t.txt.length ≤ 80) (h : PT w S t (.iface ty pv)) :
    Calls Tryz.prog 60 #[.iface ty pv] w (FirstP t w) := by
  have HR := Lib.hid (fun w => rules_any w)
  have HC := Lib.hid (fun (k : Nat) (hk : k < 6) (w' : World) (hg : w.grownBy w' none) => ruF_call k hk t S ty pv w' ho hl (h.grown hg))
  have HP := Lib.hid h.any
  have HE := Lib.hid (rulF_is 6 0 t)
  clear h ho hl
  go_enter Tryz.func60, Tryz.ntmps60
  go_wp2_with fail
  refine (HR.out _).mono ?_
  rintro e w1 ⟨g, rfl, hg1, hru⟩
  have HG1 := Lib.hid hg1
  have HRU := Lib.hid hru
  clear hg1 hru
  go_wp2_with fail
  go_loopw [10] (fun i wr => ∃ j : Nat, j ≤ 6 ∧ i = .int .i64 j ∧ Hid (rul t = rulF (6 - j) j t) ∧ Hid (w1.grownBy wr none)) (fun i _ => 6 - (intOf i).toNat)
  case atStart => exact ⟨0, by omega, rfl, Lib.hid rfl, Lib.hid (gr_refl _ _)⟩
  case round =>
    obtain ⟨j, hj, rfl, hm, hgr⟩ := hrel
    have HGR := Lib.hid (HG1.out.trans hgr.out)
    by_cases hlt : j < 6
    · have hc := (HRU.out.grown hgr.out) j hlt
      have heg := ruF_enters j
      have HCJ := Lib.hid (HC.out j hlt wr HGR.out)
      have HST : Hid (∀ q, ruleN j t = some q → rul t = (j + 1, q)) := Lib.hid (fun q hq => by
        rw [hm.out, show 6 - j = (6 - (j + 1)) + 1 from by omega, rulF_some hq])
      have HSN : Hid (ruleN j t = none → rul t = rulF (6 - (j + 1)) (j + 1) t) := Lib.hid (fun hq => by
        rw [hm.out, show 6 - j = (6 - (j + 1)) + 1 from by omega, rulF_none hq])
      generalize ruF j = fj at hc heg HCJ
      go_wp2_with fail
      refine HCJ.out.mono ?_
      rintro e w2 (⟨hno, v, rfl, hg2⟩ | ⟨tq, pq, rfl, hg2, q, hq, hpq⟩)
      · have HG2 := Lib.hid (hgr.out.trans hg2)
        have HN := Lib.hid (HSN.out hno)
        clear hg2 hno hc
        go_wp2_with fail
        go_roundw
        case rel => exact ⟨j + 1, by omega, by go_num, HN, HG2⟩
        case measure => simp [intOf]; omega
      · have HG2 := Lib.hid (HGR.out.trans hg2)
        have HQ := Lib.hid (HST.out q hq)
        have HPQ := Lib.hid hpq
        clear hg2 hq hpq hc
        go_wp2_with fail
        go_ret2
        refine ⟨tq, pq, ?_, HG2.out, by rw [HQ.out]; exact HPQ.out⟩
        rw [HQ.out]
        have e1 : ((j + 1 : Nat) : Int) = 1 + (j : Int) := by omega
        rw [e1]
        rfl
    · obtain rfl : j = 6 := by omega
      have HZ : Hid (rul t = (0, t)) := Lib.hid (by rw [hm.out]; rfl)
      go_wp2_with fail
      go_ret2
      refine ⟨_, _, ?_, HGR.out, by rw [HZ.out]; exact HP.out.grown HGR.out⟩
      rw [HZ.out]
      rfl
end

/- TTerm -/
section
open Go.RowKit

theorem tmakeFunc_run (fn : Fn) (first cap : Array Value) (w : World) : (Instr.makeFunc fn first cap).run Tryz.prog w = .ok (.func fn first cap) w := rfl

theorem tcatch_fell (p q : Addr) (b : ByteArray) (x y : Value) (w : World) (hc : w.cell? p = some x) (hz : w.frozen? p = false) (hc2 : w.cell? q = some y) (hz2 : w.frozen? q = false) (hne : p.block ≠ q.block) :
    CallsD Tryz.prog 45 #[.pointer (some p), .pointer (some q)] (.panicking [{ v := .iface 9 (.string b), recovered := false }]) w fun e u' w' =>
      e = .returned (.tuple #[]) ∧ u' = .panicking [{ v := .iface 9 (.string b), recovered := true }] ∧ w' = (w.setCell p .nilIface).setCell q (.bool false) := by
  have hc3 : (w.setCell p .nilIface).cell? q = some y := (World.cell?_setCell_other w p q .nilIface (fun e => hne (by rw [e]))).trans hc2
  refine callsD_of_wpS Tryz.func45 rfl fun c₀ cs hu => ?_
  apply wpS_seq
  apply wpS_region
  simp [wpOpsS, go_sem, recoverD, hu, Tryz.ntmps45, Exit.thenS]
  refine wpS_cond (t := true) (by simp [Act.eval, Array.replicate]) ?_
  simp only [if_true]
  apply wpS_region
  simp [wpOpsS, go_sem, hc, hz, hc3, hz2, bodyPostS, results, Tryz.results45]

theorem tcatch_idle (p q : Addr) (w : World) :
    CallsD Tryz.prog 45 #[.pointer (some p), .pointer (some q)] .returning w fun e u' w' => e = .returned (.tuple #[]) ∧ u' = .returning ∧ w' = w := by
  refine callsD_of_wpS Tryz.func45 rfl fun c₀ cs hu => ?_
  apply wpS_seq
  apply wpS_region
  simp [wpOpsS, go_sem, recoverD, hu, Tryz.ntmps45, Exit.thenS]
  refine wpS_cond (t := false) (by simp [Act.eval, Array.replicate]) ?_
  simp only [Bool.false_eq_true, if_false]
  refine wpS_of_wp (wp_skip ?_)
  cases c₀
  simp_all [bodyPostS, results, Tryz.results45]

/-- How readTerm ends: without a term; with one. -/
def TermNo (w : World) (e : Ending) (w' : World) : Prop := e = .returned (.tuple #[.nilIface, .bool false]) ∧ w.grownBy w' none
def TermYes (t : Tm) (w : World) (e : Ending) (w' : World) : Prop :=
  ∃ v, e = .returned (.tuple #[v, .bool true]) ∧ w.grownBy w' none ∧ PT w' (fun b => w.heap.size ≤ b) t v
def TermPost (s : ByteArray) (w : World) (e : Ending) (w' : World) : Prop := match readT s with
  | some t => TermYes t w e w'
  | none => TermNo w e w'
theorem termPost_no {s : ByteArray} {w w' : World} {e : Ending} (hr : readT s = none) (he : e = .returned (.tuple #[.nilIface, .bool false])) (hg : w.grownBy w' none) : TermPost s w e w' := by
  unfold TermPost
  rw [hr]
  exact ⟨he, hg⟩
theorem termPost_yes {s : ByteArray} {t : Tm} {v : Value} {w w' : World} {e : Ending} (hr : readT s = some t) (he : e = .returned (.tuple #[v, .bool true])) (hg : w.grownBy w' none) (ha : PT w' (fun b => w.heap.size ≤ b) t v) : TermPost s w e w' := by
  unfold TermPost
  rw [hr]
  exact ⟨v, he, hg, ha⟩

set_option maxHeartbeats 400000 in
theorem term_out (s : ByteArray) (w : World) (h : 80 < s.size) :
    Calls Tryz.prog 23 #[.string s] w (TermPost s w) := by
  have hmf := tmakeFunc_run
  have HR := Lib.hid (readT_long h)
  go_enter_defers Tryz.func23, Tryz.ntmps23
  go_wp2_with fail
  all_goals
    refine leaves_cons (f := 45) (args := #[.pointer (some ⟨w.heap.size, 0, none⟩), .pointer (some ⟨w.heap.size + 1, 0, none⟩)]) (by simp) (by simp [go_sem]) ?_
    refine (tcatch_idle _ _ _).mono ?_
    rintro e u' w'' ⟨rfl, rfl, rfl⟩
    simp [Leaves, settle, results, Tryz.results23, go_sem]
    exact termPost_no HR.out rfl ((World.grownBy_alloc _ _ _).trans (World.grownBy_alloc _ _ _))

theorem tgr_set_new {w w1 : World} {g i : Nat} (h : w.grownBy w1 none) (hg : w.heap.size ≤ g) (u : Value) : w.grownBy (w1.setCell ⟨g, i, none⟩ u) none := gr_new h (gr_set w1 g i u) hg
theorem tfrozen_grown {w w' : World} {row : Option Nat} (h : w.grownBy w' row) {b i : Nat} (hb : b < w.heap.size) (hne : some b ≠ row) (hf : w.frozen? ⟨b, i, none⟩ = false) : w'.frozen? ⟨b, i, none⟩ = false :=
  (World.frozen?_of_block (w := w) (a := ⟨b, i, none⟩) (h.block b hb hne)).trans hf
theorem trd_new {w : World} {k : Nat} (s : ByteArray) (hk : w.heap.size = k) : TRd (w.alloc (.cells #[.string s, .int .i64 0] 89)) k s 0 := by
  subst hk
  exact heap_alloc_new _ _

theorem tcell_two (w : World) (x y : Value) (tx ty : TypeId) : ((w.alloc (.cells #[x] tx)).alloc (.cells #[y] ty)).cell? ⟨w.heap.size, 0, none⟩ = some x ∧ ((w.alloc (.cells #[x] tx)).alloc (.cells #[y] ty)).cell? ⟨w.heap.size + 1, 0, none⟩ = some y := by
  have e : (w.alloc (.cells #[x] tx)).heap.size = w.heap.size + 1 := by simp
  constructor
  · exact cell_of_row _ _ 0 _ _ (0, 0) ((Below.heap_alloc _ _ _ (by omega)).trans (heap_alloc_new _ _))
  · have h := cell_of_row _ _ 0 _ _ (0, 0) (heap_alloc_new (w.alloc (.cells #[x] tx)) (.cells #[y] ty))
    rw [e] at h
    exact h

/-- The blocks that readTerm makes first: the two results and the reader. -/
structure TThree (w w3 : World) : Prop where
  gr : w.grownBy w3 none
  size : w3.heap.size = w.heap.size + 3
  c0 : w3.cell? ⟨w.heap.size, 0, none⟩ = some .nilIface
  f0 : w3.frozen? ⟨w.heap.size, 0, none⟩ = false
  c1 : w3.cell? ⟨w.heap.size + 1, 0, none⟩ = some (.bool false)
  f1 : w3.frozen? ⟨w.heap.size + 1, 0, none⟩ = false
theorem tthree (w : World) (s : ByteArray) : TThree w (((w.alloc (.cells #[.nilIface] 45)).alloc (.cells #[.bool false] 4)).alloc (.cells #[.string s, .int .i64 0] 89)) := by
  have h := tcell_two w .nilIface (.bool false) 45 4
  refine ⟨(World.grownBy_alloc _ _ _).trans ((World.grownBy_alloc _ _ _).trans (World.grownBy_alloc _ _ _)), by simp, ?_, ?_, ?_, ?_⟩
  · rw [World.cell?_alloc_lt _ _ _ (by simp; omega)]; exact h.1
  · simp [go_sem]
  · rw [World.cell?_alloc_lt _ _ _ (by simp)]; exact h.2
  · simp [go_sem]

set_option maxHeartbeats 1000000 in
theorem term_in (s : ByteArray) (w : World) (hs : s.size ≤ 80) :
    Calls Tryz.prog 23 #[.string s] w (TermPost s w) := by
  have hmf := tmakeFunc_run
  go_enter_defers Tryz.func23, Tryz.ntmps23
  go_wp2_with fail
  clear hmf
  refine (tread_any _ s (by omega) (s.size + 1) 0 _ (by omega) (by omega) (trd_new s (by simp))).mono ?_
  have H3 := Lib.hid (tthree w s)
  generalize ((w.alloc (.cells #[.nilIface] 45)).alloc (.cells #[.bool false] 4)).alloc (.cells #[.string s, .int .i64 0] 89) = w3 at H3
  rintro e w4 ⟨hg4, ⟨t, q, v, hn, rfl, hr4, ha4⟩ | ⟨hn, b, rfl⟩⟩
  · have hs3 := H3.out.size
    have hc0 := hg4.cell H3.out.c0 (by simp; omega)
    have hf0 := tfrozen_grown hg4 (by omega) (by simp; omega) H3.out.f0
    have hc1 := hg4.cell H3.out.c1 (by simp)
    have hf1 := tfrozen_grown hg4 (by omega) (by simp) H3.out.f1
    have HG4 := Lib.hid hg4
    have HN := Lib.hid hn
    have HR4 := Lib.hid hr4
    have HA4 := Lib.hid ha4
    have hz4 := hg4.size
    have hqs := (tm_ge s _ _ t q hn).2.1
    obtain ⟨ty, pv, rfl⟩ := ha4.iface
    clear hg4 hn hr4 ha4
    go_wp2_with fail
    have HR5 := Lib.hid (HR4.out.grown (gr_set w4 w.heap.size 0 (.iface ty pv)) (by simp; omega))
    by_cases hend : q = s.size
    · refine (end_yes _ q s _ HR5.out (by omega)).mono ?_
      rintro e w6 ⟨rfl, n6, rfl⟩
      have HE := Lib.hid hend
      clear hend
      go_wp2_with fail
      refine leaves_cons (f := 45) (args := #[.pointer (some ⟨w.heap.size, 0, none⟩), .pointer (some ⟨w.heap.size + 1, 0, none⟩)]) (by simp) (by simp [go_sem]) ?_
      refine (tcatch_idle _ _ _).mono ?_
      rintro e u' w'' ⟨rfl, rfl, rfl⟩
      simp [Leaves, settle, results, Tryz.results23, go_sem, hc0, hc1]
      have hr : readT s = some t := by
        unfold readT
        rw [HN.out]
        exact if_pos ⟨HE.out, hs⟩
      have hg0 := gr_new H3.out.gr HG4.out (by omega)
      have hg1 : w.grownBy ((w4.setCell ⟨w.heap.size, 0, none⟩ (.iface ty pv)).drewN n6) none := (tgr_set_new hg0 (by omega) (.iface ty pv)).trans (gr_drewN _ n6 none)
      refine termPost_yes hr rfl (tgr_set_new (tgr_set_new hg1 (by omega) _) (by omega) _) (PT.keep ?_ ?_ t _ HA4.out)
      · intro b hb _
        rw [Below.heap_setCell _ _ _ _ (by simp; omega), Below.heap_setCell _ _ _ _ (by simp; omega)]
        exact Below.heap_setCell _ _ _ _ (by simp; omega)
      · intro b hb _
        omega
    · refine (end_no _ q s _ HR5.out (by omega)).mono ?_
      rintro e w6 ⟨⟨b, rfl⟩, hg6⟩
      have hr : readT s = none := by
        unfold readT
        rw [HN.out]
        exact if_neg (fun h => hend h.1)
      have HR := Lib.hid hr
      have hb0 : ((w4.setCell ⟨w.heap.size, 0, none⟩ (.iface ty pv)).cell? ⟨w.heap.size, 0, none⟩) = some (.iface ty pv) := by simp [go_sem, hc0]
      have hg5 := gr_set w4 w.heap.size 0 (.iface ty pv)
      have hb1 := hg5.cell hc1 (by simp)
      have hbf0 := (by simpa [go_sem] using hf0 : (w4.setCell ⟨w.heap.size, 0, none⟩ (.iface ty pv)).frozen? ⟨w.heap.size, 0, none⟩ = false)
      have hbf1 := tfrozen_grown hg5 (by omega) (by simp) hf1
      have hd0 := hg6.cell hb0 (by simp; omega)
      have hd1 := hg6.cell hb1 (by simp)
      have hdf0 := tfrozen_grown hg6 (by simp; omega) (by simp; omega) hbf0
      have hdf1 := tfrozen_grown hg6 (by simp; omega) (by simp) hbf1
      have HG := Lib.hid (gr_new (tgr_set_new (gr_new H3.out.gr HG4.out (by omega)) (by omega) (.iface ty pv)) hg6 (by omega))
      clear hr hb0 hg5 hb1 hbf0 hbf1 hg6 hc0 hc1 hf0 hf1
      refine leaves_cons (f := 45) (args := #[.pointer (some ⟨w.heap.size, 0, none⟩), .pointer (some ⟨w.heap.size + 1, 0, none⟩)]) (by simp) (by simp [go_sem]) ?_
      refine (tcatch_fell _ _ b _ _ _ hd0 hdf0 hd1 hdf1 (by simp)).mono ?_
      rintro e u' w'' ⟨rfl, rfl, rfl⟩
      simp [Leaves, settle, results, Tryz.results23, go_sem, hd0, hd1]
      exact termPost_no HR.out rfl (tgr_set_new (tgr_set_new HG.out (by omega) _) (by omega) _)
  · have hs3 := H3.out.size
    have hc0 := hg4.cell H3.out.c0 (by simp; omega)
    have hf0 := tfrozen_grown hg4 (by omega) (by simp; omega) H3.out.f0
    have hc1 := hg4.cell H3.out.c1 (by simp)
    have hf1 := tfrozen_grown hg4 (by omega) (by simp) H3.out.f1
    have hr : readT s = none := by unfold readT; rw [hn]
    have HR := Lib.hid hr
    have HG := Lib.hid (gr_new H3.out.gr hg4 (by omega))
    clear hr hn hg4
    refine leaves_cons (f := 45) (args := #[.pointer (some ⟨w.heap.size, 0, none⟩), .pointer (some ⟨w.heap.size + 1, 0, none⟩)]) (by simp) (by simp [go_sem]) ?_
    refine (tcatch_fell _ _ b _ _ _ hc0 hf0 hc1 hf1 (by simp)).mono ?_
    rintro e u' w'' ⟨rfl, rfl, rfl⟩
    simp [Leaves, settle, results, Tryz.results23, go_sem, hc0, hc1]
    exact termPost_no HR.out rfl (tgr_set_new (tgr_set_new HG.out (by omega) _) (by omega) _)

theorem term_any (s : ByteArray) (w : World) : Calls Tryz.prog 23 #[.string s] w (TermPost s w) := by
  rcases Nat.lt_or_ge 80 s.size with h | h
  · exact term_out s w h
  · exact term_in s w h
end

/- RuP -/
section
open Go.RowKit

/-- How a function ends that answers a text and whether. -/
def PairP (s : ByteArray) (b : Bool) (w : World) (e : Ending) (w' : World) : Prop := e = .returned (.tuple #[.string s, .bool b]) ∧ w.grownBy w' none

theorem readT_bd {s : ByteArray} {t : Tm} (h : readT s = some t) : t.Ok ∧ t.txt.length ≤ 80 ∧ t.size ≤ 80 := by
  have h1 := readT_some h
  have h2 := readT_len h
  exact ⟨h1.2.2.1, by omega, h1.2.2.2⟩
end

/- SFree -/
section
open Go.RowKit

/-- In which parts a variable stands free. -/
def frL : Tm → Int → List Bool
  | .dig _, _ => []
  | .var _, _ => []
  | .pre _ s, v => [s.free v]
  | .two _ s t, v => [s.free v, t.free v]
  | .loop _ x s t, v => [s.free v, decide (x ≠ v) && t.free v]
def Tm.isV : Tm → Bool
  | .var _ => true
  | _ => false
theorem frL_len (t : Tm) (v : Int) : (frL t v).length = t.kids.length := by cases t <;> rfl
theorem frL_any {t : Tm} (h : t.isV = false) (v : Int) : t.free v = (frL t v).any id := by
  cases t with
  | var c => cases h
  | dig c => rfl
  | pre c s => simp [Tm.free, frL]
  | two c s t => simp [Tm.free, frL]
  | loop c i s t => simp [Tm.free, frL]
theorem frL_at {w : World} {S : Nat → Prop} {t : Tm} {a b v : Int} {sv : Value} {j : Nat} {x : Tm} (h : SN w S t (a, b, sv)) (hv : 0 < v) (hj : t.kids[j]? = some x) : (frL t v)[j]? = some (x.free v && (decide (j = 0) || decide (b ≠ v))) := by
  cases t with
  | dig c => simp [Tm.kids] at hj
  | var c => simp [Tm.kids] at hj
  | pre c s =>
    match j, hj with
    | 0, h => simp [Tm.kids] at h; subst h; simp [frL]
    | j + 1, h => simp [Tm.kids] at h
  | two c s t =>
    obtain ⟨_, h2, _⟩ := h
    simp only at h2
    subst h2
    match j, hj with
    | 0, h => simp [Tm.kids] at h; subst h; simp [frL]
    | 1, h =>
      simp [Tm.kids] at h; subst h
      have : ¬ (0 = v) := by omega
      simp [frL, this]
    | j + 2, h => simp [Tm.kids] at h
  | loop c i s t =>
    obtain ⟨_, h2, _⟩ := h
    simp only at h2
    subst h2
    match j, hj with
    | 0, h => simp [Tm.kids] at h; subst h; simp [frL]
    | 1, h => simp [Tm.kids] at h; subst h; simp [frL, Bool.and_comm]
    | j + 2, h => simp [Tm.kids] at h
theorem any_step : ∀ {l : List Bool} {j : Nat} {x : Bool}, l[j]? = some x → (l.take (j + 1)).any id = ((l.take j).any id || x)
  | [], _, _, h => by simp at h
  | a :: l, 0, x, h => by simp at h; subst h; simp
  | a :: l, j + 1, x, h => by
    have := any_step (l := l) (j := j) (by simpa using h)
    simp only [List.take_succ_cons, List.any_cons, this, Bool.or_assoc]
theorem any_hit : ∀ {l : List Bool} {j : Nat}, l[j]? = some true → l.any id = true
  | [], _, h => by simp at h
  | a :: l, 0, h => by simp at h; subst h; simp
  | a :: l, j + 1, h => by
    have := any_hit (l := l) (j := j) (by simpa using h)
    simp only [List.any_cons, this, Bool.or_true]
theorem SN.novar {w : World} {S : Nat → Prop} {t : Tm} {a b : Int} {sv : Value} (ho : t.Ok) (h : SN w S t (a, b, sv)) (hv : t.isV = false) : a ≠ 97 := by
  cases t with
  | var c => cases hv
  | dig c => obtain ⟨h1, _⟩ := h; simp only at h1; omega
  | pre c s =>
    obtain ⟨h1, _⟩ := h
    have := ho.1
    unfold isP at this
    simp only [decide_eq_true_eq] at this
    simp only at h1; omega
  | two c s t =>
    obtain ⟨h1, _⟩ := h
    have := ho.1
    unfold isB at this
    simp only [decide_eq_true_eq] at this
    simp only at h1; omega
  | loop c i s t =>
    obtain ⟨h1, _⟩ := h
    have := ho.1
    simp only at h1; omega

set_option maxRecDepth 100000 in
set_option maxHeartbeats 2000000 in
theorem sfree_any : ∀ (n : Nat) (t : Tm) (S : Nat → Prop) (a b : Int) (A : Option Addr) (k c : Nat) (v : Int) (w : World), t.size ≤ n → t.Ok → 0 < v → SN w S t (a, b, .slice A k c) →
    Calls Tryz.prog 37 #[.agg #[.int .u8 a, .int .u8 b, .slice A k c], .int .u8 v] w fun e w' => e = .returned (.bool (t.free v)) ∧ w.grownBy w' none
  | 0, t, S, a, b, A, k, c, v, w, hn, _, _, h => by have := t.size_pos; omega
  | n + 1, t, S, a, b, A, k, c, v, w, hn, hok, hv0, h => by
    have HI := Lib.hid (sfree_any n)
    cases hvr : t.isV with
    | true =>
      cases t <;> try cases hvr
      rename_i cc
      obtain ⟨h1, h2, h3, _⟩ := h
      simp only at h1 h2
      subst h1 h2
      have HX := Lib.hid (c3_new w (.int .u8 97) (.int .u8 b) (.slice A k c) 57)
      have x0 := HX.out.c0
      have x1 := HX.out.c1
      clear h3 hn
      go_enter Tryz.func37, Tryz.ntmps37
      go_wp2_with fail
      go_ret
      exact ⟨rfl, World.grownBy_alloc _ _ _⟩
    | false =>
      have HA97 : (a == 97) = false := by rw [beq_eq_false_iff_ne]; exact h.novar hok hvr
      have HFR := Lib.hid (frL_any hvr v)
      have HFL := Lib.hid (fun (j : Nat) (x : Tm) (hj : t.kids[j]? = some x) => frL_at h hv0 hj)
      have HKS := Lib.hid (csum_kids t)
      have HN := Lib.hid hn
      have HOK := Lib.hid hok
      obtain ⟨xs, ho, ha⟩ := h.kids
      obtain ⟨hk, hkc, hrow⟩ := srow3 ho
      have hlen := All2.length _ _ ha
      have HKL := Lib.hid hk
      have HLEN := Lib.hid hlen
      have HROW := Lib.hid hrow
      have HA := Lib.hid ha
      have hk2 : k ≤ 2 := by have := kids_len t; omega
      have HX := Lib.hid (c3_new w (.int .u8 a) (.int .u8 b) (.slice A k c) 57)
      have x0 := HX.out.c0
      have x2 := HX.out.c2
      have HX1 := Lib.hid HX.out.c1
      clear h hn ho ha hk hrow hlen hok
      go_enter Tryz.func37, Tryz.ntmps37
      go_wp2_with fail
      go_loopw [17] (fun i wr => ∃ j : Nat, j ≤ k ∧ i = .int .i64 j ∧ Hid (((frL t v).take j).any id = false) ∧ Hid ((w.alloc (.cells #[.int .u8 a, .int .u8 b, .slice A k c] 57)).grownBy wr none)) (fun i _ => k - (intOf i).toNat)
      case atStart => exact ⟨0, Nat.zero_le _, rfl, Lib.hid (by simp), Lib.hid (gr_refl _ _)⟩
      case round =>
        obtain ⟨j, hj, rfl, hm, hgr⟩ := hrel
        have HGR := Lib.hid ((World.grownBy_alloc w (.cells #[.int .u8 a, .int .u8 b, .slice A k c] 57) none).trans hgr.out)
        by_cases hlt : j < k
        · obtain ⟨g, rfl, hg1, hcell⟩ := HROW.out (by omega)
          obtain ⟨tj, ⟨a2, b2, sv2⟩, htj, hxj, hpj⟩ := HA.out.get (j := j) (by have := HKL.out; omega)
          obtain ⟨A2, k2, c2, hsv⟩ := hpj.form
          simp only at hsv
          subst hsv
          obtain ⟨q0, q1, q2⟩ := hcell j _ hxj
          have hc0 := HGR.out.cell q0 (by simp)
          have hc1 := HGR.out.cell q1 (by simp)
          have hc2 := HGR.out.cell q2 (by simp)
          have HP := Lib.hid ((hpj.grown HGR.out).grown (World.grownBy_alloc wr (.cells #[.int .u8 a2, .int .u8 b2, .slice A2 k2 c2] 57) none))
          have HFJ := Lib.hid (HFL.out j tj htj)
          have HST := Lib.hid (any_step HFJ.out)
          have hbd : tj.size ≤ n := by
            have hst := csum_step htj
            have hlq := csum_take t.kids (j + 1)
            have hks2 := HKS.out
            have hn3 := HN.out
            omega
          have HTOK := Lib.hid (kids_ok' HOK.out (List.mem_of_getElem? htj))
          obtain ⟨z, hz⟩ : ∃ z, tj.free v = z := ⟨_, rfl⟩
          have HCALL := Lib.hid (HI.out tj _ a2 b2 A2 k2 c2 v _ hbd HTOK.out hv0 HP.out)
          rw [hz] at HCALL HFJ HST
          clear hpj htj hxj q0 q1 q2 hcell hbd hz x2
          go_wp2_with fail
          refine HCALL.out.mono ?_
          rintro e w2 ⟨rfl, hg2⟩
          have HG2 := Lib.hid ((hgr.out.trans (World.grownBy_alloc wr _ none)).trans hg2)
          have x1 := HG2.out.cell HX1.out (by simp)
          clear hg2 hc0 hc1 hc2
          have hend : Hid (w.grownBy w2 none) := Lib.hid ((World.grownBy_alloc w (.cells #[.int .u8 a, .int .u8 b, .slice (some ⟨g, 0, none⟩) k c] 57) none).trans HG2.out)
          cases z
          · go_wp2_with fail
            go_roundw
            case rel => exact ⟨j + 1, by omega, by go_num, Lib.hid (by rw [HST.out, hm.out]; simp), HG2⟩
            case measure => simp [intOf]; omega
          · by_cases hj0 : j = 0
            · subst hj0
              go_wp2_with fail
              go_ret
              exact ⟨by rw [HFR.out, any_hit (by have := HFJ.out; simpa using this)]; rfl, hend.out⟩
            · have hj2 : ((j : Int) == 0) = false := by rw [beq_eq_false_iff_ne]; omega
              by_cases hbv : b = v
              · subst hbv
                have hbb : (b != b) = false := by simp
                go_wp2_with fail
                go_roundw
                case rel => exact ⟨j + 1, by omega, by go_num, Lib.hid (by rw [HST.out, hm.out]; simp [hj0]), HG2⟩
                case measure => simp [intOf]; omega
              · have hbb : (b != v) = true := by simp [hbv]
                go_wp2_with fail
                go_ret
                exact ⟨by rw [HFR.out, any_hit (by have := HFJ.out; simpa [hbv] using this)]; rfl, hend.out⟩
        · have hjk : j = k := by omega
          have HJ := Lib.hid hjk
          clear hjk
          go_wp2_with fail
          go_ret
          refine ⟨?_, HGR.out⟩
          have hme := hm.out
          rw [HJ.out, List.take_of_length_le (by rw [frL_len, HLEN.out, HKL.out]; exact Nat.le_refl _)] at hme
          rw [HFR.out, hme]
          rfl
end

/- SRepS -/
section
section
open Go.RowKit

abbrev TN : TypeId := 57
theorem gr_some2 {w w' : World} {g : Nat} (h : w.grownBy w' none) : w.grownBy w' (some g) := ⟨h.os, h.tape, h.output, h.size, fun k hk _ => h.block k hk (by simp)⟩
theorem gr_none {w w' : World} {g : Nat} (h : w.grownBy w' (some g)) (hg : w.heap.size ≤ g) : w.grownBy w' none := ⟨h.os, h.tape, h.output, h.size, fun k hk _ => h.block k hk (by simp; omega)⟩
theorem infoNode : (Tryz.prog.info? 57).map (fun i => (i.zero, i.size, i.bytes)) = some (some (.agg #[.int .u8 0, .int .u8 0, .slice none 0 0]), 3, 32) := by kernel_rfl

/-- How it ends. -/
def SRP (t' : Tm) (good : Bool) (S : Nat → Prop) (w : World) (e : Ending) (w' : World) : Prop :=
  ∃ a b A k c, e = .returned (.tuple #[.agg #[.int .u8 a, .int .u8 b, .slice A k c], .bool good]) ∧ w.grownBy w' none ∧ SN w' (fun x => S x ∨ w.heap.size ≤ x) t' (a, b, .slice A k c)

set_option maxRecDepth 100000 in
set_option maxHeartbeats 2000000 in
theorem srep_hit (v ua ub : Int) (sv : Value) (hsv : ∃ A k c, sv = .slice A k c) (UA : Option Addr) (uk uc : Nat) (u : Tm) (S : Nat → Prop) (w : World) (hu : SN w S u (ua, ub, .slice UA uk uc)) :
    Calls Tryz.prog 30 #[.agg #[.int .u8 97, .int .u8 v, sv], .int .u8 v, .agg #[.int .u8 ua, .int .u8 ub, .slice UA uk uc]] w (SRP u true S w) := by
  obtain ⟨A, k, c, rfl⟩ := hsv
  have HU := Lib.hid hu
  obtain ⟨h, hh⟩ : ∃ h, w.heap.size = h := ⟨_, rfl⟩
  obtain ⟨w1, hw1⟩ : ∃ w1, w.alloc (.cells #[.int .u8 97, .int .u8 v, .slice A k c] TN) = w1 := ⟨_, rfl⟩
  have z1 : w1.heap.size = h + 1 := by rw [← hw1, World.size_alloc, hh]
  have k1 : C3 w1 h (.int .u8 97) (.int .u8 v) (.slice A k c) TN := by rw [← hw1, ← hh]; exact c3_new _ _ _ _ _
  have g1 : w.grownBy w1 none := by rw [← hw1]; exact World.grownBy_alloc _ _ _
  obtain ⟨w2, hw2⟩ : ∃ w2, w1.alloc (.cells #[.int .u8 ua, .int .u8 ub, .slice UA uk uc] TN) = w2 := ⟨_, rfl⟩
  have z2 : w2.heap.size = h + 2 := by rw [← hw2, World.size_alloc, z1]
  have k2 : C3 w2 (h + 1) (.int .u8 ua) (.int .u8 ub) (.slice UA uk uc) TN := by rw [← hw2, ← z1]; exact c3_new _ _ _ _ _
  have g2 : w.grownBy w2 none := by rw [← hw2]; exact g1.trans (World.grownBy_alloc _ _ _)
  obtain ⟨w3, hw3⟩ : ∃ w3, w2.alloc (.cells #[.int .u8 0, .int .u8 0, .slice none 0 0] TN) = w3 := ⟨_, rfl⟩
  have k3 : C3 w3 (h + 2) (.int .u8 0) (.int .u8 0) (.slice none 0 0) TN := by rw [← hw3, ← z2]; exact c3_new _ _ _ _ _
  have g3 : w.grownBy w3 none := by rw [← hw3]; exact g2.trans (World.grownBy_alloc _ _ _)
  have k1' : C3 w3 h (.int .u8 97) (.int .u8 v) (.slice A k c) TN := by rw [← hw3, ← hw2]; exact (k1.alloc _).alloc _
  have k2' : C3 w3 (h + 1) (.int .u8 ua) (.int .u8 ub) (.slice UA uk uc) TN := by rw [← hw3]; exact k2.alloc _
  have K3 := Lib.hid k3
  have G3 := Lib.hid g3
  have HH := Lib.hid hh
  have n0 := k1'.c0
  have n1 := k1'.c1
  have u0 := k2'.c0
  have u1 := k2'.c1
  have u2 := k2'.c2
  have r0 := k3.c0
  have r1 := k3.c1
  have r2 := k3.c2
  have f0 := k3.f 0
  have f1 := k3.f 1
  have f2 := k3.f 2
  clear hu k1 k2 k3 k1' k2' g1 g2 g3
  go_enter Tryz.func30, Tryz.ntmps30
  go_wp2_with fail
  have HL := Lib.hid (K3.out.laid (x' := .int .u8 ua) (y' := .int .u8 ub) (z' := .slice UA uk uc))
  have HG : Hid (w.grownBy (laid3 w3 (h + 2) (.int .u8 ua) (.int .u8 ub) (.slice UA uk uc)) none) := Lib.hid (gr_none (gr_laid3 (g := h + 2) (gr_some2 G3.out) (by have := HH.out; omega) _ _ _) (by have := HH.out; omega))
  clear n0 n1 u0 u1 u2 r0 r1 r2 f0 f1 f2
  have n0 := HL.out.c0
  have n1 := HL.out.c1
  have n2 := HL.out.c2
  unfold laid3 at n0 n1 n2
  refine bodyPost_ret (v := .tuple #[.agg #[.int .u8 ua, .int .u8 ub, .slice UA uk uc], .bool true]) (by simp [results, Tryz.results30, go_sem, n0, n1, n2]) rfl ?_
  exact ⟨_, _, _, _, _, rfl, HG.out, HU.out.keep (fun b _ hl => HG.out.block b hl (by simp)) (fun b hb _ => .inl hb) _ _⟩
end

section
open Go.RowKit

/-- The parts after a replacement; whether nothing is bound at each. -/
def repK : Tm → Int → Tm → List Tm
  | .dig _, _, _ => []
  | .var _, _, _ => []
  | .pre _ s, v, u => [s.rep v u]
  | .two _ s t, v, u => [s.rep v u, t.rep v u]
  | .loop _ x s t, v, u => [s.rep v u, if x = v then t else t.rep v u]
def gdL : Tm → Int → Tm → List Bool
  | .dig _, _, _ => []
  | .var _, _, _ => []
  | .pre _ s, v, u => [!s.binds v u]
  | .two _ s t, v, u => [!s.binds v u, !t.binds v u]
  | .loop _ x s t, v, u => [!s.binds v u, !((decide (x ≠ v) && t.free v) && (u.free x || t.binds v u))]
theorem repK_len (t : Tm) (v : Int) (u : Tm) : (repK t v u).length = t.kids.length := by cases t <;> rfl
theorem gdL_len (t : Tm) (v : Int) (u : Tm) : (gdL t v u).length = t.kids.length := by cases t <;> rfl
theorem gdL_all (t : Tm) (v : Int) (u : Tm) : (gdL t v u).all id = !t.binds v u := by
  cases t with
  | dig c => rfl
  | var c => rfl
  | pre c s => simp [gdL, Tm.binds]
  | two c s t => simp [gdL, Tm.binds]
  | loop c x s t => simp only [gdL, Tm.binds, List.all_cons, List.all_nil, id, Bool.and_true, Bool.not_or]
theorem all_step : ∀ {l : List Bool} {j : Nat} {x : Bool}, l[j]? = some x → (l.take (j + 1)).all id = ((l.take j).all id && x)
  | [], _, _, h => by simp at h
  | a :: l, 0, x, h => by simp at h; subst h; simp
  | a :: l, j + 1, x, h => by
    have := all_step (l := l) (j := j) (by simpa using h)
    simp only [List.take_succ_cons, List.all_cons, this, Bool.and_assoc]

/-- A part that stays as it is. -/
theorem rep_stay {w : World} {S : Nat → Prop} {t u : Tm} {a b v : Int} {sv : Value} {j : Nat} {x : Tm} (ho : t.Ok) (h : SN w S t (a, b, sv)) (hv : 0 < v) (hj : t.kids[j]? = some x) (hs : (j = 1 ∧ b = v) ∨ x.free v = false) :
    (repK t v u)[j]? = some x ∧ (gdL t v u)[j]? = some true := by
  cases t with
  | dig c => simp [Tm.kids] at hj
  | var c => simp [Tm.kids] at hj
  | pre c s =>
    match j, hj with
    | 0, hj =>
      simp [Tm.kids] at hj; subst hj
      have hf : s.free v = false := by rcases hs with ⟨h1, _⟩ | h1; omega; exact h1
      simp [repK, gdL, (s.rep_id v u hf).1, (s.rep_id v u hf).2]
    | j + 1, hj => simp [Tm.kids] at hj
  | two c s t =>
    obtain ⟨_, h2, _⟩ := h
    simp only at h2
    subst h2
    match j, hj with
    | 0, hj =>
      simp [Tm.kids] at hj; subst hj
      have hf : s.free v = false := by rcases hs with ⟨h1, _⟩ | h1; omega; exact h1
      simp [repK, gdL, (s.rep_id v u hf).1, (s.rep_id v u hf).2]
    | 1, hj =>
      simp [Tm.kids] at hj; subst hj
      have hf : t.free v = false := by rcases hs with ⟨_, h1⟩ | h1; omega; exact h1
      simp [repK, gdL, (t.rep_id v u hf).1, (t.rep_id v u hf).2]
    | j + 2, hj => simp [Tm.kids] at hj
  | loop c i s t =>
    obtain ⟨_, h2, _⟩ := h
    simp only at h2
    subst h2
    match j, hj with
    | 0, hj =>
      simp [Tm.kids] at hj; subst hj
      have hf : s.free v = false := by rcases hs with ⟨h1, _⟩ | h1; omega; exact h1
      simp [repK, gdL, (s.rep_id v u hf).1, (s.rep_id v u hf).2]
    | 1, hj =>
      simp [Tm.kids] at hj; subst hj
      rcases hs with ⟨_, h1⟩ | hf
      · simp [repK, gdL, h1]
      · simp [repK, gdL, hf, (t.rep_id v u hf).1]
    | j + 2, hj => simp [Tm.kids] at hj

/-- A part that is replaced. -/
theorem rep_turn {w : World} {S : Nat → Prop} {t u : Tm} {a b v : Int} {sv : Value} {j : Nat} {x : Tm} (ho : t.Ok) (h : SN w S t (a, b, sv)) (hj : t.kids[j]? = some x) (hs : ¬ (j = 1 ∧ b = v)) (hf : x.free v = true) :
    (repK t v u)[j]? = some (x.rep v u) ∧ (gdL t v u)[j]? = some (!x.binds v u && (decide (j = 0) || (decide (b = 0) || !u.free b))) := by
  cases t with
  | dig c => simp [Tm.kids] at hj
  | var c => simp [Tm.kids] at hj
  | pre c s =>
    match j, hj with
    | 0, hj => simp [Tm.kids] at hj; subst hj; simp [repK, gdL]
    | j + 1, hj => simp [Tm.kids] at hj
  | two c s t =>
    obtain ⟨_, h2, _⟩ := h
    simp only at h2
    subst h2
    match j, hj with
    | 0, hj => simp [Tm.kids] at hj; subst hj; simp [repK, gdL]
    | 1, hj => simp [Tm.kids] at hj; subst hj; simp [repK, gdL]
    | j + 2, hj => simp [Tm.kids] at hj
  | loop c i s t =>
    obtain ⟨_, h2, _⟩ := h
    simp only at h2
    subst h2
    have hl := isL_ge ho.2.1
    match j, hj with
    | 0, hj => simp [Tm.kids] at hj; subst hj; simp [repK, gdL]
    | 1, hj =>
      simp [Tm.kids] at hj; subst hj
      have hne : ¬ (b = v) := fun e => hs ⟨rfl, e⟩
      have hb0 : ¬ (b = 0) := by omega
      simp [repK, gdL, hne, hf, hb0, Bool.and_comm]
    | j + 2, hj => simp [Tm.kids] at hj

/-- The whole, made of its parts. -/
theorem sn_made {w0 w : World} {S S' : Nat → Prop} {t u : Tm} {a b v : Int} {sv sv' : Value} {ys : List (Int × Int × Value)} (h : SN w0 S t (a, b, sv)) (hn : ∀ c, t = .var c → c ≠ v)
    (ho : w.ownsRow 0 57 3 sv' ys.length (flat3 ys)) (hS : ∀ g, sv'.ownBlock = some g → S' g) (ha : All2 (SN w S') (repK t v u) ys) : SN w S' (t.rep v u) (a, b, sv') := by
  cases t with
  | dig c =>
    obtain ⟨h1, h2, _⟩ := h
    cases ys with
    | nil => exact ⟨h1, h2, ho, hS⟩
    | cons y ys => cases ha
  | var c =>
    obtain ⟨h1, h2, _⟩ := h
    cases ys with
    | nil =>
      simp only [Tm.rep, if_neg (hn c rfl)]
      exact ⟨h1, h2, ho, hS⟩
    | cons y ys => cases ha
  | pre c s =>
    obtain ⟨h1, h2, _⟩ := h
    match ys, ha, ho with
    | [y], ha, ho => exact ⟨h1, h2, y, ho, hS, ha.1⟩
  | two c s t =>
    obtain ⟨h1, h2, _⟩ := h
    match ys, ha, ho with
    | [y, z], ha, ho => exact ⟨h1, h2, y, z, ho, hS, ha.1, ha.2.1⟩
  | loop c i s t =>
    obtain ⟨h1, h2, _⟩ := h
    match ys, ha, ho with
    | [y, z], ha, ho => exact ⟨h1, h2, y, z, ho, hS, ha.1, ha.2.1⟩
end

section
open Go.RowKit

/-- Blocks of parts: the given ones or new ones, neither the box of what comes out nor its row. -/
def Apart (S : Nat → Prop) (h : Nat) (sv : Value) (x : Nat) : Prop := (S x ∨ h + 3 ≤ x) ∧ x ≠ h + 4 ∧ ∀ g, sv.ownBlock = some g → x ≠ g

structure RS (S : Nat → Prop) (h : Nat) (w wr : World) (na nb : Int) (nsv : Value) (ua ub : Int) (usv : Value) (sv : Value) (j : Nat) (ks : List Tm) (ys : List (Int × Int × Value)) : Prop where
  cn : C3 wr h (.int .u8 na) (.int .u8 nb) nsv TN
  cu : C3 wr (h + 1) (.int .u8 ua) (.int .u8 ub) usv TN
  cr : C3 wr (h + 2) (.int .u8 0) (.int .u8 0) (.slice none 0 0) TN
  co : C3 wr (h + 4) (.int .u8 na) (.int .u8 nb) sv TN
  row : wr.ownsRow (h + 3) TN 3 sv j (flat3 ys)
  len : ys.length = j
  ap : ∀ g, sv.ownBlock = some g → g ≠ h + 4
  ks : All2 (SN wr (Apart S h sv)) ks ys
  hz : w.heap.size = h
  gr : w.grownBy wr none

theorem all2_map {α β : Type} {R R' : α → β → Prop} (h : ∀ a b, R a b → R' a b) : ∀ {l : List α} {m : List β}, All2 R l m → All2 R' l m := fun ha => All2.mono h _ _ ha
theorem flat3_app : ∀ (l : List (Int × Int × Value)) (a b : Int) (sv : Value), flat3 (l ++ [(a, b, sv)]) = flat3 l ++ [.int .u8 a, .int .u8 b, sv]
  | [], _, _, _ => rfl
  | (m, n, s) :: l, a, b, sv => by simp [flat3, flat3_app l a b sv]

section
variable {S : Nat → Prop} {h j : Nat} {w wr : World} {na nb ua ub : Int} {nsv usv sv : Value} {ks : List Tm} {ys : List (Int × Int × Value)}
theorem RS.grown {w' : World} (r : RS S h w wr na nb nsv ua ub usv sv j ks ys) (hg : wr.grownBy w' none) : RS S h w w' na nb nsv ua ub usv sv j ks ys :=
  ⟨r.cn.grown hg (by simp), r.cu.grown hg (by simp), r.cr.grown hg (by simp), r.co.grown hg (by simp), own_keep r.row (fun b hb => hg.block b (r.row.lt b hb).2 (by simp)), r.len, r.ap,
    all2_map (fun t y hy => hy.grown hg) r.ks, r.hz, r.gr.trans hg⟩

theorem RS.apart_new (r : RS S h w wr na nb nsv ua ub usv sv j ks ys) (hS : ∀ x, S x → x < w.heap.size) {x : Nat} (hx : S x ∨ wr.heap.size ≤ x) : Apart S h sv x := by
  have hlt : h + 4 < wr.heap.size := r.co.lt
  have hz := r.hz
  rcases hx with hx | hx
  · have := hS x hx
    exact ⟨.inl hx, by omega, fun g hg e => by have := (r.row.lt g hg).1; omega⟩
  · exact ⟨.inr (by omega), by omega, fun g hg e => by have := (r.row.lt g hg).2; omega⟩

/-- The end: what comes out is laid into the result's box. -/
theorem RS.ended (r : RS S h w wr na nb nsv ua ub usv sv j ks ys) (hS : ∀ x, S x → x < w.heap.size) :
    (laid3 wr (h + 2) (.int .u8 na) (.int .u8 nb) sv).ownsRow 0 TN 3 sv ys.length (flat3 ys) ∧ (∀ g, sv.ownBlock = some g → S g ∨ w.heap.size ≤ g) ∧ All2 (SN (laid3 wr (h + 2) (.int .u8 na) (.int .u8 nb) sv) (fun x => S x ∨ w.heap.size ≤ x)) ks ys ∧ w.grownBy (laid3 wr (h + 2) (.int .u8 na) (.int .u8 nb) sv) none := by
  have hz := r.hz
  refine ⟨?_, fun g hg => .inr (by have := (r.row.lt g hg).1; omega), ?_, gr_none (gr_laid3 (g := h + 2) (gr_some2 r.gr) (by omega) _ _ _) (by omega)⟩
  · rw [r.len]
    exact own_base (own_keep r.row (fun g hg => laid3_heap _ _ _ _ _ _ (by have := (r.row.lt g hg).1; omega))) (Nat.zero_le _)
  · refine all2_map (fun t y hy => hy.keep (fun b hb hl => laid3_heap _ _ _ _ _ _ ?_) (fun b hb _ => ?_) t y) r.ks
    · rcases hb.1 with h1 | h1
      · have := hS b h1; omega
      · omega
    · rcases hb.1 with h1 | h1
      · exact .inl h1
      · exact .inr (by omega)

theorem RS.push {w2 : World} {sv2 : Value} {a3 b3 : Int} {sv3 : Value} {t3 : Tm} (r : RS S h w wr na nb nsv ua ub usv sv j ks ys)
    (ho : w2.ownsRow (h + 3) TN 3 sv2 (j + 1) (flat3 ys ++ [.int .u8 a3, .int .u8 b3, sv3])) (hg : wr.grownBy w2 sv.ownBlock) (hat : sv2.ownBlock = sv.ownBlock ∨ sv2.ownBlock = some wr.heap.size)
    (ht : SN wr (Apart S h sv) t3 (a3, b3, sv3)) :
    RS S h w (w2.setCell ⟨h + 4, 2, none⟩ sv2) na nb nsv ua ub usv sv2 (j + 1) (ks ++ [t3]) (ys ++ [(a3, b3, sv3)]) := by
  have hlt : h + 4 < wr.heap.size := r.co.lt
  have hge : ∀ g, sv.ownBlock = some g → h + 3 ≤ g := fun g hg => (r.row.lt g hg).1
  have hne : ∀ x, x < h + 3 → some x ≠ sv.ownBlock := fun x hx e => by have := hge x e.symm; omega
  have hne4 : some (h + 4) ≠ sv.ownBlock := fun e => r.ap _ e.symm rfl
  have hset := gr_set w2 (h + 4) 2 sv2
  have hap : ∀ g, sv2.ownBlock = some g → g ≠ h + 4 := fun g hg => by
    rcases hat with e | e
    · exact r.ap g (e ▸ hg)
    · rw [e] at hg; cases hg; omega
  have hsn : ∀ t y, SN wr (Apart S h sv) t y → SN (w2.setCell ⟨h + 4, 2, none⟩ sv2) (Apart S h sv2) t y := fun t y hy =>
    hy.keep (fun b hb hl => by
      have h1 := hg.block b hl (fun e => hb.2.2 b e.symm rfl)
      have h2 := hset.block b (Nat.lt_of_lt_of_le hl hg.size) (by simp; exact hb.2.1)
      exact h2.trans h1) (fun b hb hl => ⟨hb.1, hb.2.1, fun g hg2 => by
      rcases hat with e | e
      · exact hb.2.2 g (e ▸ hg2)
      · rw [e] at hg2; cases hg2; omega⟩) t y
  refine ⟨(r.cn.grown hg (hne h (by omega))).grown hset (by simp), (r.cu.grown hg (hne (h + 1) (by omega))).grown hset (by simp), (r.cr.grown hg (hne (h + 2) (by omega))).grown hset (by simp), (r.co.grown hg hne4).set2 sv2, ?_, by rw [List.length_append, r.len]; rfl, hap, ?_, r.hz, ?_⟩
  · rw [flat3_app]
    exact own_keep ho (fun b hb => hset.block b (ho.lt b hb).2 (by simp; exact hap b hb))
  · exact All2.snoc (hsn _ _ ht) _ _ (all2_map hsn r.ks)
  · have h1 : w.grownBy w2 none := ⟨hg.os.trans r.gr.os, hg.tape.trans r.gr.tape, hg.output.trans r.gr.output, Nat.le_trans r.gr.size hg.size, fun k hk hn => (hg.block k (Nat.lt_of_lt_of_le hk r.gr.size) (hne k (by have := r.hz; omega))).trans (r.gr.block k hk hn)⟩
    exact gr_new h1 hset (by have := r.hz; omega)
end
end
end

/- SRepL -/
section
open Go.RowKit

theorem cell3_new (w : World) (x y z : Value) (ty : TypeId) : ∀ j u, [x, y, z][j]? = some u → (w.alloc (.cells #[x, y, z] ty)).cell? ((⟨w.heap.size, 0, none⟩ : Addr).add j) = some u := by
  intro j u hj
  have hadd : (⟨w.heap.size, 0, none⟩ : Addr).add j = ⟨w.heap.size, j, none⟩ := by unfold Addr.add; split <;> simp_all
  rw [hadd]
  match j, hj with
  | 0, hj => simp at hj; subst hj; exact (c3_new w x y z ty).c0
  | 1, hj => simp at hj; subst hj; exact (c3_new w x y z ty).c1
  | 2, hj => simp at hj; subst hj; exact (c3_new w x y z ty).c2
  | j + 3, hj => simp at hj
theorem good12 {x : Bool} {j : Nat} {A B : Bool} {fb : Bool} {b : Int} (h : A = (B && (x && (decide (j = 0) || (decide (b = 0) || !fb))))) (hg : true = B) (hj : ((j : Int) == 0) = true) : x = A := by
  have hj9 : j = 0 := by rw [beq_iff_eq] at hj; omega
  rw [h, ← hg]
  simp [hj9]
theorem good3 {x gd : Bool} {j : Nat} {A B : Bool} {fb : Bool} {b : Int} {r : Bool} (h : A = (B && (x && (decide (j = 0) || (decide (b = 0) || !fb))))) (hg : gd = B) (hj : ((j : Int) == 0) = false)
    (hc : (gd = false ∧ r = false) ∨ (x = false ∧ r = false) ∨ (gd = true ∧ x = true ∧ b = 0 ∧ r = true) ∨ (gd = true ∧ x = true ∧ b ≠ 0 ∧ r = !fb)) : r = A := by
  have hj9 : ¬ j = 0 := by rw [beq_eq_false_iff_ne] at hj; omega
  rw [h, ← hg]
  rcases hc with ⟨h1, h2⟩ | ⟨h1, h2⟩ | ⟨h1, h2, h3, h4⟩ | ⟨h1, h2, h3, h4⟩ <;> simp_all
theorem take_snoc5 {α : Type} {l : List α} {j : Nat} {x : α} (h : l[j]? = some x) : l.take j ++ [x] = l.take (j + 1) := by rw [List.take_add_one, h]; rfl

set_option maxRecDepth 100000 in
set_option maxHeartbeats 8000000 in
theorem srep_go (t u : Tm) (a b v ua ub : Int) (A UA : Option Addr) (k c uk uc : Nat) (S : Nat → Prop) (w : World) (hok : t.Ok) (huok : u.Ok) (hv0 : 0 < v) (hsz : t.size ≤ 1000000)
    (hn : ∀ c, t = .var c → c ≠ v) (hS : ∀ x, S x → x < w.heap.size) (ht : SN w S t (a, b, .slice A k c)) (hu : SN w S u (ua, ub, .slice UA uk uc))
    (ih : ∀ x ∈ t.kids, ∀ (a2 b2 : Int) (A2 : Option Addr) (k2 c2 : Nat) (w' : World), w.grownBy w' none → SN w' S x (a2, b2, .slice A2 k2 c2) → Calls Tryz.prog 30 #[.agg #[.int .u8 a2, .int .u8 b2, .slice A2 k2 c2], .int .u8 v, .agg #[.int .u8 ua, .int .u8 ub, .slice UA uk uc]] w' (SRP (x.rep v u) (!x.binds v u) S w')) :
    Calls Tryz.prog 30 #[.agg #[.int .u8 a, .int .u8 b, .slice A k c], .int .u8 v, .agg #[.int .u8 ua, .int .u8 ub, .slice UA uk uc]] w (SRP (t.rep v u) (!t.binds v u) S w) := by
  obtain ⟨i0, hi0, hz0, hz1, hz2⟩ := info_parts infoNode
  have HT := Lib.hid ht
  have HU := Lib.hid hu
  have HI := Lib.hid ih
  have HOK := Lib.hid hok
  obtain ⟨xs, hox, hax⟩ := ht.kids
  obtain ⟨hk, hkc, hrow⟩ := srow3 hox
  have hlen := All2.length _ _ hax
  have HKL := Lib.hid hk
  have HLEN := Lib.hid hlen
  have HROW := Lib.hid hrow
  have HA := Lib.hid hax
  have hk2 : k ≤ 2 := by have := kids_len t; omega
  have HHIT : Hid ((a == 97) = true → (b == v) = false) := Lib.hid (fun h97 => by
    rw [beq_iff_eq] at h97
    cases hvr : t.isV with
    | true =>
      cases t <;> try cases hvr
      rename_i cc
      obtain ⟨_, h2, _⟩ := ht
      simp only at h2
      rw [beq_eq_false_iff_ne, h2]
      exact hn cc rfl
    | false => exact absurd h97 (ht.novar hok hvr))
  have HSN := Lib.hid (fun (w' : World) (S' : Nat → Prop) (sv' : Value) (ys : List (Int × Int × Value)) ho hS' ha => sn_made (w := w') (S' := S') (v := v) (u := u) (sv' := sv') (ys := ys) ht hn ho hS' ha)
  have HSTAY := Lib.hid (fun (j : Nat) (x : Tm) hj hs => rep_stay (v := v) (u := u) (j := j) (x := x) hok ht hv0 hj hs)
  have HTURN := Lib.hid (fun (j : Nat) (x : Tm) hj hs hf => rep_turn (v := v) (u := u) (j := j) (x := x) hok ht hj hs hf)
  have HB0 : Hid (b = 0 ∨ 0 < b) := Lib.hid (by
    cases t with
    | dig c => obtain ⟨_, h2, _⟩ := ht; simp only at h2; have := isD_ge hok; omega
    | var c => obtain ⟨_, h2, _⟩ := ht; simp only at h2; have := isV_ge hok; omega
    | pre c s => obtain ⟨_, h2, _⟩ := ht; simp only at h2; omega
    | two c s t => obtain ⟨_, h2, _⟩ := ht; simp only at h2; omega
    | loop c i s t => obtain ⟨_, h2, _⟩ := ht; simp only at h2; have := isL_ge hok.2.1; omega)
  have HGL := Lib.hid (gdL_all t v u)
  have HRKL := Lib.hid (repK_len t v u)
  have HGLL := Lib.hid (gdL_len t v u)
  have HKS := Lib.hid (csum_kids t)
  obtain ⟨res, hres⟩ : ∃ r, (!t.binds v u) = r := ⟨_, rfl⟩
  rw [hres]
  have HRES := Lib.hid hres
  obtain ⟨h, hh⟩ : ∃ h, w.heap.size = h := ⟨_, rfl⟩
  obtain ⟨w1, hw1⟩ : ∃ w1, w.alloc (.cells #[.int .u8 a, .int .u8 b, .slice A k c] TN) = w1 := ⟨_, rfl⟩
  have z1 : w1.heap.size = h + 1 := by rw [← hw1, World.size_alloc, hh]
  obtain ⟨w2, hw2⟩ : ∃ w2, w1.alloc (.cells #[.int .u8 ua, .int .u8 ub, .slice UA uk uc] TN) = w2 := ⟨_, rfl⟩
  have z2 : w2.heap.size = h + 2 := by rw [← hw2, World.size_alloc, z1]
  obtain ⟨w3, hw3⟩ : ∃ w3, w2.alloc (.cells #[.int .u8 0, .int .u8 0, .slice none 0 0] TN) = w3 := ⟨_, rfl⟩
  have z3 : w3.heap.size = h + 3 := by rw [← hw3, World.size_alloc, z2]
  obtain ⟨w4, hw4⟩ : ∃ w4, w3.alloc (.cells #[] TN) = w4 := ⟨_, rfl⟩
  have z4 : w4.heap.size = h + 4 := by rw [← hw4, World.size_alloc, z3]
  obtain ⟨w5, hw5⟩ : ∃ w5, w4.alloc (.cells #[.int .u8 a, .int .u8 b, .slice (some ⟨h + 3, 0, none⟩) 0 0] TN) = w5 := ⟨_, rfl⟩
  have k1 : C3 w3 h (.int .u8 a) (.int .u8 b) (.slice A k c) TN := by rw [← hw3, ← hw2, ← hw1, ← hh]; exact ((c3_new _ _ _ _ _).alloc _).alloc _
  have k2 : C3 w3 (h + 1) (.int .u8 ua) (.int .u8 ub) (.slice UA uk uc) TN := by rw [← hw3, ← hw2, ← z1]; exact (c3_new _ _ _ _ _).alloc _
  have k3 : C3 w3 (h + 2) (.int .u8 0) (.int .u8 0) (.slice none 0 0) TN := by rw [← hw3, ← z2]; exact c3_new _ _ _ _ _
  have g5 : w.grownBy w5 none := by
    rw [← hw5, ← hw4, ← hw3, ← hw2, ← hw1]
    exact ((((World.grownBy_alloc _ _ none).trans (World.grownBy_alloc _ _ none)).trans (World.grownBy_alloc _ _ none)).trans (World.grownBy_alloc _ _ none)).trans (World.grownBy_alloc _ _ none)
  have R5 : RS S h w w5 a b (.slice A k c) ua ub (.slice UA uk uc) (.slice (some ⟨h + 3, 0, none⟩) 0 0) 0 [] [] :=
    ⟨by rw [← hw5, ← hw4]; exact (k1.alloc _).alloc _, by rw [← hw5, ← hw4]; exact (k2.alloc _).alloc _, by rw [← hw5, ← hw4]; exact (k3.alloc _).alloc _, by rw [← hw5, ← z4]; exact c3_new _ _ _ _ _,
      by
        have := (World.ownsRow_made (base := h + 3) (e := TN) (size := 3) w3 #[] 0 (by omega) (by simp) (by simp)).alloc (.cells #[.int .u8 a, .int .u8 b, .slice (some ⟨h + 3, 0, none⟩) 0 0] TN)
        rw [hw4, hw5, z3] at this
        exact this, rfl, fun g hg => by simp [Value.ownBlock] at hg; omega, trivial, hh, g5⟩
  have n0 := k1.c0
  have n1 := k1.c1
  have n2 := R5.cn.c2
  have HR5 := Lib.hid R5
  clear ht hu ih hok hox hax hk hrow hlen hn hres k1 k2 k3 g5 R5
  obtain ⟨h9, hh9⟩ : ∃ h9, (a == 97) = h9 := ⟨_, rfl⟩
  have HH9 : h9 = true → (b == v) = false := fun e => HHIT.out (by rw [hh9]; exact e)
  cases h9
  · --1
    clear HH9
    go_enter Tryz.func30, Tryz.ntmps30
    go_wp2_with fail
    go_loopw [9, 33] (fun q i wr => ∃ (j : Nat) (gd : Bool) (PA : Option Addr) (pn pc : Nat) (ys : List (Int × Int × Value)), j ≤ k ∧ i = .int .i64 j ∧ q = .bool gd ∧ Hid (gd = ((gdL t v u).take j).all id) ∧ Hid (RS S h w wr a b (.slice A k c) ua ub (.slice UA uk uc) (.slice PA pn pc) j ((repK t v u).take j) ys)) (fun _ i _ => k - (intOf i).toNat)
    case atStart => exact ⟨0, true, some ⟨h + 3, 0, none⟩, 0, 0, [], Nat.zero_le _, rfl, rfl, Lib.hid rfl, HR5⟩
    case round =>
      obtain ⟨j, gd, PA, pn, pc, ys, hj, rfl, rfl, hgd, hrs⟩ := hrel
      by_cases hlt : j < k
      · obtain ⟨gA, rfl, hgA, hcell⟩ := HROW.out (by omega)
        obtain ⟨tj, ⟨a2, b2, sv2⟩, htj, hxj, hpj⟩ := HA.out.get (j := j) (by have := HKL.out; omega)
        obtain ⟨A2, k2, c2, hsv⟩ := hpj.form
        simp only at hsv
        subst hsv
        obtain ⟨q0, q1, q2⟩ := hcell j _ hxj
        have hc0 := hrs.out.gr.cell q0 (by simp)
        have hc1 := hrs.out.gr.cell q1 (by simp)
        have hc2 := hrs.out.gr.cell q2 (by simp)
        have HST := Lib.hid (fun hs => HSTAY.out j tj htj hs)
        have HTN := Lib.hid (fun hs hf => HTURN.out j tj htj hs hf)
        have htok : tj.Ok := kids_ok' HOK.out (List.mem_of_getElem? htj)
        have HCALL := Lib.hid (HI.out tj (List.mem_of_getElem? htj) a2 b2 A2 k2 c2)
        have HPJ := Lib.hid hpj
        obtain ⟨wp, hwp⟩ : ∃ wp, wr.alloc (.cells #[.int .u8 a2, .int .u8 b2, .slice A2 k2 c2] TN) = wp := ⟨_, rfl⟩
        obtain ⟨pz, hpz⟩ : ∃ pz, wr.heap.size = pz := ⟨_, rfl⟩
        have gwp : wr.grownBy wp none := by rw [← hwp]; exact World.grownBy_alloc _ _ _
        have RP0 := Lib.hid (hrs.out.grown gwp)
        have CP := Lib.hid (show C3 wp pz (.int .u8 a2) (.int .u8 b2) (.slice A2 k2 c2) TN by rw [← hwp, ← hpz]; exact c3_new _ _ _ _ _)
        have HAP : Hid (∀ (w' : World) (x : Nat), RS S h w w' a b (.slice (some ⟨gA, 0, none⟩) k c) ua ub (.slice UA uk uc) (.slice PA pn pc) j ((repK t v u).take j) ys → x < w.heap.size → S x → Apart S h (.slice PA pn pc) x) := Lib.hid (fun w' x r hx hs => ⟨.inl hs, by omega, fun g hg e => by have := (r.row.lt g hg).1; omega⟩)
        have n1p := RP0.out.cn.c1
        have p0 := CP.out.c0
        have p1 := CP.out.c1
        have p2 := CP.out.c2
        have HFREE := Lib.hid (sfree_any tj.size tj S a2 b2 A2 k2 c2 v wp (Nat.le_refl _) htok hv0 (hpj.grown RP0.out.gr))
        obtain ⟨z, hz⟩ : ∃ z, tj.free v = z := ⟨_, rfl⟩
        rw [hz] at HFREE
        have HZ := Lib.hid hz
        clear htj hxj hpj q0 q1 q2 hcell hz gwp htok
        by_cases hskip : j = 1 ∧ b = v
        · obtain ⟨hj1, rfl⟩ := hskip
          subst hj1
          have hbb : (b == b) = true := by simp
          have HKJ := Lib.hid (HST.out (.inl ⟨rfl, rfl⟩)).1
          have HGJ := Lib.hid (all_step (HST.out (.inl ⟨rfl, rfl⟩)).2)
          have HPA : Hid (SN wp (Apart S h (.slice PA pn pc)) tj (a2, b2, .slice A2 k2 c2)) := Lib.hid (HPJ.out.keep (fun x _ hl => RP0.out.gr.block x hl (by simp)) (fun x hx hl => HAP.out wp x RP0.out hl hx) _ _)
          have o2 := RP0.out.co.c2
          have hlt4 := RP0.out.co.lt
          have own1 := (RP0.out.grown (World.grownBy_alloc wp (.cells #[.int .u8 a2, .int .u8 b2, .slice A2 k2 c2] TN) none)).row
          go_wp2_with (at_builtin; refine wpList_append_own_at _ rfl _ _ 55 rfl (h + 3) TN i0 (.agg #[.int .u8 0, .int .u8 0, .slice none 0 0]) 3 32 Tryz.underlying55 hi0 hz0 hz1 hz2 rfl (by decide) _ 1 (flat3 ys) rfl own1 ⟨wp.heap.size, 0, none⟩ 1 1 [.int .u8 a2, .int .u8 b2, .slice A2 k2 c2] rfl rfl ?n1_1 ?n1_2 ?n1_3 ?n1_4 ?n1_5 ?_)
          try case n1_1 => exact cell3_new _ _ _ _ _
          try case n1_2 => simp [Value.oneCell']
          try case n1_3 => simp only [maxLen]; omega
          try case n1_4 => omega
          try case n1_5 => first | omega | (rw [World.size_alloc]; omega)
          intro v8 w8 hown8 hg8 _ hat8
          obtain ⟨A8, k8, c8, rfl⟩ := own_form hown8
          have RP := (RP0.out.grown (World.grownBy_alloc wp (.cells #[.int .u8 a2, .int .u8 b2, .slice A2 k2 c2] TN) none)).push hown8 hg8 (by rw [World.size_alloc]; exact hat8) (HPA.out.grown (World.grownBy_alloc wp (.cells #[.int .u8 a2, .int .u8 b2, .slice A2 k2 c2] TN) none))
          rw [take_snoc5 HKJ.out] at RP
          have HRP := Lib.hid RP
          have HO8 := Lib.hid ((RP0.out.co.alloc (.cells #[.int .u8 a2, .int .u8 b2, .slice A2 k2 c2] TN)).grown hg8 (fun e => RP0.out.ap _ e.symm rfl))
          have s2 := HO8.out.c2
          have sf := HO8.out.f 2
          clear RP hown8 hg8 hat8 own1 o2 hlt4
          go_wp2_with fail
          go_roundw
          case rel => exact ⟨1 + 1, _, A8, k8, c8, _, by omega, by go_num, rfl, Lib.hid (by rw [HGJ.out, ← hgd.out]; simp), HRP⟩
          case measure => simp [intOf]; omega
        · obtain ⟨jb, hjb⟩ : ∃ x, ((j : Int) == 1) = x := ⟨_, rfl⟩
          obtain ⟨bb, hbb⟩ : ∃ x, (b == v) = x := ⟨_, rfl⟩
          have hjbb : (jb && bb) = false := by
            rw [← hjb, ← hbb]
            cases h1 : ((j : Int) == 1) <;> cases h2 : (b == v) <;> try rfl
            rw [beq_iff_eq] at h1 h2
            exact absurd ⟨by omega, h2⟩ hskip
          have HSK := Lib.hid hskip
          clear hskip
          cases jb
          · cases bb
            · --1
              try clear hjbb
              go_wp2_with fail
              refine HFREE.out.mono ?_
              rintro e wf ⟨rfl, hgf⟩
              have RF := Lib.hid (RP0.out.grown hgf)
              have CF := Lib.hid (CP.out.grown hgf (by simp))
              clear hgf p0 p1 p2 n1p
              have p0 := CF.out.c0
              have p1 := CF.out.c1
              have p2 := CF.out.c2
              have HPF : Hid (SN wf (Apart S h (.slice PA pn pc)) tj (a2, b2, .slice A2 k2 c2)) := Lib.hid (HPJ.out.keep (fun x _ hl => RF.out.gr.block x hl (by simp)) (fun x hx hl => HAP.out wf x RF.out hl hx) _ _)
              cases z
              · have HKJ := Lib.hid (HST.out (.inr HZ.out)).1
                have HGJ := Lib.hid (all_step (HST.out (.inr HZ.out)).2)
                have o2 := RF.out.co.c2
                have hlt4 := RF.out.co.lt
                have own1 := (RF.out.grown (World.grownBy_alloc wf (.cells #[.int .u8 a2, .int .u8 b2, .slice A2 k2 c2] TN) none)).row
                go_wp2_with (at_builtin; refine wpList_append_own_at _ rfl _ _ 55 rfl (h + 3) TN i0 (.agg #[.int .u8 0, .int .u8 0, .slice none 0 0]) 3 32 Tryz.underlying55 hi0 hz0 hz1 hz2 rfl (by decide) _ j (flat3 ys) rfl own1 ⟨wf.heap.size, 0, none⟩ 1 1 [.int .u8 a2, .int .u8 b2, .slice A2 k2 c2] rfl rfl ?n2_1 ?n2_2 ?n2_3 ?n2_4 ?n2_5 ?_)
                try case n2_1 => exact cell3_new _ _ _ _ _
                try case n2_2 => simp [Value.oneCell']
                try case n2_3 => simp only [maxLen]; omega
                try case n2_4 => omega
                try case n2_5 => first | omega | (rw [World.size_alloc]; omega)
                intro v8 w8 hown8 hg8 _ hat8
                obtain ⟨A8, k8, c8, rfl⟩ := own_form hown8
                have RP := (RF.out.grown (World.grownBy_alloc wf (.cells #[.int .u8 a2, .int .u8 b2, .slice A2 k2 c2] TN) none)).push hown8 hg8 (by rw [World.size_alloc]; exact hat8) (HPF.out.grown (World.grownBy_alloc wf (.cells #[.int .u8 a2, .int .u8 b2, .slice A2 k2 c2] TN) none))
                rw [take_snoc5 HKJ.out] at RP
                have HRP := Lib.hid RP
                have HO8 := Lib.hid ((RF.out.co.alloc (.cells #[.int .u8 a2, .int .u8 b2, .slice A2 k2 c2] TN)).grown hg8 (fun e => RF.out.ap _ e.symm rfl))
                have s2 := HO8.out.c2
                have sf := HO8.out.f 2
                clear RP hown8 hg8 hat8 own1 o2 hlt4
                go_wp2_with fail
                go_roundw
                case rel => exact ⟨j + 1, _, A8, k8, c8, _, by omega, by go_num, rfl, Lib.hid (by rw [HGJ.out, ← hgd.out]; simp), HRP⟩
                case measure => simp [intOf]; omega
              · have HREP := (HTN.out HSK.out HZ.out)
                have HKJ := Lib.hid HREP.1
                have HGJ := Lib.hid (all_step HREP.2)
                clear HREP
                have hj0 : ((j : Int) == 0) = true := by (have h1 : ¬ j = 1 := (fun e => by (subst e; simp at hjb)); rw [beq_iff_eq]; omega)
                obtain ⟨oz, hoz⟩ : ∃ oz, (!tj.binds v u) = oz := ⟨_, rfl⟩
                rw [hoz] at HGJ HCALL
                have HOZ := Lib.hid hoz
                clear hoz
                have u0 := RF.out.cu.c0
                have u1 := RF.out.cu.c1
                have u2 := RF.out.cu.c2
                go_wp2_with fail
                refine (HCALL.out wf RF.out.gr (HPJ.out.grown RF.out.gr)).mono ?_
                rintro e w7 ⟨a3, b3, A3, k3, c3, rfl, hg7, hsn7⟩
                have HG7 := Lib.hid hg7
                have HS7 := Lib.hid hsn7
                clear hg7 hsn7 u0 u1 u2 p0 p1 p2
                obtain ⟨wq, hwq⟩ : ∃ wq, w7.alloc (.cells #[.int .u8 a3, .int .u8 b3, .slice A3 k3 c3] TN) = wq := ⟨_, rfl⟩
                obtain ⟨qz, hqz⟩ : ∃ qz, w7.heap.size = qz := ⟨_, rfl⟩
                have gwq : w7.grownBy wq none := by rw [← hwq]; exact World.grownBy_alloc _ _ _
                have RQ := Lib.hid (RF.out.grown (HG7.out.trans gwq))
                have CQ := Lib.hid (show C3 wq qz (.int .u8 a3) (.int .u8 b3) (.slice A3 k3 c3) TN by rw [← hwq, ← hqz]; exact c3_new _ _ _ _ _)
                have HPQ : Hid (SN wq (Apart S h (.slice PA pn pc)) (tj.rep v u) (a3, b3, .slice A3 k3 c3)) := Lib.hid ((HS7.out.grown gwq).keep (fun _ _ _ => rfl) (fun x hx hl => RF.out.apart_new hS hx) _ _)
                have p0 := CQ.out.c0
                have p1 := CQ.out.c1
                have p2 := CQ.out.c2
                have n1p := RQ.out.cn.c1
                clear gwq HS7 HG7
                have hgt : gd = true := by
                  have hj9 : j = 0 := by (rw [beq_iff_eq] at hj0; omega)
                  rw [hgd.out, hj9]; simp
                subst hgt
                cases oz
                · have o2 := RQ.out.co.c2
                  have hlt4 := RQ.out.co.lt
                  have own1 := (RQ.out.grown (World.grownBy_alloc wq (.cells #[.int .u8 a3, .int .u8 b3, .slice A3 k3 c3] TN) none)).row
                  go_wp2_with (at_builtin; refine wpList_append_own_at _ rfl _ _ 55 rfl (h + 3) TN i0 (.agg #[.int .u8 0, .int .u8 0, .slice none 0 0]) 3 32 Tryz.underlying55 hi0 hz0 hz1 hz2 rfl (by decide) _ j (flat3 ys) rfl own1 ⟨wq.heap.size, 0, none⟩ 1 1 [.int .u8 a3, .int .u8 b3, .slice A3 k3 c3] rfl rfl ?n5_1 ?n5_2 ?n5_3 ?n5_4 ?n5_5 ?_)
                  try case n5_1 => exact cell3_new _ _ _ _ _
                  try case n5_2 => simp [Value.oneCell']
                  try case n5_3 => simp only [maxLen]; omega
                  try case n5_4 => omega
                  try case n5_5 => first | omega | (rw [World.size_alloc]; omega)
                  intro v8 w8 hown8 hg8 _ hat8
                  obtain ⟨A8, k8, c8, rfl⟩ := own_form hown8
                  have RP := (RQ.out.grown (World.grownBy_alloc wq (.cells #[.int .u8 a3, .int .u8 b3, .slice A3 k3 c3] TN) none)).push hown8 hg8 (by rw [World.size_alloc]; exact hat8) (HPQ.out.grown (World.grownBy_alloc wq (.cells #[.int .u8 a3, .int .u8 b3, .slice A3 k3 c3] TN) none))
                  rw [take_snoc5 HKJ.out] at RP
                  have HRP := Lib.hid RP
                  have HO8 := Lib.hid ((RQ.out.co.alloc (.cells #[.int .u8 a3, .int .u8 b3, .slice A3 k3 c3] TN)).grown hg8 (fun e => RQ.out.ap _ e.symm rfl))
                  have s2 := HO8.out.c2
                  have sf := HO8.out.f 2
                  clear RP hown8 hg8 hat8 own1 o2 hlt4
                  go_wp2_with fail
                  go_roundw
                  case rel => exact ⟨j + 1, _, A8, k8, c8, _, by omega, by go_num, rfl, Lib.hid (good12 HGJ.out hgd.out hj0), HRP⟩
                  case measure => simp [intOf]; omega
                · have o2 := RQ.out.co.c2
                  have hlt4 := RQ.out.co.lt
                  have own1 := (RQ.out.grown (World.grownBy_alloc wq (.cells #[.int .u8 a3, .int .u8 b3, .slice A3 k3 c3] TN) none)).row
                  go_wp2_with (at_builtin; refine wpList_append_own_at _ rfl _ _ 55 rfl (h + 3) TN i0 (.agg #[.int .u8 0, .int .u8 0, .slice none 0 0]) 3 32 Tryz.underlying55 hi0 hz0 hz1 hz2 rfl (by decide) _ j (flat3 ys) rfl own1 ⟨wq.heap.size, 0, none⟩ 1 1 [.int .u8 a3, .int .u8 b3, .slice A3 k3 c3] rfl rfl ?n6_1 ?n6_2 ?n6_3 ?n6_4 ?n6_5 ?_)
                  try case n6_1 => exact cell3_new _ _ _ _ _
                  try case n6_2 => simp [Value.oneCell']
                  try case n6_3 => simp only [maxLen]; omega
                  try case n6_4 => omega
                  try case n6_5 => first | omega | (rw [World.size_alloc]; omega)
                  intro v8 w8 hown8 hg8 _ hat8
                  obtain ⟨A8, k8, c8, rfl⟩ := own_form hown8
                  have RP := (RQ.out.grown (World.grownBy_alloc wq (.cells #[.int .u8 a3, .int .u8 b3, .slice A3 k3 c3] TN) none)).push hown8 hg8 (by rw [World.size_alloc]; exact hat8) (HPQ.out.grown (World.grownBy_alloc wq (.cells #[.int .u8 a3, .int .u8 b3, .slice A3 k3 c3] TN) none))
                  rw [take_snoc5 HKJ.out] at RP
                  have HRP := Lib.hid RP
                  have HO8 := Lib.hid ((RQ.out.co.alloc (.cells #[.int .u8 a3, .int .u8 b3, .slice A3 k3 c3] TN)).grown hg8 (fun e => RQ.out.ap _ e.symm rfl))
                  have s2 := HO8.out.c2
                  have sf := HO8.out.f 2
                  clear RP hown8 hg8 hat8 own1 o2 hlt4
                  go_wp2_with fail
                  go_roundw
                  case rel => exact ⟨j + 1, _, A8, k8, c8, _, by omega, by go_num, rfl, Lib.hid (good12 HGJ.out hgd.out hj0), HRP⟩
                  case measure => simp [intOf]; omega

            · --2
              try clear hjbb
              go_wp2_with fail
              refine HFREE.out.mono ?_
              rintro e wf ⟨rfl, hgf⟩
              have RF := Lib.hid (RP0.out.grown hgf)
              have CF := Lib.hid (CP.out.grown hgf (by simp))
              clear hgf p0 p1 p2 n1p
              have p0 := CF.out.c0
              have p1 := CF.out.c1
              have p2 := CF.out.c2
              have HPF : Hid (SN wf (Apart S h (.slice PA pn pc)) tj (a2, b2, .slice A2 k2 c2)) := Lib.hid (HPJ.out.keep (fun x _ hl => RF.out.gr.block x hl (by simp)) (fun x hx hl => HAP.out wf x RF.out hl hx) _ _)
              cases z
              · have HKJ := Lib.hid (HST.out (.inr HZ.out)).1
                have HGJ := Lib.hid (all_step (HST.out (.inr HZ.out)).2)
                have o2 := RF.out.co.c2
                have hlt4 := RF.out.co.lt
                have own1 := (RF.out.grown (World.grownBy_alloc wf (.cells #[.int .u8 a2, .int .u8 b2, .slice A2 k2 c2] TN) none)).row
                go_wp2_with (at_builtin; refine wpList_append_own_at _ rfl _ _ 55 rfl (h + 3) TN i0 (.agg #[.int .u8 0, .int .u8 0, .slice none 0 0]) 3 32 Tryz.underlying55 hi0 hz0 hz1 hz2 rfl (by decide) _ j (flat3 ys) rfl own1 ⟨wf.heap.size, 0, none⟩ 1 1 [.int .u8 a2, .int .u8 b2, .slice A2 k2 c2] rfl rfl ?n3_1 ?n3_2 ?n3_3 ?n3_4 ?n3_5 ?_)
                try case n3_1 => exact cell3_new _ _ _ _ _
                try case n3_2 => simp [Value.oneCell']
                try case n3_3 => simp only [maxLen]; omega
                try case n3_4 => omega
                try case n3_5 => first | omega | (rw [World.size_alloc]; omega)
                intro v8 w8 hown8 hg8 _ hat8
                obtain ⟨A8, k8, c8, rfl⟩ := own_form hown8
                have RP := (RF.out.grown (World.grownBy_alloc wf (.cells #[.int .u8 a2, .int .u8 b2, .slice A2 k2 c2] TN) none)).push hown8 hg8 (by rw [World.size_alloc]; exact hat8) (HPF.out.grown (World.grownBy_alloc wf (.cells #[.int .u8 a2, .int .u8 b2, .slice A2 k2 c2] TN) none))
                rw [take_snoc5 HKJ.out] at RP
                have HRP := Lib.hid RP
                have HO8 := Lib.hid ((RF.out.co.alloc (.cells #[.int .u8 a2, .int .u8 b2, .slice A2 k2 c2] TN)).grown hg8 (fun e => RF.out.ap _ e.symm rfl))
                have s2 := HO8.out.c2
                have sf := HO8.out.f 2
                clear RP hown8 hg8 hat8 own1 o2 hlt4
                go_wp2_with fail
                go_roundw
                case rel => exact ⟨j + 1, _, A8, k8, c8, _, by omega, by go_num, rfl, Lib.hid (by rw [HGJ.out, ← hgd.out]; simp), HRP⟩
                case measure => simp [intOf]; omega
              · have HREP := (HTN.out HSK.out HZ.out)
                have HKJ := Lib.hid HREP.1
                have HGJ := Lib.hid (all_step HREP.2)
                clear HREP
                have hj0 : ((j : Int) == 0) = true := by (have h1 : ¬ j = 1 := (fun e => by (subst e; simp at hjb)); rw [beq_iff_eq]; omega)
                obtain ⟨oz, hoz⟩ : ∃ oz, (!tj.binds v u) = oz := ⟨_, rfl⟩
                rw [hoz] at HGJ HCALL
                have HOZ := Lib.hid hoz
                clear hoz
                have u0 := RF.out.cu.c0
                have u1 := RF.out.cu.c1
                have u2 := RF.out.cu.c2
                go_wp2_with fail
                refine (HCALL.out wf RF.out.gr (HPJ.out.grown RF.out.gr)).mono ?_
                rintro e w7 ⟨a3, b3, A3, k3, c3, rfl, hg7, hsn7⟩
                have HG7 := Lib.hid hg7
                have HS7 := Lib.hid hsn7
                clear hg7 hsn7 u0 u1 u2 p0 p1 p2
                obtain ⟨wq, hwq⟩ : ∃ wq, w7.alloc (.cells #[.int .u8 a3, .int .u8 b3, .slice A3 k3 c3] TN) = wq := ⟨_, rfl⟩
                obtain ⟨qz, hqz⟩ : ∃ qz, w7.heap.size = qz := ⟨_, rfl⟩
                have gwq : w7.grownBy wq none := by rw [← hwq]; exact World.grownBy_alloc _ _ _
                have RQ := Lib.hid (RF.out.grown (HG7.out.trans gwq))
                have CQ := Lib.hid (show C3 wq qz (.int .u8 a3) (.int .u8 b3) (.slice A3 k3 c3) TN by rw [← hwq, ← hqz]; exact c3_new _ _ _ _ _)
                have HPQ : Hid (SN wq (Apart S h (.slice PA pn pc)) (tj.rep v u) (a3, b3, .slice A3 k3 c3)) := Lib.hid ((HS7.out.grown gwq).keep (fun _ _ _ => rfl) (fun x hx hl => RF.out.apart_new hS hx) _ _)
                have p0 := CQ.out.c0
                have p1 := CQ.out.c1
                have p2 := CQ.out.c2
                have n1p := RQ.out.cn.c1
                clear gwq HS7 HG7
                have hgt : gd = true := by
                  have hj9 : j = 0 := by (rw [beq_iff_eq] at hj0; omega)
                  rw [hgd.out, hj9]; simp
                subst hgt
                cases oz
                · have o2 := RQ.out.co.c2
                  have hlt4 := RQ.out.co.lt
                  have own1 := (RQ.out.grown (World.grownBy_alloc wq (.cells #[.int .u8 a3, .int .u8 b3, .slice A3 k3 c3] TN) none)).row
                  go_wp2_with (at_builtin; refine wpList_append_own_at _ rfl _ _ 55 rfl (h + 3) TN i0 (.agg #[.int .u8 0, .int .u8 0, .slice none 0 0]) 3 32 Tryz.underlying55 hi0 hz0 hz1 hz2 rfl (by decide) _ j (flat3 ys) rfl own1 ⟨wq.heap.size, 0, none⟩ 1 1 [.int .u8 a3, .int .u8 b3, .slice A3 k3 c3] rfl rfl ?n7_1 ?n7_2 ?n7_3 ?n7_4 ?n7_5 ?_)
                  try case n7_1 => exact cell3_new _ _ _ _ _
                  try case n7_2 => simp [Value.oneCell']
                  try case n7_3 => simp only [maxLen]; omega
                  try case n7_4 => omega
                  try case n7_5 => first | omega | (rw [World.size_alloc]; omega)
                  intro v8 w8 hown8 hg8 _ hat8
                  obtain ⟨A8, k8, c8, rfl⟩ := own_form hown8
                  have RP := (RQ.out.grown (World.grownBy_alloc wq (.cells #[.int .u8 a3, .int .u8 b3, .slice A3 k3 c3] TN) none)).push hown8 hg8 (by rw [World.size_alloc]; exact hat8) (HPQ.out.grown (World.grownBy_alloc wq (.cells #[.int .u8 a3, .int .u8 b3, .slice A3 k3 c3] TN) none))
                  rw [take_snoc5 HKJ.out] at RP
                  have HRP := Lib.hid RP
                  have HO8 := Lib.hid ((RQ.out.co.alloc (.cells #[.int .u8 a3, .int .u8 b3, .slice A3 k3 c3] TN)).grown hg8 (fun e => RQ.out.ap _ e.symm rfl))
                  have s2 := HO8.out.c2
                  have sf := HO8.out.f 2
                  clear RP hown8 hg8 hat8 own1 o2 hlt4
                  go_wp2_with fail
                  go_roundw
                  case rel => exact ⟨j + 1, _, A8, k8, c8, _, by omega, by go_num, rfl, Lib.hid (good12 HGJ.out hgd.out hj0), HRP⟩
                  case measure => simp [intOf]; omega
                · have o2 := RQ.out.co.c2
                  have hlt4 := RQ.out.co.lt
                  have own1 := (RQ.out.grown (World.grownBy_alloc wq (.cells #[.int .u8 a3, .int .u8 b3, .slice A3 k3 c3] TN) none)).row
                  go_wp2_with (at_builtin; refine wpList_append_own_at _ rfl _ _ 55 rfl (h + 3) TN i0 (.agg #[.int .u8 0, .int .u8 0, .slice none 0 0]) 3 32 Tryz.underlying55 hi0 hz0 hz1 hz2 rfl (by decide) _ j (flat3 ys) rfl own1 ⟨wq.heap.size, 0, none⟩ 1 1 [.int .u8 a3, .int .u8 b3, .slice A3 k3 c3] rfl rfl ?n8_1 ?n8_2 ?n8_3 ?n8_4 ?n8_5 ?_)
                  try case n8_1 => exact cell3_new _ _ _ _ _
                  try case n8_2 => simp [Value.oneCell']
                  try case n8_3 => simp only [maxLen]; omega
                  try case n8_4 => omega
                  try case n8_5 => first | omega | (rw [World.size_alloc]; omega)
                  intro v8 w8 hown8 hg8 _ hat8
                  obtain ⟨A8, k8, c8, rfl⟩ := own_form hown8
                  have RP := (RQ.out.grown (World.grownBy_alloc wq (.cells #[.int .u8 a3, .int .u8 b3, .slice A3 k3 c3] TN) none)).push hown8 hg8 (by rw [World.size_alloc]; exact hat8) (HPQ.out.grown (World.grownBy_alloc wq (.cells #[.int .u8 a3, .int .u8 b3, .slice A3 k3 c3] TN) none))
                  rw [take_snoc5 HKJ.out] at RP
                  have HRP := Lib.hid RP
                  have HO8 := Lib.hid ((RQ.out.co.alloc (.cells #[.int .u8 a3, .int .u8 b3, .slice A3 k3 c3] TN)).grown hg8 (fun e => RQ.out.ap _ e.symm rfl))
                  have s2 := HO8.out.c2
                  have sf := HO8.out.f 2
                  clear RP hown8 hg8 hat8 own1 o2 hlt4
                  go_wp2_with fail
                  go_roundw
                  case rel => exact ⟨j + 1, _, A8, k8, c8, _, by omega, by go_num, rfl, Lib.hid (good12 HGJ.out hgd.out hj0), HRP⟩
                  case measure => simp [intOf]; omega

          · cases bb
            · --3
              try clear hjbb
              go_wp2_with fail
              refine HFREE.out.mono ?_
              rintro e wf ⟨rfl, hgf⟩
              have RF := Lib.hid (RP0.out.grown hgf)
              have CF := Lib.hid (CP.out.grown hgf (by simp))
              clear hgf p0 p1 p2 n1p
              have p0 := CF.out.c0
              have p1 := CF.out.c1
              have p2 := CF.out.c2
              have HPF : Hid (SN wf (Apart S h (.slice PA pn pc)) tj (a2, b2, .slice A2 k2 c2)) := Lib.hid (HPJ.out.keep (fun x _ hl => RF.out.gr.block x hl (by simp)) (fun x hx hl => HAP.out wf x RF.out hl hx) _ _)
              cases z
              · have HKJ := Lib.hid (HST.out (.inr HZ.out)).1
                have HGJ := Lib.hid (all_step (HST.out (.inr HZ.out)).2)
                have o2 := RF.out.co.c2
                have hlt4 := RF.out.co.lt
                have own1 := (RF.out.grown (World.grownBy_alloc wf (.cells #[.int .u8 a2, .int .u8 b2, .slice A2 k2 c2] TN) none)).row
                go_wp2_with (at_builtin; refine wpList_append_own_at _ rfl _ _ 55 rfl (h + 3) TN i0 (.agg #[.int .u8 0, .int .u8 0, .slice none 0 0]) 3 32 Tryz.underlying55 hi0 hz0 hz1 hz2 rfl (by decide) _ j (flat3 ys) rfl own1 ⟨wf.heap.size, 0, none⟩ 1 1 [.int .u8 a2, .int .u8 b2, .slice A2 k2 c2] rfl rfl ?n4_1 ?n4_2 ?n4_3 ?n4_4 ?n4_5 ?_)
                try case n4_1 => exact cell3_new _ _ _ _ _
                try case n4_2 => simp [Value.oneCell']
                try case n4_3 => simp only [maxLen]; omega
                try case n4_4 => omega
                try case n4_5 => first | omega | (rw [World.size_alloc]; omega)
                intro v8 w8 hown8 hg8 _ hat8
                obtain ⟨A8, k8, c8, rfl⟩ := own_form hown8
                have RP := (RF.out.grown (World.grownBy_alloc wf (.cells #[.int .u8 a2, .int .u8 b2, .slice A2 k2 c2] TN) none)).push hown8 hg8 (by rw [World.size_alloc]; exact hat8) (HPF.out.grown (World.grownBy_alloc wf (.cells #[.int .u8 a2, .int .u8 b2, .slice A2 k2 c2] TN) none))
                rw [take_snoc5 HKJ.out] at RP
                have HRP := Lib.hid RP
                have HO8 := Lib.hid ((RF.out.co.alloc (.cells #[.int .u8 a2, .int .u8 b2, .slice A2 k2 c2] TN)).grown hg8 (fun e => RF.out.ap _ e.symm rfl))
                have s2 := HO8.out.c2
                have sf := HO8.out.f 2
                clear RP hown8 hg8 hat8 own1 o2 hlt4
                go_wp2_with fail
                go_roundw
                case rel => exact ⟨j + 1, _, A8, k8, c8, _, by omega, by go_num, rfl, Lib.hid (by rw [HGJ.out, ← hgd.out]; simp), HRP⟩
                case measure => simp [intOf]; omega
              · have HREP := (HTN.out HSK.out HZ.out)
                have HKJ := Lib.hid HREP.1
                have HGJ := Lib.hid (all_step HREP.2)
                clear HREP
                have hj0 : ((j : Int) == 0) = false := by (have h1 : j = 1 := (by (rw [beq_iff_eq] at hjb; omega)); rw [beq_eq_false_iff_ne]; omega)
                obtain ⟨oz, hoz⟩ : ∃ oz, (!tj.binds v u) = oz := ⟨_, rfl⟩
                rw [hoz] at HGJ HCALL
                have HOZ := Lib.hid hoz
                clear hoz
                have u0 := RF.out.cu.c0
                have u1 := RF.out.cu.c1
                have u2 := RF.out.cu.c2
                go_wp2_with fail
                refine (HCALL.out wf RF.out.gr (HPJ.out.grown RF.out.gr)).mono ?_
                rintro e w7 ⟨a3, b3, A3, k3, c3, rfl, hg7, hsn7⟩
                have HG7 := Lib.hid hg7
                have HS7 := Lib.hid hsn7
                clear hg7 hsn7 u0 u1 u2 p0 p1 p2
                obtain ⟨wq, hwq⟩ : ∃ wq, w7.alloc (.cells #[.int .u8 a3, .int .u8 b3, .slice A3 k3 c3] TN) = wq := ⟨_, rfl⟩
                obtain ⟨qz, hqz⟩ : ∃ qz, w7.heap.size = qz := ⟨_, rfl⟩
                have gwq : w7.grownBy wq none := by rw [← hwq]; exact World.grownBy_alloc _ _ _
                have RQ := Lib.hid (RF.out.grown (HG7.out.trans gwq))
                have CQ := Lib.hid (show C3 wq qz (.int .u8 a3) (.int .u8 b3) (.slice A3 k3 c3) TN by rw [← hwq, ← hqz]; exact c3_new _ _ _ _ _)
                have HPQ : Hid (SN wq (Apart S h (.slice PA pn pc)) (tj.rep v u) (a3, b3, .slice A3 k3 c3)) := Lib.hid ((HS7.out.grown gwq).keep (fun _ _ _ => rfl) (fun x hx hl => RF.out.apart_new hS hx) _ _)
                have p0 := CQ.out.c0
                have p1 := CQ.out.c1
                have p2 := CQ.out.c2
                have n1p := RQ.out.cn.c1
                clear gwq HS7 HG7
                cases gd
                · have o2 := RQ.out.co.c2
                  have hlt4 := RQ.out.co.lt
                  have own1 := (RQ.out.grown (World.grownBy_alloc wq (.cells #[.int .u8 a3, .int .u8 b3, .slice A3 k3 c3] TN) none)).row
                  go_wp2_with (at_builtin; refine wpList_append_own_at _ rfl _ _ 55 rfl (h + 3) TN i0 (.agg #[.int .u8 0, .int .u8 0, .slice none 0 0]) 3 32 Tryz.underlying55 hi0 hz0 hz1 hz2 rfl (by decide) _ j (flat3 ys) rfl own1 ⟨wq.heap.size, 0, none⟩ 1 1 [.int .u8 a3, .int .u8 b3, .slice A3 k3 c3] rfl rfl ?n9_1 ?n9_2 ?n9_3 ?n9_4 ?n9_5 ?_)
                  try case n9_1 => exact cell3_new _ _ _ _ _
                  try case n9_2 => simp [Value.oneCell']
                  try case n9_3 => simp only [maxLen]; omega
                  try case n9_4 => omega
                  try case n9_5 => first | omega | (rw [World.size_alloc]; omega)
                  intro v8 w8 hown8 hg8 _ hat8
                  obtain ⟨A8, k8, c8, rfl⟩ := own_form hown8
                  have RP := (RQ.out.grown (World.grownBy_alloc wq (.cells #[.int .u8 a3, .int .u8 b3, .slice A3 k3 c3] TN) none)).push hown8 hg8 (by rw [World.size_alloc]; exact hat8) (HPQ.out.grown (World.grownBy_alloc wq (.cells #[.int .u8 a3, .int .u8 b3, .slice A3 k3 c3] TN) none))
                  rw [take_snoc5 HKJ.out] at RP
                  have HRP := Lib.hid RP
                  have HO8 := Lib.hid ((RQ.out.co.alloc (.cells #[.int .u8 a3, .int .u8 b3, .slice A3 k3 c3] TN)).grown hg8 (fun e => RQ.out.ap _ e.symm rfl))
                  have s2 := HO8.out.c2
                  have sf := HO8.out.f 2
                  clear RP hown8 hg8 hat8 own1 o2 hlt4
                  go_wp2_with fail
                  go_roundw
                  case rel => exact ⟨j + 1, _, A8, k8, c8, _, by omega, by go_num, rfl, Lib.hid (good3 HGJ.out hgd.out hj0 (.inl ⟨rfl, rfl⟩)), HRP⟩
                  case measure => simp [intOf]; omega
                · cases oz
                  · have o2 := RQ.out.co.c2
                    have hlt4 := RQ.out.co.lt
                    have own1 := (RQ.out.grown (World.grownBy_alloc wq (.cells #[.int .u8 a3, .int .u8 b3, .slice A3 k3 c3] TN) none)).row
                    go_wp2_with (at_builtin; refine wpList_append_own_at _ rfl _ _ 55 rfl (h + 3) TN i0 (.agg #[.int .u8 0, .int .u8 0, .slice none 0 0]) 3 32 Tryz.underlying55 hi0 hz0 hz1 hz2 rfl (by decide) _ j (flat3 ys) rfl own1 ⟨wq.heap.size, 0, none⟩ 1 1 [.int .u8 a3, .int .u8 b3, .slice A3 k3 c3] rfl rfl ?n10_1 ?n10_2 ?n10_3 ?n10_4 ?n10_5 ?_)
                    try case n10_1 => exact cell3_new _ _ _ _ _
                    try case n10_2 => simp [Value.oneCell']
                    try case n10_3 => simp only [maxLen]; omega
                    try case n10_4 => omega
                    try case n10_5 => first | omega | (rw [World.size_alloc]; omega)
                    intro v8 w8 hown8 hg8 _ hat8
                    obtain ⟨A8, k8, c8, rfl⟩ := own_form hown8
                    have RP := (RQ.out.grown (World.grownBy_alloc wq (.cells #[.int .u8 a3, .int .u8 b3, .slice A3 k3 c3] TN) none)).push hown8 hg8 (by rw [World.size_alloc]; exact hat8) (HPQ.out.grown (World.grownBy_alloc wq (.cells #[.int .u8 a3, .int .u8 b3, .slice A3 k3 c3] TN) none))
                    rw [take_snoc5 HKJ.out] at RP
                    have HRP := Lib.hid RP
                    have HO8 := Lib.hid ((RQ.out.co.alloc (.cells #[.int .u8 a3, .int .u8 b3, .slice A3 k3 c3] TN)).grown hg8 (fun e => RQ.out.ap _ e.symm rfl))
                    have s2 := HO8.out.c2
                    have sf := HO8.out.f 2
                    clear RP hown8 hg8 hat8 own1 o2 hlt4
                    go_wp2_with fail
                    go_roundw
                    case rel => exact ⟨j + 1, _, A8, k8, c8, _, by omega, by go_num, rfl, Lib.hid (good3 HGJ.out hgd.out hj0 (.inr (.inl ⟨rfl, rfl⟩))), HRP⟩
                    case measure => simp [intOf]; omega
                  · by_cases hb0 : b = 0
                    · have hb1 : (b == 0) = true := by simp [hb0]
                      have HB00 := Lib.hid hb0
                      clear hb0
                      have o2 := RQ.out.co.c2
                      have hlt4 := RQ.out.co.lt
                      have own1 := (RQ.out.grown (World.grownBy_alloc wq (.cells #[.int .u8 a3, .int .u8 b3, .slice A3 k3 c3] TN) none)).row
                      go_wp2_with (at_builtin; refine wpList_append_own_at _ rfl _ _ 55 rfl (h + 3) TN i0 (.agg #[.int .u8 0, .int .u8 0, .slice none 0 0]) 3 32 Tryz.underlying55 hi0 hz0 hz1 hz2 rfl (by decide) _ j (flat3 ys) rfl own1 ⟨wq.heap.size, 0, none⟩ 1 1 [.int .u8 a3, .int .u8 b3, .slice A3 k3 c3] rfl rfl ?n11_1 ?n11_2 ?n11_3 ?n11_4 ?n11_5 ?_)
                      try case n11_1 => exact cell3_new _ _ _ _ _
                      try case n11_2 => simp [Value.oneCell']
                      try case n11_3 => simp only [maxLen]; omega
                      try case n11_4 => omega
                      try case n11_5 => first | omega | (rw [World.size_alloc]; omega)
                      intro v8 w8 hown8 hg8 _ hat8
                      obtain ⟨A8, k8, c8, rfl⟩ := own_form hown8
                      have RP := (RQ.out.grown (World.grownBy_alloc wq (.cells #[.int .u8 a3, .int .u8 b3, .slice A3 k3 c3] TN) none)).push hown8 hg8 (by rw [World.size_alloc]; exact hat8) (HPQ.out.grown (World.grownBy_alloc wq (.cells #[.int .u8 a3, .int .u8 b3, .slice A3 k3 c3] TN) none))
                      rw [take_snoc5 HKJ.out] at RP
                      have HRP := Lib.hid RP
                      have HO8 := Lib.hid ((RQ.out.co.alloc (.cells #[.int .u8 a3, .int .u8 b3, .slice A3 k3 c3] TN)).grown hg8 (fun e => RQ.out.ap _ e.symm rfl))
                      have s2 := HO8.out.c2
                      have sf := HO8.out.f 2
                      clear RP hown8 hg8 hat8 own1 o2 hlt4
                      go_wp2_with fail
                      go_roundw
                      case rel => exact ⟨j + 1, _, A8, k8, c8, _, by omega, by go_num, rfl, Lib.hid (good3 HGJ.out hgd.out hj0 (.inr (.inr (.inl ⟨rfl, rfl, HB00.out, rfl⟩)))), HRP⟩
                      case measure => simp [intOf]; omega
                    · have hb1 : (b == 0) = false := by simp [hb0]
                      have hbp : 0 < b := by have := HB0.out; omega
                      have HFU := Lib.hid (sfree_any u.size u S ua ub UA uk uc b wq (Nat.le_refl _) huok hbp (HU.out.grown RQ.out.gr))
                      obtain ⟨fu, hfu⟩ : ∃ fu, u.free b = fu := ⟨_, rfl⟩
                      rw [hfu] at HFU HGJ
                      have u0 := RQ.out.cu.c0
                      have u1 := RQ.out.cu.c1
                      have u2 := RQ.out.cu.c2
                      clear hfu
                      go_wp2_with fail
                      refine HFU.out.mono ?_
                      rintro e w9 ⟨rfl, hg8⟩
                      have R8 := Lib.hid (RQ.out.grown hg8)
                      have C8 := Lib.hid (CQ.out.grown hg8 (by simp))
                      have HP8 := Lib.hid (HPQ.out.grown hg8)
                      clear hg8 u0 u1 u2 p0 p1 p2 n1p
                      have p0 := C8.out.c0
                      have p1 := C8.out.c1
                      have p2 := C8.out.c2
                      cases fu
                      · have o2 := R8.out.co.c2
                        have hlt4 := R8.out.co.lt
                        have own1 := (R8.out.grown (World.grownBy_alloc w9 (.cells #[.int .u8 a3, .int .u8 b3, .slice A3 k3 c3] TN) none)).row
                        go_wp2_with (at_builtin; refine wpList_append_own_at _ rfl _ _ 55 rfl (h + 3) TN i0 (.agg #[.int .u8 0, .int .u8 0, .slice none 0 0]) 3 32 Tryz.underlying55 hi0 hz0 hz1 hz2 rfl (by decide) _ j (flat3 ys) rfl own1 ⟨w9.heap.size, 0, none⟩ 1 1 [.int .u8 a3, .int .u8 b3, .slice A3 k3 c3] rfl rfl ?n12_1 ?n12_2 ?n12_3 ?n12_4 ?n12_5 ?_)
                        try case n12_1 => exact cell3_new _ _ _ _ _
                        try case n12_2 => simp [Value.oneCell']
                        try case n12_3 => simp only [maxLen]; omega
                        try case n12_4 => omega
                        try case n12_5 => first | omega | (rw [World.size_alloc]; omega)
                        intro v8 w8 hown8 hg8 _ hat8
                        obtain ⟨A8, k8, c8, rfl⟩ := own_form hown8
                        have RP := (R8.out.grown (World.grownBy_alloc w9 (.cells #[.int .u8 a3, .int .u8 b3, .slice A3 k3 c3] TN) none)).push hown8 hg8 (by rw [World.size_alloc]; exact hat8) (HP8.out.grown (World.grownBy_alloc w9 (.cells #[.int .u8 a3, .int .u8 b3, .slice A3 k3 c3] TN) none))
                        rw [take_snoc5 HKJ.out] at RP
                        have HRP := Lib.hid RP
                        have HO8 := Lib.hid ((R8.out.co.alloc (.cells #[.int .u8 a3, .int .u8 b3, .slice A3 k3 c3] TN)).grown hg8 (fun e => R8.out.ap _ e.symm rfl))
                        have s2 := HO8.out.c2
                        have sf := HO8.out.f 2
                        clear RP hown8 hg8 hat8 own1 o2 hlt4
                        go_wp2_with fail
                        go_roundw
                        case rel => exact ⟨j + 1, _, A8, k8, c8, _, by omega, by go_num, rfl, Lib.hid (good3 HGJ.out hgd.out hj0 (.inr (.inr (.inr ⟨rfl, rfl, hb0, rfl⟩)))), HRP⟩
                        case measure => simp [intOf]; omega
                      · have o2 := R8.out.co.c2
                        have hlt4 := R8.out.co.lt
                        have own1 := (R8.out.grown (World.grownBy_alloc w9 (.cells #[.int .u8 a3, .int .u8 b3, .slice A3 k3 c3] TN) none)).row
                        go_wp2_with (at_builtin; refine wpList_append_own_at _ rfl _ _ 55 rfl (h + 3) TN i0 (.agg #[.int .u8 0, .int .u8 0, .slice none 0 0]) 3 32 Tryz.underlying55 hi0 hz0 hz1 hz2 rfl (by decide) _ j (flat3 ys) rfl own1 ⟨w9.heap.size, 0, none⟩ 1 1 [.int .u8 a3, .int .u8 b3, .slice A3 k3 c3] rfl rfl ?n13_1 ?n13_2 ?n13_3 ?n13_4 ?n13_5 ?_)
                        try case n13_1 => exact cell3_new _ _ _ _ _
                        try case n13_2 => simp [Value.oneCell']
                        try case n13_3 => simp only [maxLen]; omega
                        try case n13_4 => omega
                        try case n13_5 => first | omega | (rw [World.size_alloc]; omega)
                        intro v8 w8 hown8 hg8 _ hat8
                        obtain ⟨A8, k8, c8, rfl⟩ := own_form hown8
                        have RP := (R8.out.grown (World.grownBy_alloc w9 (.cells #[.int .u8 a3, .int .u8 b3, .slice A3 k3 c3] TN) none)).push hown8 hg8 (by rw [World.size_alloc]; exact hat8) (HP8.out.grown (World.grownBy_alloc w9 (.cells #[.int .u8 a3, .int .u8 b3, .slice A3 k3 c3] TN) none))
                        rw [take_snoc5 HKJ.out] at RP
                        have HRP := Lib.hid RP
                        have HO8 := Lib.hid ((R8.out.co.alloc (.cells #[.int .u8 a3, .int .u8 b3, .slice A3 k3 c3] TN)).grown hg8 (fun e => R8.out.ap _ e.symm rfl))
                        have s2 := HO8.out.c2
                        have sf := HO8.out.f 2
                        clear RP hown8 hg8 hat8 own1 o2 hlt4
                        go_wp2_with fail
                        go_roundw
                        case rel => exact ⟨j + 1, _, A8, k8, c8, _, by omega, by go_num, rfl, Lib.hid (good3 HGJ.out hgd.out hj0 (.inr (.inr (.inr ⟨rfl, rfl, hb0, rfl⟩)))), HRP⟩
                        case measure => simp [intOf]; omega

            · cases hjbb
      · have hjk : j = k := by omega
        have HJK := Lib.hid hjk
        have HRS := hrs
        obtain ⟨PV, hPV⟩ : ∃ x, Value.slice PA pn pc = x := ⟨_, rfl⟩
        have c0 := hrs.out.co.c0
        have c1 := hrs.out.co.c1
        have c2 := hrs.out.co.c2
        have r0 := hrs.out.cr.c0
        have r1 := hrs.out.cr.c1
        have r2 := hrs.out.cr.c2
        have f0 := hrs.out.cr.f 0
        have f1 := hrs.out.cr.f 1
        have f2 := hrs.out.cr.f 2
        have HEND := Lib.hid (hrs.out.ended hS)
        have HC3 := Lib.hid (hrs.out.cr.laid (x' := .int .u8 a) (y' := .int .u8 b) (z' := .slice PA pn pc))
        have hgd2 : Hid (gd = res) := Lib.hid (by
          rw [hgd.out, HJK.out, List.take_of_length_le (by rw [HGLL.out, HLEN.out, HKL.out]; exact Nat.le_refl _), HGL.out, HRES.out])
        have hks : Hid ((repK t v u).take j = repK t v u) := Lib.hid (by rw [HJK.out, List.take_of_length_le (by rw [HRKL.out, HLEN.out, HKL.out]; exact Nat.le_refl _)])
        clear hjk hPV hrs
        go_wp2_with fail
        clear c0 c1 c2 r0 r1 r2 f0 f1 f2
        have n0 := HC3.out.c0
        have n1 := HC3.out.c1
        have n2 := HC3.out.c2
        unfold laid3 at n0 n1 n2
        refine bodyPost_ret (v := .tuple #[.agg #[.int .u8 a, .int .u8 b, .slice PA pn pc], .bool gd]) (by simp [results, Tryz.results30, go_sem, n0, n1, n2]) rfl ?_
        obtain ⟨e1, e2, e3, e4⟩ := HEND.out
        rw [hks.out] at e3
        exact ⟨_, _, _, _, _, by rw [hgd2.out], e4, HSN.out _ _ _ _ e1 e2 e3⟩
  · --2
    try have hbv := HH9 rfl
    clear HH9
    go_enter Tryz.func30, Tryz.ntmps30
    go_wp2_with fail
    go_loopw [9, 33] (fun q i wr => ∃ (j : Nat) (gd : Bool) (PA : Option Addr) (pn pc : Nat) (ys : List (Int × Int × Value)), j ≤ k ∧ i = .int .i64 j ∧ q = .bool gd ∧ Hid (gd = ((gdL t v u).take j).all id) ∧ Hid (RS S h w wr a b (.slice A k c) ua ub (.slice UA uk uc) (.slice PA pn pc) j ((repK t v u).take j) ys)) (fun _ i _ => k - (intOf i).toNat)
    case atStart => exact ⟨0, true, some ⟨h + 3, 0, none⟩, 0, 0, [], Nat.zero_le _, rfl, rfl, Lib.hid rfl, HR5⟩
    case round =>
      obtain ⟨j, gd, PA, pn, pc, ys, hj, rfl, rfl, hgd, hrs⟩ := hrel
      by_cases hlt : j < k
      · obtain ⟨gA, rfl, hgA, hcell⟩ := HROW.out (by omega)
        obtain ⟨tj, ⟨a2, b2, sv2⟩, htj, hxj, hpj⟩ := HA.out.get (j := j) (by have := HKL.out; omega)
        obtain ⟨A2, k2, c2, hsv⟩ := hpj.form
        simp only at hsv
        subst hsv
        obtain ⟨q0, q1, q2⟩ := hcell j _ hxj
        have hc0 := hrs.out.gr.cell q0 (by simp)
        have hc1 := hrs.out.gr.cell q1 (by simp)
        have hc2 := hrs.out.gr.cell q2 (by simp)
        have HST := Lib.hid (fun hs => HSTAY.out j tj htj hs)
        have HTN := Lib.hid (fun hs hf => HTURN.out j tj htj hs hf)
        have htok : tj.Ok := kids_ok' HOK.out (List.mem_of_getElem? htj)
        have HCALL := Lib.hid (HI.out tj (List.mem_of_getElem? htj) a2 b2 A2 k2 c2)
        have HPJ := Lib.hid hpj
        obtain ⟨wp, hwp⟩ : ∃ wp, wr.alloc (.cells #[.int .u8 a2, .int .u8 b2, .slice A2 k2 c2] TN) = wp := ⟨_, rfl⟩
        obtain ⟨pz, hpz⟩ : ∃ pz, wr.heap.size = pz := ⟨_, rfl⟩
        have gwp : wr.grownBy wp none := by rw [← hwp]; exact World.grownBy_alloc _ _ _
        have RP0 := Lib.hid (hrs.out.grown gwp)
        have CP := Lib.hid (show C3 wp pz (.int .u8 a2) (.int .u8 b2) (.slice A2 k2 c2) TN by rw [← hwp, ← hpz]; exact c3_new _ _ _ _ _)
        have HAP : Hid (∀ (w' : World) (x : Nat), RS S h w w' a b (.slice (some ⟨gA, 0, none⟩) k c) ua ub (.slice UA uk uc) (.slice PA pn pc) j ((repK t v u).take j) ys → x < w.heap.size → S x → Apart S h (.slice PA pn pc) x) := Lib.hid (fun w' x r hx hs => ⟨.inl hs, by omega, fun g hg e => by have := (r.row.lt g hg).1; omega⟩)
        have n1p := RP0.out.cn.c1
        have p0 := CP.out.c0
        have p1 := CP.out.c1
        have p2 := CP.out.c2
        have HFREE := Lib.hid (sfree_any tj.size tj S a2 b2 A2 k2 c2 v wp (Nat.le_refl _) htok hv0 (hpj.grown RP0.out.gr))
        obtain ⟨z, hz⟩ : ∃ z, tj.free v = z := ⟨_, rfl⟩
        rw [hz] at HFREE
        have HZ := Lib.hid hz
        clear htj hxj hpj q0 q1 q2 hcell hz gwp htok
        by_cases hskip : j = 1 ∧ b = v
        · obtain ⟨hj1, rfl⟩ := hskip
          subst hj1
          have hbb : (b == b) = true := by simp
          have HKJ := Lib.hid (HST.out (.inl ⟨rfl, rfl⟩)).1
          have HGJ := Lib.hid (all_step (HST.out (.inl ⟨rfl, rfl⟩)).2)
          have HPA : Hid (SN wp (Apart S h (.slice PA pn pc)) tj (a2, b2, .slice A2 k2 c2)) := Lib.hid (HPJ.out.keep (fun x _ hl => RP0.out.gr.block x hl (by simp)) (fun x hx hl => HAP.out wp x RP0.out hl hx) _ _)
          have o2 := RP0.out.co.c2
          have hlt4 := RP0.out.co.lt
          have own1 := (RP0.out.grown (World.grownBy_alloc wp (.cells #[.int .u8 a2, .int .u8 b2, .slice A2 k2 c2] TN) none)).row
          go_wp2_with (at_builtin; refine wpList_append_own_at _ rfl _ _ 55 rfl (h + 3) TN i0 (.agg #[.int .u8 0, .int .u8 0, .slice none 0 0]) 3 32 Tryz.underlying55 hi0 hz0 hz1 hz2 rfl (by decide) _ 1 (flat3 ys) rfl own1 ⟨wp.heap.size, 0, none⟩ 1 1 [.int .u8 a2, .int .u8 b2, .slice A2 k2 c2] rfl rfl ?n14_1 ?n14_2 ?n14_3 ?n14_4 ?n14_5 ?_)
          try case n14_1 => exact cell3_new _ _ _ _ _
          try case n14_2 => simp [Value.oneCell']
          try case n14_3 => simp only [maxLen]; omega
          try case n14_4 => omega
          try case n14_5 => first | omega | (rw [World.size_alloc]; omega)
          intro v8 w8 hown8 hg8 _ hat8
          obtain ⟨A8, k8, c8, rfl⟩ := own_form hown8
          have RP := (RP0.out.grown (World.grownBy_alloc wp (.cells #[.int .u8 a2, .int .u8 b2, .slice A2 k2 c2] TN) none)).push hown8 hg8 (by rw [World.size_alloc]; exact hat8) (HPA.out.grown (World.grownBy_alloc wp (.cells #[.int .u8 a2, .int .u8 b2, .slice A2 k2 c2] TN) none))
          rw [take_snoc5 HKJ.out] at RP
          have HRP := Lib.hid RP
          have HO8 := Lib.hid ((RP0.out.co.alloc (.cells #[.int .u8 a2, .int .u8 b2, .slice A2 k2 c2] TN)).grown hg8 (fun e => RP0.out.ap _ e.symm rfl))
          have s2 := HO8.out.c2
          have sf := HO8.out.f 2
          clear RP hown8 hg8 hat8 own1 o2 hlt4
          go_wp2_with fail
          go_roundw
          case rel => exact ⟨1 + 1, _, A8, k8, c8, _, by omega, by go_num, rfl, Lib.hid (by rw [HGJ.out, ← hgd.out]; simp), HRP⟩
          case measure => simp [intOf]; omega
        · obtain ⟨jb, hjb⟩ : ∃ x, ((j : Int) == 1) = x := ⟨_, rfl⟩
          obtain ⟨bb, hbb⟩ : ∃ x, (b == v) = x := ⟨_, rfl⟩
          have hjbb : (jb && bb) = false := by
            rw [← hjb, ← hbb]
            cases h1 : ((j : Int) == 1) <;> cases h2 : (b == v) <;> try rfl
            rw [beq_iff_eq] at h1 h2
            exact absurd ⟨by omega, h2⟩ hskip
          have HSK := Lib.hid hskip
          clear hskip
          cases jb
          · cases bb
            · --1
              try clear hjbb
              go_wp2_with fail
              refine HFREE.out.mono ?_
              rintro e wf ⟨rfl, hgf⟩
              have RF := Lib.hid (RP0.out.grown hgf)
              have CF := Lib.hid (CP.out.grown hgf (by simp))
              clear hgf p0 p1 p2 n1p
              have p0 := CF.out.c0
              have p1 := CF.out.c1
              have p2 := CF.out.c2
              have HPF : Hid (SN wf (Apart S h (.slice PA pn pc)) tj (a2, b2, .slice A2 k2 c2)) := Lib.hid (HPJ.out.keep (fun x _ hl => RF.out.gr.block x hl (by simp)) (fun x hx hl => HAP.out wf x RF.out hl hx) _ _)
              cases z
              · have HKJ := Lib.hid (HST.out (.inr HZ.out)).1
                have HGJ := Lib.hid (all_step (HST.out (.inr HZ.out)).2)
                have o2 := RF.out.co.c2
                have hlt4 := RF.out.co.lt
                have own1 := (RF.out.grown (World.grownBy_alloc wf (.cells #[.int .u8 a2, .int .u8 b2, .slice A2 k2 c2] TN) none)).row
                go_wp2_with (at_builtin; refine wpList_append_own_at _ rfl _ _ 55 rfl (h + 3) TN i0 (.agg #[.int .u8 0, .int .u8 0, .slice none 0 0]) 3 32 Tryz.underlying55 hi0 hz0 hz1 hz2 rfl (by decide) _ j (flat3 ys) rfl own1 ⟨wf.heap.size, 0, none⟩ 1 1 [.int .u8 a2, .int .u8 b2, .slice A2 k2 c2] rfl rfl ?n15_1 ?n15_2 ?n15_3 ?n15_4 ?n15_5 ?_)
                try case n15_1 => exact cell3_new _ _ _ _ _
                try case n15_2 => simp [Value.oneCell']
                try case n15_3 => simp only [maxLen]; omega
                try case n15_4 => omega
                try case n15_5 => first | omega | (rw [World.size_alloc]; omega)
                intro v8 w8 hown8 hg8 _ hat8
                obtain ⟨A8, k8, c8, rfl⟩ := own_form hown8
                have RP := (RF.out.grown (World.grownBy_alloc wf (.cells #[.int .u8 a2, .int .u8 b2, .slice A2 k2 c2] TN) none)).push hown8 hg8 (by rw [World.size_alloc]; exact hat8) (HPF.out.grown (World.grownBy_alloc wf (.cells #[.int .u8 a2, .int .u8 b2, .slice A2 k2 c2] TN) none))
                rw [take_snoc5 HKJ.out] at RP
                have HRP := Lib.hid RP
                have HO8 := Lib.hid ((RF.out.co.alloc (.cells #[.int .u8 a2, .int .u8 b2, .slice A2 k2 c2] TN)).grown hg8 (fun e => RF.out.ap _ e.symm rfl))
                have s2 := HO8.out.c2
                have sf := HO8.out.f 2
                clear RP hown8 hg8 hat8 own1 o2 hlt4
                go_wp2_with fail
                go_roundw
                case rel => exact ⟨j + 1, _, A8, k8, c8, _, by omega, by go_num, rfl, Lib.hid (by rw [HGJ.out, ← hgd.out]; simp), HRP⟩
                case measure => simp [intOf]; omega
              · have HREP := (HTN.out HSK.out HZ.out)
                have HKJ := Lib.hid HREP.1
                have HGJ := Lib.hid (all_step HREP.2)
                clear HREP
                have hj0 : ((j : Int) == 0) = true := by (have h1 : ¬ j = 1 := (fun e => by (subst e; simp at hjb)); rw [beq_iff_eq]; omega)
                obtain ⟨oz, hoz⟩ : ∃ oz, (!tj.binds v u) = oz := ⟨_, rfl⟩
                rw [hoz] at HGJ HCALL
                have HOZ := Lib.hid hoz
                clear hoz
                have u0 := RF.out.cu.c0
                have u1 := RF.out.cu.c1
                have u2 := RF.out.cu.c2
                go_wp2_with fail
                refine (HCALL.out wf RF.out.gr (HPJ.out.grown RF.out.gr)).mono ?_
                rintro e w7 ⟨a3, b3, A3, k3, c3, rfl, hg7, hsn7⟩
                have HG7 := Lib.hid hg7
                have HS7 := Lib.hid hsn7
                clear hg7 hsn7 u0 u1 u2 p0 p1 p2
                obtain ⟨wq, hwq⟩ : ∃ wq, w7.alloc (.cells #[.int .u8 a3, .int .u8 b3, .slice A3 k3 c3] TN) = wq := ⟨_, rfl⟩
                obtain ⟨qz, hqz⟩ : ∃ qz, w7.heap.size = qz := ⟨_, rfl⟩
                have gwq : w7.grownBy wq none := by rw [← hwq]; exact World.grownBy_alloc _ _ _
                have RQ := Lib.hid (RF.out.grown (HG7.out.trans gwq))
                have CQ := Lib.hid (show C3 wq qz (.int .u8 a3) (.int .u8 b3) (.slice A3 k3 c3) TN by rw [← hwq, ← hqz]; exact c3_new _ _ _ _ _)
                have HPQ : Hid (SN wq (Apart S h (.slice PA pn pc)) (tj.rep v u) (a3, b3, .slice A3 k3 c3)) := Lib.hid ((HS7.out.grown gwq).keep (fun _ _ _ => rfl) (fun x hx hl => RF.out.apart_new hS hx) _ _)
                have p0 := CQ.out.c0
                have p1 := CQ.out.c1
                have p2 := CQ.out.c2
                have n1p := RQ.out.cn.c1
                clear gwq HS7 HG7
                have hgt : gd = true := by
                  have hj9 : j = 0 := by (rw [beq_iff_eq] at hj0; omega)
                  rw [hgd.out, hj9]; simp
                subst hgt
                cases oz
                · have o2 := RQ.out.co.c2
                  have hlt4 := RQ.out.co.lt
                  have own1 := (RQ.out.grown (World.grownBy_alloc wq (.cells #[.int .u8 a3, .int .u8 b3, .slice A3 k3 c3] TN) none)).row
                  go_wp2_with (at_builtin; refine wpList_append_own_at _ rfl _ _ 55 rfl (h + 3) TN i0 (.agg #[.int .u8 0, .int .u8 0, .slice none 0 0]) 3 32 Tryz.underlying55 hi0 hz0 hz1 hz2 rfl (by decide) _ j (flat3 ys) rfl own1 ⟨wq.heap.size, 0, none⟩ 1 1 [.int .u8 a3, .int .u8 b3, .slice A3 k3 c3] rfl rfl ?n18_1 ?n18_2 ?n18_3 ?n18_4 ?n18_5 ?_)
                  try case n18_1 => exact cell3_new _ _ _ _ _
                  try case n18_2 => simp [Value.oneCell']
                  try case n18_3 => simp only [maxLen]; omega
                  try case n18_4 => omega
                  try case n18_5 => first | omega | (rw [World.size_alloc]; omega)
                  intro v8 w8 hown8 hg8 _ hat8
                  obtain ⟨A8, k8, c8, rfl⟩ := own_form hown8
                  have RP := (RQ.out.grown (World.grownBy_alloc wq (.cells #[.int .u8 a3, .int .u8 b3, .slice A3 k3 c3] TN) none)).push hown8 hg8 (by rw [World.size_alloc]; exact hat8) (HPQ.out.grown (World.grownBy_alloc wq (.cells #[.int .u8 a3, .int .u8 b3, .slice A3 k3 c3] TN) none))
                  rw [take_snoc5 HKJ.out] at RP
                  have HRP := Lib.hid RP
                  have HO8 := Lib.hid ((RQ.out.co.alloc (.cells #[.int .u8 a3, .int .u8 b3, .slice A3 k3 c3] TN)).grown hg8 (fun e => RQ.out.ap _ e.symm rfl))
                  have s2 := HO8.out.c2
                  have sf := HO8.out.f 2
                  clear RP hown8 hg8 hat8 own1 o2 hlt4
                  go_wp2_with fail
                  go_roundw
                  case rel => exact ⟨j + 1, _, A8, k8, c8, _, by omega, by go_num, rfl, Lib.hid (good12 HGJ.out hgd.out hj0), HRP⟩
                  case measure => simp [intOf]; omega
                · have o2 := RQ.out.co.c2
                  have hlt4 := RQ.out.co.lt
                  have own1 := (RQ.out.grown (World.grownBy_alloc wq (.cells #[.int .u8 a3, .int .u8 b3, .slice A3 k3 c3] TN) none)).row
                  go_wp2_with (at_builtin; refine wpList_append_own_at _ rfl _ _ 55 rfl (h + 3) TN i0 (.agg #[.int .u8 0, .int .u8 0, .slice none 0 0]) 3 32 Tryz.underlying55 hi0 hz0 hz1 hz2 rfl (by decide) _ j (flat3 ys) rfl own1 ⟨wq.heap.size, 0, none⟩ 1 1 [.int .u8 a3, .int .u8 b3, .slice A3 k3 c3] rfl rfl ?n19_1 ?n19_2 ?n19_3 ?n19_4 ?n19_5 ?_)
                  try case n19_1 => exact cell3_new _ _ _ _ _
                  try case n19_2 => simp [Value.oneCell']
                  try case n19_3 => simp only [maxLen]; omega
                  try case n19_4 => omega
                  try case n19_5 => first | omega | (rw [World.size_alloc]; omega)
                  intro v8 w8 hown8 hg8 _ hat8
                  obtain ⟨A8, k8, c8, rfl⟩ := own_form hown8
                  have RP := (RQ.out.grown (World.grownBy_alloc wq (.cells #[.int .u8 a3, .int .u8 b3, .slice A3 k3 c3] TN) none)).push hown8 hg8 (by rw [World.size_alloc]; exact hat8) (HPQ.out.grown (World.grownBy_alloc wq (.cells #[.int .u8 a3, .int .u8 b3, .slice A3 k3 c3] TN) none))
                  rw [take_snoc5 HKJ.out] at RP
                  have HRP := Lib.hid RP
                  have HO8 := Lib.hid ((RQ.out.co.alloc (.cells #[.int .u8 a3, .int .u8 b3, .slice A3 k3 c3] TN)).grown hg8 (fun e => RQ.out.ap _ e.symm rfl))
                  have s2 := HO8.out.c2
                  have sf := HO8.out.f 2
                  clear RP hown8 hg8 hat8 own1 o2 hlt4
                  go_wp2_with fail
                  go_roundw
                  case rel => exact ⟨j + 1, _, A8, k8, c8, _, by omega, by go_num, rfl, Lib.hid (good12 HGJ.out hgd.out hj0), HRP⟩
                  case measure => simp [intOf]; omega

            · --2
              try clear hjbb
              go_wp2_with fail
              refine HFREE.out.mono ?_
              rintro e wf ⟨rfl, hgf⟩
              have RF := Lib.hid (RP0.out.grown hgf)
              have CF := Lib.hid (CP.out.grown hgf (by simp))
              clear hgf p0 p1 p2 n1p
              have p0 := CF.out.c0
              have p1 := CF.out.c1
              have p2 := CF.out.c2
              have HPF : Hid (SN wf (Apart S h (.slice PA pn pc)) tj (a2, b2, .slice A2 k2 c2)) := Lib.hid (HPJ.out.keep (fun x _ hl => RF.out.gr.block x hl (by simp)) (fun x hx hl => HAP.out wf x RF.out hl hx) _ _)
              cases z
              · have HKJ := Lib.hid (HST.out (.inr HZ.out)).1
                have HGJ := Lib.hid (all_step (HST.out (.inr HZ.out)).2)
                have o2 := RF.out.co.c2
                have hlt4 := RF.out.co.lt
                have own1 := (RF.out.grown (World.grownBy_alloc wf (.cells #[.int .u8 a2, .int .u8 b2, .slice A2 k2 c2] TN) none)).row
                go_wp2_with (at_builtin; refine wpList_append_own_at _ rfl _ _ 55 rfl (h + 3) TN i0 (.agg #[.int .u8 0, .int .u8 0, .slice none 0 0]) 3 32 Tryz.underlying55 hi0 hz0 hz1 hz2 rfl (by decide) _ j (flat3 ys) rfl own1 ⟨wf.heap.size, 0, none⟩ 1 1 [.int .u8 a2, .int .u8 b2, .slice A2 k2 c2] rfl rfl ?n16_1 ?n16_2 ?n16_3 ?n16_4 ?n16_5 ?_)
                try case n16_1 => exact cell3_new _ _ _ _ _
                try case n16_2 => simp [Value.oneCell']
                try case n16_3 => simp only [maxLen]; omega
                try case n16_4 => omega
                try case n16_5 => first | omega | (rw [World.size_alloc]; omega)
                intro v8 w8 hown8 hg8 _ hat8
                obtain ⟨A8, k8, c8, rfl⟩ := own_form hown8
                have RP := (RF.out.grown (World.grownBy_alloc wf (.cells #[.int .u8 a2, .int .u8 b2, .slice A2 k2 c2] TN) none)).push hown8 hg8 (by rw [World.size_alloc]; exact hat8) (HPF.out.grown (World.grownBy_alloc wf (.cells #[.int .u8 a2, .int .u8 b2, .slice A2 k2 c2] TN) none))
                rw [take_snoc5 HKJ.out] at RP
                have HRP := Lib.hid RP
                have HO8 := Lib.hid ((RF.out.co.alloc (.cells #[.int .u8 a2, .int .u8 b2, .slice A2 k2 c2] TN)).grown hg8 (fun e => RF.out.ap _ e.symm rfl))
                have s2 := HO8.out.c2
                have sf := HO8.out.f 2
                clear RP hown8 hg8 hat8 own1 o2 hlt4
                go_wp2_with fail
                go_roundw
                case rel => exact ⟨j + 1, _, A8, k8, c8, _, by omega, by go_num, rfl, Lib.hid (by rw [HGJ.out, ← hgd.out]; simp), HRP⟩
                case measure => simp [intOf]; omega
              · have HREP := (HTN.out HSK.out HZ.out)
                have HKJ := Lib.hid HREP.1
                have HGJ := Lib.hid (all_step HREP.2)
                clear HREP
                have hj0 : ((j : Int) == 0) = true := by (have h1 : ¬ j = 1 := (fun e => by (subst e; simp at hjb)); rw [beq_iff_eq]; omega)
                obtain ⟨oz, hoz⟩ : ∃ oz, (!tj.binds v u) = oz := ⟨_, rfl⟩
                rw [hoz] at HGJ HCALL
                have HOZ := Lib.hid hoz
                clear hoz
                have u0 := RF.out.cu.c0
                have u1 := RF.out.cu.c1
                have u2 := RF.out.cu.c2
                go_wp2_with fail
                refine (HCALL.out wf RF.out.gr (HPJ.out.grown RF.out.gr)).mono ?_
                rintro e w7 ⟨a3, b3, A3, k3, c3, rfl, hg7, hsn7⟩
                have HG7 := Lib.hid hg7
                have HS7 := Lib.hid hsn7
                clear hg7 hsn7 u0 u1 u2 p0 p1 p2
                obtain ⟨wq, hwq⟩ : ∃ wq, w7.alloc (.cells #[.int .u8 a3, .int .u8 b3, .slice A3 k3 c3] TN) = wq := ⟨_, rfl⟩
                obtain ⟨qz, hqz⟩ : ∃ qz, w7.heap.size = qz := ⟨_, rfl⟩
                have gwq : w7.grownBy wq none := by rw [← hwq]; exact World.grownBy_alloc _ _ _
                have RQ := Lib.hid (RF.out.grown (HG7.out.trans gwq))
                have CQ := Lib.hid (show C3 wq qz (.int .u8 a3) (.int .u8 b3) (.slice A3 k3 c3) TN by rw [← hwq, ← hqz]; exact c3_new _ _ _ _ _)
                have HPQ : Hid (SN wq (Apart S h (.slice PA pn pc)) (tj.rep v u) (a3, b3, .slice A3 k3 c3)) := Lib.hid ((HS7.out.grown gwq).keep (fun _ _ _ => rfl) (fun x hx hl => RF.out.apart_new hS hx) _ _)
                have p0 := CQ.out.c0
                have p1 := CQ.out.c1
                have p2 := CQ.out.c2
                have n1p := RQ.out.cn.c1
                clear gwq HS7 HG7
                have hgt : gd = true := by
                  have hj9 : j = 0 := by (rw [beq_iff_eq] at hj0; omega)
                  rw [hgd.out, hj9]; simp
                subst hgt
                cases oz
                · have o2 := RQ.out.co.c2
                  have hlt4 := RQ.out.co.lt
                  have own1 := (RQ.out.grown (World.grownBy_alloc wq (.cells #[.int .u8 a3, .int .u8 b3, .slice A3 k3 c3] TN) none)).row
                  go_wp2_with (at_builtin; refine wpList_append_own_at _ rfl _ _ 55 rfl (h + 3) TN i0 (.agg #[.int .u8 0, .int .u8 0, .slice none 0 0]) 3 32 Tryz.underlying55 hi0 hz0 hz1 hz2 rfl (by decide) _ j (flat3 ys) rfl own1 ⟨wq.heap.size, 0, none⟩ 1 1 [.int .u8 a3, .int .u8 b3, .slice A3 k3 c3] rfl rfl ?n20_1 ?n20_2 ?n20_3 ?n20_4 ?n20_5 ?_)
                  try case n20_1 => exact cell3_new _ _ _ _ _
                  try case n20_2 => simp [Value.oneCell']
                  try case n20_3 => simp only [maxLen]; omega
                  try case n20_4 => omega
                  try case n20_5 => first | omega | (rw [World.size_alloc]; omega)
                  intro v8 w8 hown8 hg8 _ hat8
                  obtain ⟨A8, k8, c8, rfl⟩ := own_form hown8
                  have RP := (RQ.out.grown (World.grownBy_alloc wq (.cells #[.int .u8 a3, .int .u8 b3, .slice A3 k3 c3] TN) none)).push hown8 hg8 (by rw [World.size_alloc]; exact hat8) (HPQ.out.grown (World.grownBy_alloc wq (.cells #[.int .u8 a3, .int .u8 b3, .slice A3 k3 c3] TN) none))
                  rw [take_snoc5 HKJ.out] at RP
                  have HRP := Lib.hid RP
                  have HO8 := Lib.hid ((RQ.out.co.alloc (.cells #[.int .u8 a3, .int .u8 b3, .slice A3 k3 c3] TN)).grown hg8 (fun e => RQ.out.ap _ e.symm rfl))
                  have s2 := HO8.out.c2
                  have sf := HO8.out.f 2
                  clear RP hown8 hg8 hat8 own1 o2 hlt4
                  go_wp2_with fail
                  go_roundw
                  case rel => exact ⟨j + 1, _, A8, k8, c8, _, by omega, by go_num, rfl, Lib.hid (good12 HGJ.out hgd.out hj0), HRP⟩
                  case measure => simp [intOf]; omega
                · have o2 := RQ.out.co.c2
                  have hlt4 := RQ.out.co.lt
                  have own1 := (RQ.out.grown (World.grownBy_alloc wq (.cells #[.int .u8 a3, .int .u8 b3, .slice A3 k3 c3] TN) none)).row
                  go_wp2_with (at_builtin; refine wpList_append_own_at _ rfl _ _ 55 rfl (h + 3) TN i0 (.agg #[.int .u8 0, .int .u8 0, .slice none 0 0]) 3 32 Tryz.underlying55 hi0 hz0 hz1 hz2 rfl (by decide) _ j (flat3 ys) rfl own1 ⟨wq.heap.size, 0, none⟩ 1 1 [.int .u8 a3, .int .u8 b3, .slice A3 k3 c3] rfl rfl ?n21_1 ?n21_2 ?n21_3 ?n21_4 ?n21_5 ?_)
                  try case n21_1 => exact cell3_new _ _ _ _ _
                  try case n21_2 => simp [Value.oneCell']
                  try case n21_3 => simp only [maxLen]; omega
                  try case n21_4 => omega
                  try case n21_5 => first | omega | (rw [World.size_alloc]; omega)
                  intro v8 w8 hown8 hg8 _ hat8
                  obtain ⟨A8, k8, c8, rfl⟩ := own_form hown8
                  have RP := (RQ.out.grown (World.grownBy_alloc wq (.cells #[.int .u8 a3, .int .u8 b3, .slice A3 k3 c3] TN) none)).push hown8 hg8 (by rw [World.size_alloc]; exact hat8) (HPQ.out.grown (World.grownBy_alloc wq (.cells #[.int .u8 a3, .int .u8 b3, .slice A3 k3 c3] TN) none))
                  rw [take_snoc5 HKJ.out] at RP
                  have HRP := Lib.hid RP
                  have HO8 := Lib.hid ((RQ.out.co.alloc (.cells #[.int .u8 a3, .int .u8 b3, .slice A3 k3 c3] TN)).grown hg8 (fun e => RQ.out.ap _ e.symm rfl))
                  have s2 := HO8.out.c2
                  have sf := HO8.out.f 2
                  clear RP hown8 hg8 hat8 own1 o2 hlt4
                  go_wp2_with fail
                  go_roundw
                  case rel => exact ⟨j + 1, _, A8, k8, c8, _, by omega, by go_num, rfl, Lib.hid (good12 HGJ.out hgd.out hj0), HRP⟩
                  case measure => simp [intOf]; omega

          · cases bb
            · --3
              try clear hjbb
              go_wp2_with fail
              refine HFREE.out.mono ?_
              rintro e wf ⟨rfl, hgf⟩
              have RF := Lib.hid (RP0.out.grown hgf)
              have CF := Lib.hid (CP.out.grown hgf (by simp))
              clear hgf p0 p1 p2 n1p
              have p0 := CF.out.c0
              have p1 := CF.out.c1
              have p2 := CF.out.c2
              have HPF : Hid (SN wf (Apart S h (.slice PA pn pc)) tj (a2, b2, .slice A2 k2 c2)) := Lib.hid (HPJ.out.keep (fun x _ hl => RF.out.gr.block x hl (by simp)) (fun x hx hl => HAP.out wf x RF.out hl hx) _ _)
              cases z
              · have HKJ := Lib.hid (HST.out (.inr HZ.out)).1
                have HGJ := Lib.hid (all_step (HST.out (.inr HZ.out)).2)
                have o2 := RF.out.co.c2
                have hlt4 := RF.out.co.lt
                have own1 := (RF.out.grown (World.grownBy_alloc wf (.cells #[.int .u8 a2, .int .u8 b2, .slice A2 k2 c2] TN) none)).row
                go_wp2_with (at_builtin; refine wpList_append_own_at _ rfl _ _ 55 rfl (h + 3) TN i0 (.agg #[.int .u8 0, .int .u8 0, .slice none 0 0]) 3 32 Tryz.underlying55 hi0 hz0 hz1 hz2 rfl (by decide) _ j (flat3 ys) rfl own1 ⟨wf.heap.size, 0, none⟩ 1 1 [.int .u8 a2, .int .u8 b2, .slice A2 k2 c2] rfl rfl ?n17_1 ?n17_2 ?n17_3 ?n17_4 ?n17_5 ?_)
                try case n17_1 => exact cell3_new _ _ _ _ _
                try case n17_2 => simp [Value.oneCell']
                try case n17_3 => simp only [maxLen]; omega
                try case n17_4 => omega
                try case n17_5 => first | omega | (rw [World.size_alloc]; omega)
                intro v8 w8 hown8 hg8 _ hat8
                obtain ⟨A8, k8, c8, rfl⟩ := own_form hown8
                have RP := (RF.out.grown (World.grownBy_alloc wf (.cells #[.int .u8 a2, .int .u8 b2, .slice A2 k2 c2] TN) none)).push hown8 hg8 (by rw [World.size_alloc]; exact hat8) (HPF.out.grown (World.grownBy_alloc wf (.cells #[.int .u8 a2, .int .u8 b2, .slice A2 k2 c2] TN) none))
                rw [take_snoc5 HKJ.out] at RP
                have HRP := Lib.hid RP
                have HO8 := Lib.hid ((RF.out.co.alloc (.cells #[.int .u8 a2, .int .u8 b2, .slice A2 k2 c2] TN)).grown hg8 (fun e => RF.out.ap _ e.symm rfl))
                have s2 := HO8.out.c2
                have sf := HO8.out.f 2
                clear RP hown8 hg8 hat8 own1 o2 hlt4
                go_wp2_with fail
                go_roundw
                case rel => exact ⟨j + 1, _, A8, k8, c8, _, by omega, by go_num, rfl, Lib.hid (by rw [HGJ.out, ← hgd.out]; simp), HRP⟩
                case measure => simp [intOf]; omega
              · have HREP := (HTN.out HSK.out HZ.out)
                have HKJ := Lib.hid HREP.1
                have HGJ := Lib.hid (all_step HREP.2)
                clear HREP
                have hj0 : ((j : Int) == 0) = false := by (have h1 : j = 1 := (by (rw [beq_iff_eq] at hjb; omega)); rw [beq_eq_false_iff_ne]; omega)
                obtain ⟨oz, hoz⟩ : ∃ oz, (!tj.binds v u) = oz := ⟨_, rfl⟩
                rw [hoz] at HGJ HCALL
                have HOZ := Lib.hid hoz
                clear hoz
                have u0 := RF.out.cu.c0
                have u1 := RF.out.cu.c1
                have u2 := RF.out.cu.c2
                go_wp2_with fail
                refine (HCALL.out wf RF.out.gr (HPJ.out.grown RF.out.gr)).mono ?_
                rintro e w7 ⟨a3, b3, A3, k3, c3, rfl, hg7, hsn7⟩
                have HG7 := Lib.hid hg7
                have HS7 := Lib.hid hsn7
                clear hg7 hsn7 u0 u1 u2 p0 p1 p2
                obtain ⟨wq, hwq⟩ : ∃ wq, w7.alloc (.cells #[.int .u8 a3, .int .u8 b3, .slice A3 k3 c3] TN) = wq := ⟨_, rfl⟩
                obtain ⟨qz, hqz⟩ : ∃ qz, w7.heap.size = qz := ⟨_, rfl⟩
                have gwq : w7.grownBy wq none := by rw [← hwq]; exact World.grownBy_alloc _ _ _
                have RQ := Lib.hid (RF.out.grown (HG7.out.trans gwq))
                have CQ := Lib.hid (show C3 wq qz (.int .u8 a3) (.int .u8 b3) (.slice A3 k3 c3) TN by rw [← hwq, ← hqz]; exact c3_new _ _ _ _ _)
                have HPQ : Hid (SN wq (Apart S h (.slice PA pn pc)) (tj.rep v u) (a3, b3, .slice A3 k3 c3)) := Lib.hid ((HS7.out.grown gwq).keep (fun _ _ _ => rfl) (fun x hx hl => RF.out.apart_new hS hx) _ _)
                have p0 := CQ.out.c0
                have p1 := CQ.out.c1
                have p2 := CQ.out.c2
                have n1p := RQ.out.cn.c1
                clear gwq HS7 HG7
                cases gd
                · have o2 := RQ.out.co.c2
                  have hlt4 := RQ.out.co.lt
                  have own1 := (RQ.out.grown (World.grownBy_alloc wq (.cells #[.int .u8 a3, .int .u8 b3, .slice A3 k3 c3] TN) none)).row
                  go_wp2_with (at_builtin; refine wpList_append_own_at _ rfl _ _ 55 rfl (h + 3) TN i0 (.agg #[.int .u8 0, .int .u8 0, .slice none 0 0]) 3 32 Tryz.underlying55 hi0 hz0 hz1 hz2 rfl (by decide) _ j (flat3 ys) rfl own1 ⟨wq.heap.size, 0, none⟩ 1 1 [.int .u8 a3, .int .u8 b3, .slice A3 k3 c3] rfl rfl ?n22_1 ?n22_2 ?n22_3 ?n22_4 ?n22_5 ?_)
                  try case n22_1 => exact cell3_new _ _ _ _ _
                  try case n22_2 => simp [Value.oneCell']
                  try case n22_3 => simp only [maxLen]; omega
                  try case n22_4 => omega
                  try case n22_5 => first | omega | (rw [World.size_alloc]; omega)
                  intro v8 w8 hown8 hg8 _ hat8
                  obtain ⟨A8, k8, c8, rfl⟩ := own_form hown8
                  have RP := (RQ.out.grown (World.grownBy_alloc wq (.cells #[.int .u8 a3, .int .u8 b3, .slice A3 k3 c3] TN) none)).push hown8 hg8 (by rw [World.size_alloc]; exact hat8) (HPQ.out.grown (World.grownBy_alloc wq (.cells #[.int .u8 a3, .int .u8 b3, .slice A3 k3 c3] TN) none))
                  rw [take_snoc5 HKJ.out] at RP
                  have HRP := Lib.hid RP
                  have HO8 := Lib.hid ((RQ.out.co.alloc (.cells #[.int .u8 a3, .int .u8 b3, .slice A3 k3 c3] TN)).grown hg8 (fun e => RQ.out.ap _ e.symm rfl))
                  have s2 := HO8.out.c2
                  have sf := HO8.out.f 2
                  clear RP hown8 hg8 hat8 own1 o2 hlt4
                  go_wp2_with fail
                  go_roundw
                  case rel => exact ⟨j + 1, _, A8, k8, c8, _, by omega, by go_num, rfl, Lib.hid (good3 HGJ.out hgd.out hj0 (.inl ⟨rfl, rfl⟩)), HRP⟩
                  case measure => simp [intOf]; omega
                · cases oz
                  · have o2 := RQ.out.co.c2
                    have hlt4 := RQ.out.co.lt
                    have own1 := (RQ.out.grown (World.grownBy_alloc wq (.cells #[.int .u8 a3, .int .u8 b3, .slice A3 k3 c3] TN) none)).row
                    go_wp2_with (at_builtin; refine wpList_append_own_at _ rfl _ _ 55 rfl (h + 3) TN i0 (.agg #[.int .u8 0, .int .u8 0, .slice none 0 0]) 3 32 Tryz.underlying55 hi0 hz0 hz1 hz2 rfl (by decide) _ j (flat3 ys) rfl own1 ⟨wq.heap.size, 0, none⟩ 1 1 [.int .u8 a3, .int .u8 b3, .slice A3 k3 c3] rfl rfl ?n23_1 ?n23_2 ?n23_3 ?n23_4 ?n23_5 ?_)
                    try case n23_1 => exact cell3_new _ _ _ _ _
                    try case n23_2 => simp [Value.oneCell']
                    try case n23_3 => simp only [maxLen]; omega
                    try case n23_4 => omega
                    try case n23_5 => first | omega | (rw [World.size_alloc]; omega)
                    intro v8 w8 hown8 hg8 _ hat8
                    obtain ⟨A8, k8, c8, rfl⟩ := own_form hown8
                    have RP := (RQ.out.grown (World.grownBy_alloc wq (.cells #[.int .u8 a3, .int .u8 b3, .slice A3 k3 c3] TN) none)).push hown8 hg8 (by rw [World.size_alloc]; exact hat8) (HPQ.out.grown (World.grownBy_alloc wq (.cells #[.int .u8 a3, .int .u8 b3, .slice A3 k3 c3] TN) none))
                    rw [take_snoc5 HKJ.out] at RP
                    have HRP := Lib.hid RP
                    have HO8 := Lib.hid ((RQ.out.co.alloc (.cells #[.int .u8 a3, .int .u8 b3, .slice A3 k3 c3] TN)).grown hg8 (fun e => RQ.out.ap _ e.symm rfl))
                    have s2 := HO8.out.c2
                    have sf := HO8.out.f 2
                    clear RP hown8 hg8 hat8 own1 o2 hlt4
                    go_wp2_with fail
                    go_roundw
                    case rel => exact ⟨j + 1, _, A8, k8, c8, _, by omega, by go_num, rfl, Lib.hid (good3 HGJ.out hgd.out hj0 (.inr (.inl ⟨rfl, rfl⟩))), HRP⟩
                    case measure => simp [intOf]; omega
                  · by_cases hb0 : b = 0
                    · have hb1 : (b == 0) = true := by simp [hb0]
                      have HB00 := Lib.hid hb0
                      clear hb0
                      have o2 := RQ.out.co.c2
                      have hlt4 := RQ.out.co.lt
                      have own1 := (RQ.out.grown (World.grownBy_alloc wq (.cells #[.int .u8 a3, .int .u8 b3, .slice A3 k3 c3] TN) none)).row
                      go_wp2_with (at_builtin; refine wpList_append_own_at _ rfl _ _ 55 rfl (h + 3) TN i0 (.agg #[.int .u8 0, .int .u8 0, .slice none 0 0]) 3 32 Tryz.underlying55 hi0 hz0 hz1 hz2 rfl (by decide) _ j (flat3 ys) rfl own1 ⟨wq.heap.size, 0, none⟩ 1 1 [.int .u8 a3, .int .u8 b3, .slice A3 k3 c3] rfl rfl ?n24_1 ?n24_2 ?n24_3 ?n24_4 ?n24_5 ?_)
                      try case n24_1 => exact cell3_new _ _ _ _ _
                      try case n24_2 => simp [Value.oneCell']
                      try case n24_3 => simp only [maxLen]; omega
                      try case n24_4 => omega
                      try case n24_5 => first | omega | (rw [World.size_alloc]; omega)
                      intro v8 w8 hown8 hg8 _ hat8
                      obtain ⟨A8, k8, c8, rfl⟩ := own_form hown8
                      have RP := (RQ.out.grown (World.grownBy_alloc wq (.cells #[.int .u8 a3, .int .u8 b3, .slice A3 k3 c3] TN) none)).push hown8 hg8 (by rw [World.size_alloc]; exact hat8) (HPQ.out.grown (World.grownBy_alloc wq (.cells #[.int .u8 a3, .int .u8 b3, .slice A3 k3 c3] TN) none))
                      rw [take_snoc5 HKJ.out] at RP
                      have HRP := Lib.hid RP
                      have HO8 := Lib.hid ((RQ.out.co.alloc (.cells #[.int .u8 a3, .int .u8 b3, .slice A3 k3 c3] TN)).grown hg8 (fun e => RQ.out.ap _ e.symm rfl))
                      have s2 := HO8.out.c2
                      have sf := HO8.out.f 2
                      clear RP hown8 hg8 hat8 own1 o2 hlt4
                      go_wp2_with fail
                      go_roundw
                      case rel => exact ⟨j + 1, _, A8, k8, c8, _, by omega, by go_num, rfl, Lib.hid (good3 HGJ.out hgd.out hj0 (.inr (.inr (.inl ⟨rfl, rfl, HB00.out, rfl⟩)))), HRP⟩
                      case measure => simp [intOf]; omega
                    · have hb1 : (b == 0) = false := by simp [hb0]
                      have hbp : 0 < b := by have := HB0.out; omega
                      have HFU := Lib.hid (sfree_any u.size u S ua ub UA uk uc b wq (Nat.le_refl _) huok hbp (HU.out.grown RQ.out.gr))
                      obtain ⟨fu, hfu⟩ : ∃ fu, u.free b = fu := ⟨_, rfl⟩
                      rw [hfu] at HFU HGJ
                      have u0 := RQ.out.cu.c0
                      have u1 := RQ.out.cu.c1
                      have u2 := RQ.out.cu.c2
                      clear hfu
                      go_wp2_with fail
                      refine HFU.out.mono ?_
                      rintro e w9 ⟨rfl, hg8⟩
                      have R8 := Lib.hid (RQ.out.grown hg8)
                      have C8 := Lib.hid (CQ.out.grown hg8 (by simp))
                      have HP8 := Lib.hid (HPQ.out.grown hg8)
                      clear hg8 u0 u1 u2 p0 p1 p2 n1p
                      have p0 := C8.out.c0
                      have p1 := C8.out.c1
                      have p2 := C8.out.c2
                      cases fu
                      · have o2 := R8.out.co.c2
                        have hlt4 := R8.out.co.lt
                        have own1 := (R8.out.grown (World.grownBy_alloc w9 (.cells #[.int .u8 a3, .int .u8 b3, .slice A3 k3 c3] TN) none)).row
                        go_wp2_with (at_builtin; refine wpList_append_own_at _ rfl _ _ 55 rfl (h + 3) TN i0 (.agg #[.int .u8 0, .int .u8 0, .slice none 0 0]) 3 32 Tryz.underlying55 hi0 hz0 hz1 hz2 rfl (by decide) _ j (flat3 ys) rfl own1 ⟨w9.heap.size, 0, none⟩ 1 1 [.int .u8 a3, .int .u8 b3, .slice A3 k3 c3] rfl rfl ?n25_1 ?n25_2 ?n25_3 ?n25_4 ?n25_5 ?_)
                        try case n25_1 => exact cell3_new _ _ _ _ _
                        try case n25_2 => simp [Value.oneCell']
                        try case n25_3 => simp only [maxLen]; omega
                        try case n25_4 => omega
                        try case n25_5 => first | omega | (rw [World.size_alloc]; omega)
                        intro v8 w8 hown8 hg8 _ hat8
                        obtain ⟨A8, k8, c8, rfl⟩ := own_form hown8
                        have RP := (R8.out.grown (World.grownBy_alloc w9 (.cells #[.int .u8 a3, .int .u8 b3, .slice A3 k3 c3] TN) none)).push hown8 hg8 (by rw [World.size_alloc]; exact hat8) (HP8.out.grown (World.grownBy_alloc w9 (.cells #[.int .u8 a3, .int .u8 b3, .slice A3 k3 c3] TN) none))
                        rw [take_snoc5 HKJ.out] at RP
                        have HRP := Lib.hid RP
                        have HO8 := Lib.hid ((R8.out.co.alloc (.cells #[.int .u8 a3, .int .u8 b3, .slice A3 k3 c3] TN)).grown hg8 (fun e => R8.out.ap _ e.symm rfl))
                        have s2 := HO8.out.c2
                        have sf := HO8.out.f 2
                        clear RP hown8 hg8 hat8 own1 o2 hlt4
                        go_wp2_with fail
                        go_roundw
                        case rel => exact ⟨j + 1, _, A8, k8, c8, _, by omega, by go_num, rfl, Lib.hid (good3 HGJ.out hgd.out hj0 (.inr (.inr (.inr ⟨rfl, rfl, hb0, rfl⟩)))), HRP⟩
                        case measure => simp [intOf]; omega
                      · have o2 := R8.out.co.c2
                        have hlt4 := R8.out.co.lt
                        have own1 := (R8.out.grown (World.grownBy_alloc w9 (.cells #[.int .u8 a3, .int .u8 b3, .slice A3 k3 c3] TN) none)).row
                        go_wp2_with (at_builtin; refine wpList_append_own_at _ rfl _ _ 55 rfl (h + 3) TN i0 (.agg #[.int .u8 0, .int .u8 0, .slice none 0 0]) 3 32 Tryz.underlying55 hi0 hz0 hz1 hz2 rfl (by decide) _ j (flat3 ys) rfl own1 ⟨w9.heap.size, 0, none⟩ 1 1 [.int .u8 a3, .int .u8 b3, .slice A3 k3 c3] rfl rfl ?n26_1 ?n26_2 ?n26_3 ?n26_4 ?n26_5 ?_)
                        try case n26_1 => exact cell3_new _ _ _ _ _
                        try case n26_2 => simp [Value.oneCell']
                        try case n26_3 => simp only [maxLen]; omega
                        try case n26_4 => omega
                        try case n26_5 => first | omega | (rw [World.size_alloc]; omega)
                        intro v8 w8 hown8 hg8 _ hat8
                        obtain ⟨A8, k8, c8, rfl⟩ := own_form hown8
                        have RP := (R8.out.grown (World.grownBy_alloc w9 (.cells #[.int .u8 a3, .int .u8 b3, .slice A3 k3 c3] TN) none)).push hown8 hg8 (by rw [World.size_alloc]; exact hat8) (HP8.out.grown (World.grownBy_alloc w9 (.cells #[.int .u8 a3, .int .u8 b3, .slice A3 k3 c3] TN) none))
                        rw [take_snoc5 HKJ.out] at RP
                        have HRP := Lib.hid RP
                        have HO8 := Lib.hid ((R8.out.co.alloc (.cells #[.int .u8 a3, .int .u8 b3, .slice A3 k3 c3] TN)).grown hg8 (fun e => R8.out.ap _ e.symm rfl))
                        have s2 := HO8.out.c2
                        have sf := HO8.out.f 2
                        clear RP hown8 hg8 hat8 own1 o2 hlt4
                        go_wp2_with fail
                        go_roundw
                        case rel => exact ⟨j + 1, _, A8, k8, c8, _, by omega, by go_num, rfl, Lib.hid (good3 HGJ.out hgd.out hj0 (.inr (.inr (.inr ⟨rfl, rfl, hb0, rfl⟩)))), HRP⟩
                        case measure => simp [intOf]; omega

            · cases hjbb
      · have hjk : j = k := by omega
        have HJK := Lib.hid hjk
        have HRS := hrs
        obtain ⟨PV, hPV⟩ : ∃ x, Value.slice PA pn pc = x := ⟨_, rfl⟩
        have c0 := hrs.out.co.c0
        have c1 := hrs.out.co.c1
        have c2 := hrs.out.co.c2
        have r0 := hrs.out.cr.c0
        have r1 := hrs.out.cr.c1
        have r2 := hrs.out.cr.c2
        have f0 := hrs.out.cr.f 0
        have f1 := hrs.out.cr.f 1
        have f2 := hrs.out.cr.f 2
        have HEND := Lib.hid (hrs.out.ended hS)
        have HC3 := Lib.hid (hrs.out.cr.laid (x' := .int .u8 a) (y' := .int .u8 b) (z' := .slice PA pn pc))
        have hgd2 : Hid (gd = res) := Lib.hid (by
          rw [hgd.out, HJK.out, List.take_of_length_le (by rw [HGLL.out, HLEN.out, HKL.out]; exact Nat.le_refl _), HGL.out, HRES.out])
        have hks : Hid ((repK t v u).take j = repK t v u) := Lib.hid (by rw [HJK.out, List.take_of_length_le (by rw [HRKL.out, HLEN.out, HKL.out]; exact Nat.le_refl _)])
        clear hjk hPV hrs
        go_wp2_with fail
        clear c0 c1 c2 r0 r1 r2 f0 f1 f2
        have n0 := HC3.out.c0
        have n1 := HC3.out.c1
        have n2 := HC3.out.c2
        unfold laid3 at n0 n1 n2
        refine bodyPost_ret (v := .tuple #[.agg #[.int .u8 a, .int .u8 b, .slice PA pn pc], .bool gd]) (by simp [results, Tryz.results30, go_sem, n0, n1, n2]) rfl ?_
        obtain ⟨e1, e2, e3, e4⟩ := HEND.out
        rw [hks.out] at e3
        exact ⟨_, _, _, _, _, by rw [hgd2.out], e4, HSN.out _ _ _ _ e1 e2 e3⟩
end

end Go.Proofs.YtboddoaekcchpaaGreat
