/- wouldBind of the program at loops: would a free variable of what comes in be bound? (Written by wip/sh/gen_bindg.py.) -/
import Derived.Test.YtboddoaekcchpaaGreatTBind0
import Derived.Test.YtboddoaekcchpaaGreatInvG
namespace Go.Proofs.YtboddoaekcchpaaGreat
open Go.RowKit Go.Maps

def wvA (r g : Nat) (x : Value) : Nat → Value
  | 0 => .pointer (some ⟨r, 0, none⟩)
  | 1 => .pointer (some ⟨g, 0, none⟩)
  | 2 => .pointer (some ⟨g, 0, none⟩)
  | 3 => .pointer (some ⟨g, 2, none⟩)
  | 4 => x
  | 5 => .bool true
  | 6 => .bool true
  | 27 => .bool true
  | 28 => .bool true
  | _ => undef
def wRA (r g : Nat) (x : Value) (k : Nat) (v : Value) (_ : World) : Prop := v = wvA r g x k
def wgA : Nat → Option Bool := fun j => if j = 6 then some true else if j = 8 then none else if j = 18 then none else none
def wvB (r g : Nat) (x : Value) : Nat → Value
  | 0 => .pointer (some ⟨r, 0, none⟩)
  | 1 => .pointer (some ⟨g, 0, none⟩)
  | 2 => .pointer (some ⟨g, 0, none⟩)
  | 3 => .pointer (some ⟨g, 2, none⟩)
  | 4 => x
  | 5 => .bool false
  | 6 => .bool false
  | 7 => .bool false
  | 8 => .bool false
  | 26 => .bool false
  | 27 => .bool false
  | 28 => .bool false
  | _ => undef
def wRB (r g : Nat) (x : Value) (k : Nat) (v : Value) (_ : World) : Prop := v = wvB r g x k
def wgB : Nat → Option Bool := fun j => if j = 6 then some false else if j = 8 then some false else if j = 18 then none else none
def wvC (r g fb : Nat) (i : Int) (x : Value) : Nat → Value
  | 0 => .pointer (some ⟨r, 0, none⟩)
  | 1 => .pointer (some ⟨g, 0, none⟩)
  | 2 => .pointer (some ⟨g, 0, none⟩)
  | 3 => .pointer (some ⟨g, 2, none⟩)
  | 4 => x
  | 5 => .bool false
  | 6 => .bool false
  | 7 => .bool true
  | 8 => .bool true
  | 9 => .pointer (some ⟨r, 0, none⟩)
  | 10 => .pointer (some ⟨r, 0, none⟩)
  | 11 => .pointer (some ⟨r, 2, none⟩)
  | 12 => .map (some fb)
  | 13 => .pointer (some ⟨g, 0, none⟩)
  | 14 => .pointer (some ⟨g, 0, none⟩)
  | 15 => .pointer (some ⟨g, 1, none⟩)
  | 16 => .int .u8 i
  | 17 => .bool true
  | 18 => .bool true
  | 25 => .bool true
  | 26 => .bool true
  | 27 => .bool true
  | 28 => .bool true
  | _ => undef
def wRC (r g fb : Nat) (i : Int) (x : Value) (k : Nat) (v : Value) (_ : World) : Prop := v = wvC r g fb i x k
def wgC : Nat → Option Bool := fun j => if j = 6 then some false else if j = 8 then some true else if j = 18 then some true else none
def wvD (r g fb : Nat) (i : Int) (x y : Value) (b2 : Bool) : Nat → Value
  | 0 => .pointer (some ⟨r, 0, none⟩)
  | 1 => .pointer (some ⟨g, 0, none⟩)
  | 2 => .pointer (some ⟨g, 0, none⟩)
  | 3 => .pointer (some ⟨g, 2, none⟩)
  | 4 => x
  | 5 => .bool false
  | 6 => .bool false
  | 7 => .bool true
  | 8 => .bool true
  | 9 => .pointer (some ⟨r, 0, none⟩)
  | 10 => .pointer (some ⟨r, 0, none⟩)
  | 11 => .pointer (some ⟨r, 2, none⟩)
  | 12 => .map (some fb)
  | 13 => .pointer (some ⟨g, 0, none⟩)
  | 14 => .pointer (some ⟨g, 0, none⟩)
  | 15 => .pointer (some ⟨g, 1, none⟩)
  | 16 => .int .u8 i
  | 17 => .bool false
  | 18 => .bool false
  | 19 => .pointer (some ⟨r, 0, none⟩)
  | 20 => .pointer (some ⟨g, 0, none⟩)
  | 21 => .pointer (some ⟨g, 0, none⟩)
  | 22 => .pointer (some ⟨g, 3, none⟩)
  | 23 => y
  | 24 => .bool b2
  | 25 => .bool b2
  | 26 => .bool b2
  | 27 => .bool b2
  | 28 => .bool b2
  | _ => undef
def wRD (r g fb : Nat) (i : Int) (x y : Value) (b2 : Bool) (k : Nat) (v : Value) (_ : World) : Prop := v = wvD r g fb i x y b2 k
def wgD : Nat → Option Bool := fun j => if j = 6 then some false else if j = 8 then some true else if j = 18 then some false else none

set_option maxRecDepth 100000 in
set_option maxHeartbeats 8000000 in
theorem wb_loop (c i v : Int) (t : Tm) (b1 b2 fr ui : Bool) (uf : Int → Bool) (S : Nat → Prop) (r fb m g : Nat) (x y byv : Value) (w : World) (hi0 : 0 ≤ i) (hi1 : i ≤ 255) (hv0 : 0 ≤ v) (hv1 : v ≤ 255)
    (hfr : t.free v = fr) (hui : uf i = ui) (hy : PT w S t y)
    (hh : w.heap[g]? = some (.cells #[.int .u8 c, .int .u8 i, x, y] 97 (0, 0)))
    (hr : w.heap[r]? = some (.cells #[.int .u8 v, byv, .map (some fb)] 93 (0, 0))) (hset : VSet w fb m uf)
    (ihf : ∀ (u : World) (S : Nat → Prop), PT u S t y → Calls Tryz.prog 36 #[y] u (FreeP t u))
    (ih1 : ∀ u : World, w.grownBy u none → Calls Tryz.prog 26 #[.pointer (some ⟨r, 0, none⟩), x] u (WBP b1 u))
    (ih2 : ∀ u : World, w.grownBy u none → Calls Tryz.prog 26 #[.pointer (some ⟨r, 0, none⟩), y] u (WBP b2 u)) :
    Calls Tryz.prog 26 #[.pointer (some ⟨r, 0, none⟩), .iface 94 (.pointer (some ⟨g, 0, none⟩))] w (WBP (b1 || ((decide (i ≠ v) && fr) && (ui || b2))) w) := by
  have ht5 := fun xT u => ta_loop_loop (.pointer (some ⟨g, 0, none⟩)) xT u
  have C1 := Lib.hid (show w.cell? ⟨g, 1, none⟩ = some (.int .u8 i) from cell_of_row w g 1 _ _ (0, 0) hh)
  have C2 := Lib.hid (show w.cell? ⟨g, 2, none⟩ = some x from cell_of_row w g 2 _ _ (0, 0) hh)
  have C3 := Lib.hid (show w.cell? ⟨g, 3, none⟩ = some y from cell_of_row w g 3 _ _ (0, 0) hh)
  have R0 := Lib.hid (show w.cell? ⟨r, 0, none⟩ = some (.int .u8 v) from cell_of_row w r 0 _ _ (0, 0) hr)
  have R2 := Lib.hid (show w.cell? ⟨r, 2, none⟩ = some (.map (some fb)) from cell_of_row w r 2 _ _ (0, 0) hr)
  have HF := Lib.hid ihf
  have HI1 := Lib.hid ih1
  have HI2 := Lib.hid ih2
  have HY := Lib.hid hy
  have HSET := Lib.hid hset
  have HFR := Lib.hid hfr
  have HUI := Lib.hid hui
  have c1 := C1.out
  have c3 := C3.out
  have r0 := R0.out
  obtain ⟨ci, hci⟩ : ∃ ci, (decide (i ≠ v) && fr) = ci := ⟨_, rfl⟩
  rw [hci]
  have HCI := Lib.hid hci
  clear ihf ih1 ih2 hh hr hy hset hfr hui hci
  go_enter Tryz.func26, Tryz.ntmps26
  go_upto_region 3 with fail
  go_cut [7] (fun q wx => q = .bool ci ∧ Hid (w.grownBy wx none))
  case first =>
    by_cases hiv : i = v
    · subst hiv
      have hne : (i != i) = false := by simp
      have HCF : Hid (ci = false) := Lib.hid (by rw [← HCI.out]; simp)
      go_quiet (fail)
      go_wp2_with fail
      go_meet
      exact ⟨by rw [HCF.out], Lib.hid (gr_drewN _ _ _)⟩
    · have hne : (i != v) = true := by simp [hiv]
      have HCF : Hid (ci = fr) := Lib.hid (by rw [← HCI.out]; simp [hiv])
      go_region_law (first
        | (go_simp
           go_at_call 36
           refine (HF.out _ S (HY.out.grown (gr_drewN w 1 none))).mono ?_
           rintro e wa ⟨b', rfl, _, hga, hva⟩
           have HGa := Lib.hid ((gr_drewN w 1 none).trans hga)
           have hlook := hva.look hv0 hv1
           rw [HFR.out] at hlook
           have r0a := HGa.out.cell r0 (by simp)
           have c1a := HGa.out.cell c1 (by simp)
           clear hga hva))
      all_goals
        go_wp2_with fail
        go_meet
        exact ⟨by rw [HCF.out], HGa⟩
  case rest =>
    obtain ⟨rfl, hgw⟩ := hcut
    have HSC := Lib.hid (HSET.out.grown hgw.out (by simp))
    have D1 := Lib.hid (hgw.out.cell C1.out (by simp))
    have D2 := Lib.hid (hgw.out.cell C2.out (by simp))
    have D3 := Lib.hid (hgw.out.cell C3.out (by simp))
    have Q2 := Lib.hid (hgw.out.cell R2.out (by simp))
    clear c1 c3 r0
    go_upto_region 4 with fail
    cases b1
    · cases ci
      · --B
        refine wp_region_gsteps (u := wc) 68 rfl (by kernel_rfl) (wRB r g x) wgB (by kernel_rfl) ?_ ?_ ?_ wc (gr_drewN wc 1 none)
        · intro k v w1 w2 h _; exact h
        · intro a' w' hdf hgr hfar hall
          have e4 : a'.tmps.getD 4 undef = .bool false := hall 28 _ 4 rfl rfl
          have e4' : a'.tmps[4]?.getD undef = .bool false := by rw [← e4]; simp
          go_wp2_with fail
          refine bodyPost_ret (v := .bool false) (by simp [results, Tryz.results26, go_sem, e4']) hdf ?_
          exact ⟨rfl, hgw.out.trans hgr⟩
        refine ⟨?_, ?_, ?_, ?_, ?_, ?_, ?_, ?_, ?_, ?_, ?_, ?_, ?_, ?_, ?_, ?_, ?_, ?_, ?_, ?_, ?_, ?_, ?_, ?_, ?_, ?_, ?_, ?_, ?_, trivial⟩
        · refine ⟨fun hact => ?_, fun hact w' => ?_, fun j p hj v w' hR => ?_⟩
          · intro a' w' hdf hgr hfar hdep
            have e0 : a'.tmps.getD 0 undef = .pointer (some ⟨r, 0, none⟩) := hfar 0 (by kernel_rfl)
            go_simp
            exact ⟨_, rfl, gr_refl _ _, rfl⟩
          · exact absurd hact (by decide)
          · cases hj
        · refine ⟨fun hact => ?_, fun hact w' => ?_, fun j p hj v w' hR => ?_⟩
          · intro a' w' hdf hgr hfar hdep
            have e5 : a'.tmps.getD 5 undef = .pointer (some ⟨g, 0, none⟩) := hfar 5 (by kernel_rfl)
            go_simp
            exact ⟨_, rfl, gr_refl _ _, rfl⟩
          · exact absurd hact (by decide)
          · cases hj
        · refine ⟨fun hact => ?_, fun hact w' => ?_, fun j p hj v w' hR => ?_⟩
          · intro a' w' hdf hgr hfar hdep
            have e36 : a'.tmps.getD 36 undef = .pointer (some ⟨g, 0, none⟩) := hdep 1 _ 36 (by kernel_rfl) rfl rfl
            go_simp
            exact ⟨_, rfl, gr_refl _ _, rfl⟩
          · exact absurd hact (by decide)
          · cases hj
        · refine ⟨fun hact => ?_, fun hact w' => ?_, fun j p hj v w' hR => ?_⟩
          · intro a' w' hdf hgr hfar hdep
            have e37 : a'.tmps.getD 37 undef = .pointer (some ⟨g, 0, none⟩) := hdep 2 _ 37 (by kernel_rfl) rfl rfl
            go_simp
            exact ⟨_, rfl, gr_refl _ _, rfl⟩
          · exact absurd hact (by decide)
          · cases hj
        · refine ⟨fun hact => ?_, fun hact w' => ?_, fun j p hj v w' hR => ?_⟩
          · intro a' w' hdf hgr hfar hdep
            have e38 : a'.tmps.getD 38 undef = .pointer (some ⟨g, 2, none⟩) := hdep 3 _ 38 (by kernel_rfl) rfl rfl
            have hc := hgr.cell D2.out (by simp)
            go_simp
            exact ⟨_, rfl, gr_refl _ _, rfl⟩
          · exact absurd hact (by decide)
          · cases hj
        · refine ⟨fun hact => ?_, fun hact w' => ?_, fun j p hj v w' hR => ?_⟩
          · intro a' w' hdf hgr hfar hdep
            have e35 : a'.tmps.getD 35 undef = .pointer (some ⟨r, 0, none⟩) := hdep 0 _ 35 (by kernel_rfl) rfl rfl
            have e39 : a'.tmps.getD 39 undef = x := hdep 4 _ 39 (by kernel_rfl) rfl rfl
            go_simp
            refine (HI1.out _ (hgw.out.trans hgr)).mono ?_
            rintro e w2 ⟨rfl, hg2⟩
            exact ⟨_, rfl, hg2, rfl⟩
          · exact absurd hact (by decide)
          · cases hj
        · refine ⟨fun hact => ?_, fun hact w' => ?_, fun j p hj v w' hR => ?_⟩
          · intro a' w' hdf hgr hfar hdep
            have e40 : a'.tmps.getD 40 undef = .bool false := hdep 5 _ 40 (by kernel_rfl) rfl rfl
            go_simp
            exact ⟨_, rfl, gr_refl _ _, rfl⟩
          · exact absurd hact (by decide)
          · cases hj
        · refine ⟨fun hact => ?_, fun hact w' => ?_, fun j p hj v w' hR => ?_⟩
          · intro a' w' hdf hgr hfar hdep
            have e7 : a'.tmps.getD 7 undef = .bool false := hfar 7 (by kernel_rfl)
            go_simp
            exact ⟨_, rfl, gr_refl _ _, rfl⟩
          · exact absurd hact (by decide)
          · cases hj
            have hR2 : v = wvB r g x 6 := hR
            subst hR2
            rfl
        · refine ⟨fun hact => ?_, fun hact w' => ?_, fun j p hj v w' hR => ?_⟩
          · intro a' w' hdf hgr hfar hdep
            have e42 : a'.tmps.getD 42 undef = .bool false := hdep 7 _ 42 (by kernel_rfl) rfl rfl
            go_simp
            exact ⟨_, rfl, gr_refl _ _, rfl⟩
          · exact absurd hact (by decide)
          · cases hj
            have hR2 : v = wvB r g x 6 := hR
            subst hR2
            rfl
        · refine ⟨fun hact => ?_, fun hact w' => ?_, fun j p hj v w' hR => ?_⟩
          · exact absurd hact (by decide)
          · first
            | rfl
            | exact absurd hact (by decide)
          · cases hj
            have hR2 : v = wvB r g x 8 := hR
            subst hR2
            rfl
        · refine ⟨fun hact => ?_, fun hact w' => ?_, fun j p hj v w' hR => ?_⟩
          · exact absurd hact (by decide)
          · first
            | rfl
            | exact absurd hact (by decide)
          · cases hj
            have hR2 : v = wvB r g x 8 := hR
            subst hR2
            rfl
        · refine ⟨fun hact => ?_, fun hact w' => ?_, fun j p hj v w' hR => ?_⟩
          · exact absurd hact (by decide)
          · first
            | rfl
            | exact absurd hact (by decide)
          · cases hj
            have hR2 : v = wvB r g x 8 := hR
            subst hR2
            rfl
        · refine ⟨fun hact => ?_, fun hact w' => ?_, fun j p hj v w' hR => ?_⟩
          · exact absurd hact (by decide)
          · first
            | rfl
            | exact absurd hact (by decide)
          · cases hj
            have hR2 : v = wvB r g x 8 := hR
            subst hR2
            rfl
        · refine ⟨fun hact => ?_, fun hact w' => ?_, fun j p hj v w' hR => ?_⟩
          · exact absurd hact (by decide)
          · first
            | rfl
            | exact absurd hact (by decide)
          · cases hj
            have hR2 : v = wvB r g x 8 := hR
            subst hR2
            rfl
        · refine ⟨fun hact => ?_, fun hact w' => ?_, fun j p hj v w' hR => ?_⟩
          · exact absurd hact (by decide)
          · first
            | rfl
            | exact absurd hact (by decide)
          · cases hj
            have hR2 : v = wvB r g x 8 := hR
            subst hR2
            rfl
        · refine ⟨fun hact => ?_, fun hact w' => ?_, fun j p hj v w' hR => ?_⟩
          · exact absurd hact (by decide)
          · first
            | rfl
            | exact absurd hact (by decide)
          · cases hj
            have hR2 : v = wvB r g x 8 := hR
            subst hR2
            rfl
        · refine ⟨fun hact => ?_, fun hact w' => ?_, fun j p hj v w' hR => ?_⟩
          · exact absurd hact (by decide)
          · first
            | rfl
            | exact absurd hact (by decide)
          · cases hj
            have hR2 : v = wvB r g x 8 := hR
            subst hR2
            rfl
        · refine ⟨fun hact => ?_, fun hact w' => ?_, fun j p hj v w' hR => ?_⟩
          · exact absurd hact (by decide)
          · first
            | rfl
            | exact absurd hact (by decide)
          · cases hj
            have hR2 : v = wvB r g x 8 := hR
            subst hR2
            rfl
        · refine ⟨fun hact => ?_, fun hact w' => ?_, fun j p hj v w' hR => ?_⟩
          · exact absurd hact (by decide)
          · first
            | rfl
            | exact absurd hact (by decide)
          · cases hj
            have hR2 : v = wvB r g x 8 := hR
            subst hR2
            rfl
        · refine ⟨fun hact => ?_, fun hact w' => ?_, fun j p hj v w' hR => ?_⟩
          · exact absurd hact (by decide)
          · first
            | rfl
            | exact absurd hact (by decide)
          · cases hj
            have hR2 : v = wvB r g x 18 := hR
            subst hR2
            rfl
        · refine ⟨fun hact => ?_, fun hact w' => ?_, fun j p hj v w' hR => ?_⟩
          · exact absurd hact (by decide)
          · first
            | rfl
            | exact absurd hact (by decide)
          · cases hj
            have hR2 : v = wvB r g x 18 := hR
            subst hR2
            rfl
        · refine ⟨fun hact => ?_, fun hact w' => ?_, fun j p hj v w' hR => ?_⟩
          · exact absurd hact (by decide)
          · first
            | rfl
            | exact absurd hact (by decide)
          · cases hj
            have hR2 : v = wvB r g x 18 := hR
            subst hR2
            rfl
        · refine ⟨fun hact => ?_, fun hact w' => ?_, fun j p hj v w' hR => ?_⟩
          · exact absurd hact (by decide)
          · first
            | rfl
            | exact absurd hact (by decide)
          · cases hj
            have hR2 : v = wvB r g x 18 := hR
            subst hR2
            rfl
        · refine ⟨fun hact => ?_, fun hact w' => ?_, fun j p hj v w' hR => ?_⟩
          · exact absurd hact (by decide)
          · first
            | rfl
            | exact absurd hact (by decide)
          · cases hj
            have hR2 : v = wvB r g x 18 := hR
            subst hR2
            rfl
        · refine ⟨fun hact => ?_, fun hact w' => ?_, fun j p hj v w' hR => ?_⟩
          · exact absurd hact (by decide)
          · first
            | rfl
            | exact absurd hact (by decide)
          · cases hj
            have hR2 : v = wvB r g x 18 := hR
            subst hR2
            rfl
        · refine ⟨fun hact => ?_, fun hact w' => ?_, fun j p hj v w' hR => ?_⟩
          · exact absurd hact (by decide)
          · first
            | rfl
            | exact absurd hact (by decide)
          · cases hj
            have hR2 : v = wvB r g x 8 := hR
            subst hR2
            rfl
        · refine ⟨fun hact => ?_, fun hact w' => ?_, fun j p hj v w' hR => ?_⟩
          · intro a' w' hdf hgr hfar hdep
            have e43 : a'.tmps.getD 43 undef = .bool false := hdep 8 _ 43 (by kernel_rfl) rfl rfl
            have e60 : a'.tmps.getD 60 undef = undef := hdep 25 _ 60 (by kernel_rfl) rfl rfl
            go_simp
            exact ⟨_, rfl, gr_refl _ _, rfl⟩
          · exact absurd hact (by decide)
          · cases hj
            have hR2 : v = wvB r g x 6 := hR
            subst hR2
            rfl
        · refine ⟨fun hact => ?_, fun hact w' => ?_, fun j p hj v w' hR => ?_⟩
          · intro a' w' hdf hgr hfar hdep
            have e41 : a'.tmps.getD 41 undef = .bool false := hdep 6 _ 41 (by kernel_rfl) rfl rfl
            have e61 : a'.tmps.getD 61 undef = .bool false := hdep 26 _ 61 (by kernel_rfl) rfl rfl
            go_simp
            exact ⟨_, rfl, gr_refl _ _, rfl⟩
          · exact absurd hact (by decide)
          · cases hj
        · refine ⟨fun hact => ?_, fun hact w' => ?_, fun j p hj v w' hR => ?_⟩
          · intro a' w' hdf hgr hfar hdep
            have e62 : a'.tmps.getD 62 undef = .bool false := hdep 27 _ 62 (by kernel_rfl) rfl rfl
            go_simp
            exact ⟨_, rfl, gr_refl _ _, rfl⟩
          · exact absurd hact (by decide)
          · cases hj
      · cases ui
        · --D
          refine wp_region_gsteps (u := wc) 68 rfl (by kernel_rfl) (wRD r g fb i x y b2) wgD (by kernel_rfl) ?_ ?_ ?_ wc (gr_drewN wc 1 none)
          · intro k v w1 w2 h _; exact h
          · intro a' w' hdf hgr hfar hall
            have e4 : a'.tmps.getD 4 undef = .bool b2 := hall 28 _ 4 rfl rfl
            have e4' : a'.tmps[4]?.getD undef = .bool b2 := by rw [← e4]; simp
            go_wp2_with fail
            refine bodyPost_ret (v := .bool b2) (by simp [results, Tryz.results26, go_sem, e4']) hdf ?_
            exact ⟨rfl, hgw.out.trans hgr⟩
          refine ⟨?_, ?_, ?_, ?_, ?_, ?_, ?_, ?_, ?_, ?_, ?_, ?_, ?_, ?_, ?_, ?_, ?_, ?_, ?_, ?_, ?_, ?_, ?_, ?_, ?_, ?_, ?_, ?_, ?_, trivial⟩
          · refine ⟨fun hact => ?_, fun hact w' => ?_, fun j p hj v w' hR => ?_⟩
            · intro a' w' hdf hgr hfar hdep
              have e0 : a'.tmps.getD 0 undef = .pointer (some ⟨r, 0, none⟩) := hfar 0 (by kernel_rfl)
              go_simp
              exact ⟨_, rfl, gr_refl _ _, rfl⟩
            · exact absurd hact (by decide)
            · cases hj
          · refine ⟨fun hact => ?_, fun hact w' => ?_, fun j p hj v w' hR => ?_⟩
            · intro a' w' hdf hgr hfar hdep
              have e5 : a'.tmps.getD 5 undef = .pointer (some ⟨g, 0, none⟩) := hfar 5 (by kernel_rfl)
              go_simp
              exact ⟨_, rfl, gr_refl _ _, rfl⟩
            · exact absurd hact (by decide)
            · cases hj
          · refine ⟨fun hact => ?_, fun hact w' => ?_, fun j p hj v w' hR => ?_⟩
            · intro a' w' hdf hgr hfar hdep
              have e36 : a'.tmps.getD 36 undef = .pointer (some ⟨g, 0, none⟩) := hdep 1 _ 36 (by kernel_rfl) rfl rfl
              go_simp
              exact ⟨_, rfl, gr_refl _ _, rfl⟩
            · exact absurd hact (by decide)
            · cases hj
          · refine ⟨fun hact => ?_, fun hact w' => ?_, fun j p hj v w' hR => ?_⟩
            · intro a' w' hdf hgr hfar hdep
              have e37 : a'.tmps.getD 37 undef = .pointer (some ⟨g, 0, none⟩) := hdep 2 _ 37 (by kernel_rfl) rfl rfl
              go_simp
              exact ⟨_, rfl, gr_refl _ _, rfl⟩
            · exact absurd hact (by decide)
            · cases hj
          · refine ⟨fun hact => ?_, fun hact w' => ?_, fun j p hj v w' hR => ?_⟩
            · intro a' w' hdf hgr hfar hdep
              have e38 : a'.tmps.getD 38 undef = .pointer (some ⟨g, 2, none⟩) := hdep 3 _ 38 (by kernel_rfl) rfl rfl
              have hc := hgr.cell D2.out (by simp)
              go_simp
              exact ⟨_, rfl, gr_refl _ _, rfl⟩
            · exact absurd hact (by decide)
            · cases hj
          · refine ⟨fun hact => ?_, fun hact w' => ?_, fun j p hj v w' hR => ?_⟩
            · intro a' w' hdf hgr hfar hdep
              have e35 : a'.tmps.getD 35 undef = .pointer (some ⟨r, 0, none⟩) := hdep 0 _ 35 (by kernel_rfl) rfl rfl
              have e39 : a'.tmps.getD 39 undef = x := hdep 4 _ 39 (by kernel_rfl) rfl rfl
              go_simp
              refine (HI1.out _ (hgw.out.trans hgr)).mono ?_
              rintro e w2 ⟨rfl, hg2⟩
              exact ⟨_, rfl, hg2, rfl⟩
            · exact absurd hact (by decide)
            · cases hj
          · refine ⟨fun hact => ?_, fun hact w' => ?_, fun j p hj v w' hR => ?_⟩
            · intro a' w' hdf hgr hfar hdep
              have e40 : a'.tmps.getD 40 undef = .bool false := hdep 5 _ 40 (by kernel_rfl) rfl rfl
              go_simp
              exact ⟨_, rfl, gr_refl _ _, rfl⟩
            · exact absurd hact (by decide)
            · cases hj
          · refine ⟨fun hact => ?_, fun hact w' => ?_, fun j p hj v w' hR => ?_⟩
            · intro a' w' hdf hgr hfar hdep
              have e7 : a'.tmps.getD 7 undef = .bool true := hfar 7 (by kernel_rfl)
              go_simp
              exact ⟨_, rfl, gr_refl _ _, rfl⟩
            · exact absurd hact (by decide)
            · cases hj
              have hR2 : v = wvD r g fb i x y b2 6 := hR
              subst hR2
              rfl
          · refine ⟨fun hact => ?_, fun hact w' => ?_, fun j p hj v w' hR => ?_⟩
            · intro a' w' hdf hgr hfar hdep
              have e42 : a'.tmps.getD 42 undef = .bool true := hdep 7 _ 42 (by kernel_rfl) rfl rfl
              go_simp
              exact ⟨_, rfl, gr_refl _ _, rfl⟩
            · exact absurd hact (by decide)
            · cases hj
              have hR2 : v = wvD r g fb i x y b2 6 := hR
              subst hR2
              rfl
          · refine ⟨fun hact => ?_, fun hact w' => ?_, fun j p hj v w' hR => ?_⟩
            · intro a' w' hdf hgr hfar hdep
              have e0 : a'.tmps.getD 0 undef = .pointer (some ⟨r, 0, none⟩) := hfar 0 (by kernel_rfl)
              go_simp
              exact ⟨_, rfl, gr_refl _ _, rfl⟩
            · exact absurd hact (by decide)
            · cases hj
              have hR2 : v = wvD r g fb i x y b2 8 := hR
              subst hR2
              rfl
          · refine ⟨fun hact => ?_, fun hact w' => ?_, fun j p hj v w' hR => ?_⟩
            · intro a' w' hdf hgr hfar hdep
              have e44 : a'.tmps.getD 44 undef = .pointer (some ⟨r, 0, none⟩) := hdep 9 _ 44 (by kernel_rfl) rfl rfl
              go_simp
              exact ⟨_, rfl, gr_refl _ _, rfl⟩
            · exact absurd hact (by decide)
            · cases hj
              have hR2 : v = wvD r g fb i x y b2 8 := hR
              subst hR2
              rfl
          · refine ⟨fun hact => ?_, fun hact w' => ?_, fun j p hj v w' hR => ?_⟩
            · intro a' w' hdf hgr hfar hdep
              have e45 : a'.tmps.getD 45 undef = .pointer (some ⟨r, 0, none⟩) := hdep 10 _ 45 (by kernel_rfl) rfl rfl
              go_simp
              exact ⟨_, rfl, gr_refl _ _, rfl⟩
            · exact absurd hact (by decide)
            · cases hj
              have hR2 : v = wvD r g fb i x y b2 8 := hR
              subst hR2
              rfl
          · refine ⟨fun hact => ?_, fun hact w' => ?_, fun j p hj v w' hR => ?_⟩
            · intro a' w' hdf hgr hfar hdep
              have e46 : a'.tmps.getD 46 undef = .pointer (some ⟨r, 2, none⟩) := hdep 11 _ 46 (by kernel_rfl) rfl rfl
              have hc := hgr.cell Q2.out (by simp)
              go_simp
              exact ⟨_, rfl, gr_refl _ _, rfl⟩
            · exact absurd hact (by decide)
            · cases hj
              have hR2 : v = wvD r g fb i x y b2 8 := hR
              subst hR2
              rfl
          · refine ⟨fun hact => ?_, fun hact w' => ?_, fun j p hj v w' hR => ?_⟩
            · intro a' w' hdf hgr hfar hdep
              have e5 : a'.tmps.getD 5 undef = .pointer (some ⟨g, 0, none⟩) := hfar 5 (by kernel_rfl)
              go_simp
              exact ⟨_, rfl, gr_refl _ _, rfl⟩
            · exact absurd hact (by decide)
            · cases hj
              have hR2 : v = wvD r g fb i x y b2 8 := hR
              subst hR2
              rfl
          · refine ⟨fun hact => ?_, fun hact w' => ?_, fun j p hj v w' hR => ?_⟩
            · intro a' w' hdf hgr hfar hdep
              have e48 : a'.tmps.getD 48 undef = .pointer (some ⟨g, 0, none⟩) := hdep 13 _ 48 (by kernel_rfl) rfl rfl
              go_simp
              exact ⟨_, rfl, gr_refl _ _, rfl⟩
            · exact absurd hact (by decide)
            · cases hj
              have hR2 : v = wvD r g fb i x y b2 8 := hR
              subst hR2
              rfl
          · refine ⟨fun hact => ?_, fun hact w' => ?_, fun j p hj v w' hR => ?_⟩
            · intro a' w' hdf hgr hfar hdep
              have e49 : a'.tmps.getD 49 undef = .pointer (some ⟨g, 0, none⟩) := hdep 14 _ 49 (by kernel_rfl) rfl rfl
              go_simp
              exact ⟨_, rfl, gr_refl _ _, rfl⟩
            · exact absurd hact (by decide)
            · cases hj
              have hR2 : v = wvD r g fb i x y b2 8 := hR
              subst hR2
              rfl
          · refine ⟨fun hact => ?_, fun hact w' => ?_, fun j p hj v w' hR => ?_⟩
            · intro a' w' hdf hgr hfar hdep
              have e50 : a'.tmps.getD 50 undef = .pointer (some ⟨g, 1, none⟩) := hdep 15 _ 50 (by kernel_rfl) rfl rfl
              have hc := hgr.cell D1.out (by simp)
              go_simp
              exact ⟨_, rfl, gr_refl _ _, rfl⟩
            · exact absurd hact (by decide)
            · cases hj
              have hR2 : v = wvD r g fb i x y b2 8 := hR
              subst hR2
              rfl
          · refine ⟨fun hact => ?_, fun hact w' => ?_, fun j p hj v w' hR => ?_⟩
            · intro a' w' hdf hgr hfar hdep
              have e47 : a'.tmps.getD 47 undef = .map (some fb) := hdep 12 _ 47 (by kernel_rfl) rfl rfl
              have e51 : a'.tmps.getD 51 undef = .int .u8 i := hdep 16 _ 51 (by kernel_rfl) rfl rfl
              have hl := (HSC.out.grown hgr (by simp)).look hi0 hi1
              rw [HUI.out] at hl
              go_simp
              exact ⟨_, rfl, gr_refl _ _, rfl⟩
            · exact absurd hact (by decide)
            · cases hj
              have hR2 : v = wvD r g fb i x y b2 8 := hR
              subst hR2
              rfl
          · refine ⟨fun hact => ?_, fun hact w' => ?_, fun j p hj v w' hR => ?_⟩
            · intro a' w' hdf hgr hfar hdep
              have e52 : a'.tmps.getD 52 undef = .bool false := hdep 17 _ 52 (by kernel_rfl) rfl rfl
              go_simp
              exact ⟨_, rfl, gr_refl _ _, rfl⟩
            · exact absurd hact (by decide)
            · cases hj
              have hR2 : v = wvD r g fb i x y b2 8 := hR
              subst hR2
              rfl
          · refine ⟨fun hact => ?_, fun hact w' => ?_, fun j p hj v w' hR => ?_⟩
            · intro a' w' hdf hgr hfar hdep
              have e0 : a'.tmps.getD 0 undef = .pointer (some ⟨r, 0, none⟩) := hfar 0 (by kernel_rfl)
              go_simp
              exact ⟨_, rfl, gr_refl _ _, rfl⟩
            · exact absurd hact (by decide)
            · cases hj
              have hR2 : v = wvD r g fb i x y b2 18 := hR
              subst hR2
              rfl
          · refine ⟨fun hact => ?_, fun hact w' => ?_, fun j p hj v w' hR => ?_⟩
            · intro a' w' hdf hgr hfar hdep
              have e5 : a'.tmps.getD 5 undef = .pointer (some ⟨g, 0, none⟩) := hfar 5 (by kernel_rfl)
              go_simp
              exact ⟨_, rfl, gr_refl _ _, rfl⟩
            · exact absurd hact (by decide)
            · cases hj
              have hR2 : v = wvD r g fb i x y b2 18 := hR
              subst hR2
              rfl
          · refine ⟨fun hact => ?_, fun hact w' => ?_, fun j p hj v w' hR => ?_⟩
            · intro a' w' hdf hgr hfar hdep
              have e55 : a'.tmps.getD 55 undef = .pointer (some ⟨g, 0, none⟩) := hdep 20 _ 55 (by kernel_rfl) rfl rfl
              go_simp
              exact ⟨_, rfl, gr_refl _ _, rfl⟩
            · exact absurd hact (by decide)
            · cases hj
              have hR2 : v = wvD r g fb i x y b2 18 := hR
              subst hR2
              rfl
          · refine ⟨fun hact => ?_, fun hact w' => ?_, fun j p hj v w' hR => ?_⟩
            · intro a' w' hdf hgr hfar hdep
              have e56 : a'.tmps.getD 56 undef = .pointer (some ⟨g, 0, none⟩) := hdep 21 _ 56 (by kernel_rfl) rfl rfl
              go_simp
              exact ⟨_, rfl, gr_refl _ _, rfl⟩
            · exact absurd hact (by decide)
            · cases hj
              have hR2 : v = wvD r g fb i x y b2 18 := hR
              subst hR2
              rfl
          · refine ⟨fun hact => ?_, fun hact w' => ?_, fun j p hj v w' hR => ?_⟩
            · intro a' w' hdf hgr hfar hdep
              have e57 : a'.tmps.getD 57 undef = .pointer (some ⟨g, 3, none⟩) := hdep 22 _ 57 (by kernel_rfl) rfl rfl
              have hc := hgr.cell D3.out (by simp)
              go_simp
              exact ⟨_, rfl, gr_refl _ _, rfl⟩
            · exact absurd hact (by decide)
            · cases hj
              have hR2 : v = wvD r g fb i x y b2 18 := hR
              subst hR2
              rfl
          · refine ⟨fun hact => ?_, fun hact w' => ?_, fun j p hj v w' hR => ?_⟩
            · intro a' w' hdf hgr hfar hdep
              have e54 : a'.tmps.getD 54 undef = .pointer (some ⟨r, 0, none⟩) := hdep 19 _ 54 (by kernel_rfl) rfl rfl
              have e58 : a'.tmps.getD 58 undef = y := hdep 23 _ 58 (by kernel_rfl) rfl rfl
              go_simp
              refine (HI2.out _ (hgw.out.trans hgr)).mono ?_
              rintro e w2 ⟨rfl, hg2⟩
              exact ⟨_, rfl, hg2, rfl⟩
            · exact absurd hact (by decide)
            · cases hj
              have hR2 : v = wvD r g fb i x y b2 18 := hR
              subst hR2
              rfl
          · refine ⟨fun hact => ?_, fun hact w' => ?_, fun j p hj v w' hR => ?_⟩
            · intro a' w' hdf hgr hfar hdep
              have e53 : a'.tmps.getD 53 undef = .bool false := hdep 18 _ 53 (by kernel_rfl) rfl rfl
              have e59 : a'.tmps.getD 59 undef = .bool b2 := hdep 24 _ 59 (by kernel_rfl) rfl rfl
              go_simp
              exact ⟨_, rfl, gr_refl _ _, rfl⟩
            · exact absurd hact (by decide)
            · cases hj
              have hR2 : v = wvD r g fb i x y b2 8 := hR
              subst hR2
              rfl
          · refine ⟨fun hact => ?_, fun hact w' => ?_, fun j p hj v w' hR => ?_⟩
            · intro a' w' hdf hgr hfar hdep
              have e43 : a'.tmps.getD 43 undef = .bool true := hdep 8 _ 43 (by kernel_rfl) rfl rfl
              have e60 : a'.tmps.getD 60 undef = .bool b2 := hdep 25 _ 60 (by kernel_rfl) rfl rfl
              go_simp
              exact ⟨_, rfl, gr_refl _ _, rfl⟩
            · exact absurd hact (by decide)
            · cases hj
              have hR2 : v = wvD r g fb i x y b2 6 := hR
              subst hR2
              rfl
          · refine ⟨fun hact => ?_, fun hact w' => ?_, fun j p hj v w' hR => ?_⟩
            · intro a' w' hdf hgr hfar hdep
              have e41 : a'.tmps.getD 41 undef = .bool false := hdep 6 _ 41 (by kernel_rfl) rfl rfl
              have e61 : a'.tmps.getD 61 undef = .bool b2 := hdep 26 _ 61 (by kernel_rfl) rfl rfl
              go_simp
              exact ⟨_, rfl, gr_refl _ _, rfl⟩
            · exact absurd hact (by decide)
            · cases hj
          · refine ⟨fun hact => ?_, fun hact w' => ?_, fun j p hj v w' hR => ?_⟩
            · intro a' w' hdf hgr hfar hdep
              have e62 : a'.tmps.getD 62 undef = .bool b2 := hdep 27 _ 62 (by kernel_rfl) rfl rfl
              go_simp
              exact ⟨_, rfl, gr_refl _ _, rfl⟩
            · exact absurd hact (by decide)
            · cases hj
        · --C
          refine wp_region_gsteps (u := wc) 68 rfl (by kernel_rfl) (wRC r g fb i x) wgC (by kernel_rfl) ?_ ?_ ?_ wc (gr_drewN wc 1 none)
          · intro k v w1 w2 h _; exact h
          · intro a' w' hdf hgr hfar hall
            have e4 : a'.tmps.getD 4 undef = .bool true := hall 28 _ 4 rfl rfl
            have e4' : a'.tmps[4]?.getD undef = .bool true := by rw [← e4]; simp
            go_wp2_with fail
            refine bodyPost_ret (v := .bool true) (by simp [results, Tryz.results26, go_sem, e4']) hdf ?_
            exact ⟨rfl, hgw.out.trans hgr⟩
          refine ⟨?_, ?_, ?_, ?_, ?_, ?_, ?_, ?_, ?_, ?_, ?_, ?_, ?_, ?_, ?_, ?_, ?_, ?_, ?_, ?_, ?_, ?_, ?_, ?_, ?_, ?_, ?_, ?_, ?_, trivial⟩
          · refine ⟨fun hact => ?_, fun hact w' => ?_, fun j p hj v w' hR => ?_⟩
            · intro a' w' hdf hgr hfar hdep
              have e0 : a'.tmps.getD 0 undef = .pointer (some ⟨r, 0, none⟩) := hfar 0 (by kernel_rfl)
              go_simp
              exact ⟨_, rfl, gr_refl _ _, rfl⟩
            · exact absurd hact (by decide)
            · cases hj
          · refine ⟨fun hact => ?_, fun hact w' => ?_, fun j p hj v w' hR => ?_⟩
            · intro a' w' hdf hgr hfar hdep
              have e5 : a'.tmps.getD 5 undef = .pointer (some ⟨g, 0, none⟩) := hfar 5 (by kernel_rfl)
              go_simp
              exact ⟨_, rfl, gr_refl _ _, rfl⟩
            · exact absurd hact (by decide)
            · cases hj
          · refine ⟨fun hact => ?_, fun hact w' => ?_, fun j p hj v w' hR => ?_⟩
            · intro a' w' hdf hgr hfar hdep
              have e36 : a'.tmps.getD 36 undef = .pointer (some ⟨g, 0, none⟩) := hdep 1 _ 36 (by kernel_rfl) rfl rfl
              go_simp
              exact ⟨_, rfl, gr_refl _ _, rfl⟩
            · exact absurd hact (by decide)
            · cases hj
          · refine ⟨fun hact => ?_, fun hact w' => ?_, fun j p hj v w' hR => ?_⟩
            · intro a' w' hdf hgr hfar hdep
              have e37 : a'.tmps.getD 37 undef = .pointer (some ⟨g, 0, none⟩) := hdep 2 _ 37 (by kernel_rfl) rfl rfl
              go_simp
              exact ⟨_, rfl, gr_refl _ _, rfl⟩
            · exact absurd hact (by decide)
            · cases hj
          · refine ⟨fun hact => ?_, fun hact w' => ?_, fun j p hj v w' hR => ?_⟩
            · intro a' w' hdf hgr hfar hdep
              have e38 : a'.tmps.getD 38 undef = .pointer (some ⟨g, 2, none⟩) := hdep 3 _ 38 (by kernel_rfl) rfl rfl
              have hc := hgr.cell D2.out (by simp)
              go_simp
              exact ⟨_, rfl, gr_refl _ _, rfl⟩
            · exact absurd hact (by decide)
            · cases hj
          · refine ⟨fun hact => ?_, fun hact w' => ?_, fun j p hj v w' hR => ?_⟩
            · intro a' w' hdf hgr hfar hdep
              have e35 : a'.tmps.getD 35 undef = .pointer (some ⟨r, 0, none⟩) := hdep 0 _ 35 (by kernel_rfl) rfl rfl
              have e39 : a'.tmps.getD 39 undef = x := hdep 4 _ 39 (by kernel_rfl) rfl rfl
              go_simp
              refine (HI1.out _ (hgw.out.trans hgr)).mono ?_
              rintro e w2 ⟨rfl, hg2⟩
              exact ⟨_, rfl, hg2, rfl⟩
            · exact absurd hact (by decide)
            · cases hj
          · refine ⟨fun hact => ?_, fun hact w' => ?_, fun j p hj v w' hR => ?_⟩
            · intro a' w' hdf hgr hfar hdep
              have e40 : a'.tmps.getD 40 undef = .bool false := hdep 5 _ 40 (by kernel_rfl) rfl rfl
              go_simp
              exact ⟨_, rfl, gr_refl _ _, rfl⟩
            · exact absurd hact (by decide)
            · cases hj
          · refine ⟨fun hact => ?_, fun hact w' => ?_, fun j p hj v w' hR => ?_⟩
            · intro a' w' hdf hgr hfar hdep
              have e7 : a'.tmps.getD 7 undef = .bool true := hfar 7 (by kernel_rfl)
              go_simp
              exact ⟨_, rfl, gr_refl _ _, rfl⟩
            · exact absurd hact (by decide)
            · cases hj
              have hR2 : v = wvC r g fb i x 6 := hR
              subst hR2
              rfl
          · refine ⟨fun hact => ?_, fun hact w' => ?_, fun j p hj v w' hR => ?_⟩
            · intro a' w' hdf hgr hfar hdep
              have e42 : a'.tmps.getD 42 undef = .bool true := hdep 7 _ 42 (by kernel_rfl) rfl rfl
              go_simp
              exact ⟨_, rfl, gr_refl _ _, rfl⟩
            · exact absurd hact (by decide)
            · cases hj
              have hR2 : v = wvC r g fb i x 6 := hR
              subst hR2
              rfl
          · refine ⟨fun hact => ?_, fun hact w' => ?_, fun j p hj v w' hR => ?_⟩
            · intro a' w' hdf hgr hfar hdep
              have e0 : a'.tmps.getD 0 undef = .pointer (some ⟨r, 0, none⟩) := hfar 0 (by kernel_rfl)
              go_simp
              exact ⟨_, rfl, gr_refl _ _, rfl⟩
            · exact absurd hact (by decide)
            · cases hj
              have hR2 : v = wvC r g fb i x 8 := hR
              subst hR2
              rfl
          · refine ⟨fun hact => ?_, fun hact w' => ?_, fun j p hj v w' hR => ?_⟩
            · intro a' w' hdf hgr hfar hdep
              have e44 : a'.tmps.getD 44 undef = .pointer (some ⟨r, 0, none⟩) := hdep 9 _ 44 (by kernel_rfl) rfl rfl
              go_simp
              exact ⟨_, rfl, gr_refl _ _, rfl⟩
            · exact absurd hact (by decide)
            · cases hj
              have hR2 : v = wvC r g fb i x 8 := hR
              subst hR2
              rfl
          · refine ⟨fun hact => ?_, fun hact w' => ?_, fun j p hj v w' hR => ?_⟩
            · intro a' w' hdf hgr hfar hdep
              have e45 : a'.tmps.getD 45 undef = .pointer (some ⟨r, 0, none⟩) := hdep 10 _ 45 (by kernel_rfl) rfl rfl
              go_simp
              exact ⟨_, rfl, gr_refl _ _, rfl⟩
            · exact absurd hact (by decide)
            · cases hj
              have hR2 : v = wvC r g fb i x 8 := hR
              subst hR2
              rfl
          · refine ⟨fun hact => ?_, fun hact w' => ?_, fun j p hj v w' hR => ?_⟩
            · intro a' w' hdf hgr hfar hdep
              have e46 : a'.tmps.getD 46 undef = .pointer (some ⟨r, 2, none⟩) := hdep 11 _ 46 (by kernel_rfl) rfl rfl
              have hc := hgr.cell Q2.out (by simp)
              go_simp
              exact ⟨_, rfl, gr_refl _ _, rfl⟩
            · exact absurd hact (by decide)
            · cases hj
              have hR2 : v = wvC r g fb i x 8 := hR
              subst hR2
              rfl
          · refine ⟨fun hact => ?_, fun hact w' => ?_, fun j p hj v w' hR => ?_⟩
            · intro a' w' hdf hgr hfar hdep
              have e5 : a'.tmps.getD 5 undef = .pointer (some ⟨g, 0, none⟩) := hfar 5 (by kernel_rfl)
              go_simp
              exact ⟨_, rfl, gr_refl _ _, rfl⟩
            · exact absurd hact (by decide)
            · cases hj
              have hR2 : v = wvC r g fb i x 8 := hR
              subst hR2
              rfl
          · refine ⟨fun hact => ?_, fun hact w' => ?_, fun j p hj v w' hR => ?_⟩
            · intro a' w' hdf hgr hfar hdep
              have e48 : a'.tmps.getD 48 undef = .pointer (some ⟨g, 0, none⟩) := hdep 13 _ 48 (by kernel_rfl) rfl rfl
              go_simp
              exact ⟨_, rfl, gr_refl _ _, rfl⟩
            · exact absurd hact (by decide)
            · cases hj
              have hR2 : v = wvC r g fb i x 8 := hR
              subst hR2
              rfl
          · refine ⟨fun hact => ?_, fun hact w' => ?_, fun j p hj v w' hR => ?_⟩
            · intro a' w' hdf hgr hfar hdep
              have e49 : a'.tmps.getD 49 undef = .pointer (some ⟨g, 0, none⟩) := hdep 14 _ 49 (by kernel_rfl) rfl rfl
              go_simp
              exact ⟨_, rfl, gr_refl _ _, rfl⟩
            · exact absurd hact (by decide)
            · cases hj
              have hR2 : v = wvC r g fb i x 8 := hR
              subst hR2
              rfl
          · refine ⟨fun hact => ?_, fun hact w' => ?_, fun j p hj v w' hR => ?_⟩
            · intro a' w' hdf hgr hfar hdep
              have e50 : a'.tmps.getD 50 undef = .pointer (some ⟨g, 1, none⟩) := hdep 15 _ 50 (by kernel_rfl) rfl rfl
              have hc := hgr.cell D1.out (by simp)
              go_simp
              exact ⟨_, rfl, gr_refl _ _, rfl⟩
            · exact absurd hact (by decide)
            · cases hj
              have hR2 : v = wvC r g fb i x 8 := hR
              subst hR2
              rfl
          · refine ⟨fun hact => ?_, fun hact w' => ?_, fun j p hj v w' hR => ?_⟩
            · intro a' w' hdf hgr hfar hdep
              have e47 : a'.tmps.getD 47 undef = .map (some fb) := hdep 12 _ 47 (by kernel_rfl) rfl rfl
              have e51 : a'.tmps.getD 51 undef = .int .u8 i := hdep 16 _ 51 (by kernel_rfl) rfl rfl
              have hl := (HSC.out.grown hgr (by simp)).look hi0 hi1
              rw [HUI.out] at hl
              go_simp
              exact ⟨_, rfl, gr_refl _ _, rfl⟩
            · exact absurd hact (by decide)
            · cases hj
              have hR2 : v = wvC r g fb i x 8 := hR
              subst hR2
              rfl
          · refine ⟨fun hact => ?_, fun hact w' => ?_, fun j p hj v w' hR => ?_⟩
            · intro a' w' hdf hgr hfar hdep
              have e52 : a'.tmps.getD 52 undef = .bool true := hdep 17 _ 52 (by kernel_rfl) rfl rfl
              go_simp
              exact ⟨_, rfl, gr_refl _ _, rfl⟩
            · exact absurd hact (by decide)
            · cases hj
              have hR2 : v = wvC r g fb i x 8 := hR
              subst hR2
              rfl
          · refine ⟨fun hact => ?_, fun hact w' => ?_, fun j p hj v w' hR => ?_⟩
            · exact absurd hact (by decide)
            · first
              | rfl
              | exact absurd hact (by decide)
            · cases hj
              have hR2 : v = wvC r g fb i x 18 := hR
              subst hR2
              rfl
          · refine ⟨fun hact => ?_, fun hact w' => ?_, fun j p hj v w' hR => ?_⟩
            · exact absurd hact (by decide)
            · first
              | rfl
              | exact absurd hact (by decide)
            · cases hj
              have hR2 : v = wvC r g fb i x 18 := hR
              subst hR2
              rfl
          · refine ⟨fun hact => ?_, fun hact w' => ?_, fun j p hj v w' hR => ?_⟩
            · exact absurd hact (by decide)
            · first
              | rfl
              | exact absurd hact (by decide)
            · cases hj
              have hR2 : v = wvC r g fb i x 18 := hR
              subst hR2
              rfl
          · refine ⟨fun hact => ?_, fun hact w' => ?_, fun j p hj v w' hR => ?_⟩
            · exact absurd hact (by decide)
            · first
              | rfl
              | exact absurd hact (by decide)
            · cases hj
              have hR2 : v = wvC r g fb i x 18 := hR
              subst hR2
              rfl
          · refine ⟨fun hact => ?_, fun hact w' => ?_, fun j p hj v w' hR => ?_⟩
            · exact absurd hact (by decide)
            · first
              | rfl
              | exact absurd hact (by decide)
            · cases hj
              have hR2 : v = wvC r g fb i x 18 := hR
              subst hR2
              rfl
          · refine ⟨fun hact => ?_, fun hact w' => ?_, fun j p hj v w' hR => ?_⟩
            · exact absurd hact (by decide)
            · first
              | rfl
              | exact absurd hact (by decide)
            · cases hj
              have hR2 : v = wvC r g fb i x 18 := hR
              subst hR2
              rfl
          · refine ⟨fun hact => ?_, fun hact w' => ?_, fun j p hj v w' hR => ?_⟩
            · intro a' w' hdf hgr hfar hdep
              have e53 : a'.tmps.getD 53 undef = .bool true := hdep 18 _ 53 (by kernel_rfl) rfl rfl
              have e59 : a'.tmps.getD 59 undef = undef := hdep 24 _ 59 (by kernel_rfl) rfl rfl
              go_simp
              exact ⟨_, rfl, gr_refl _ _, rfl⟩
            · exact absurd hact (by decide)
            · cases hj
              have hR2 : v = wvC r g fb i x 8 := hR
              subst hR2
              rfl
          · refine ⟨fun hact => ?_, fun hact w' => ?_, fun j p hj v w' hR => ?_⟩
            · intro a' w' hdf hgr hfar hdep
              have e43 : a'.tmps.getD 43 undef = .bool true := hdep 8 _ 43 (by kernel_rfl) rfl rfl
              have e60 : a'.tmps.getD 60 undef = .bool true := hdep 25 _ 60 (by kernel_rfl) rfl rfl
              go_simp
              exact ⟨_, rfl, gr_refl _ _, rfl⟩
            · exact absurd hact (by decide)
            · cases hj
              have hR2 : v = wvC r g fb i x 6 := hR
              subst hR2
              rfl
          · refine ⟨fun hact => ?_, fun hact w' => ?_, fun j p hj v w' hR => ?_⟩
            · intro a' w' hdf hgr hfar hdep
              have e41 : a'.tmps.getD 41 undef = .bool false := hdep 6 _ 41 (by kernel_rfl) rfl rfl
              have e61 : a'.tmps.getD 61 undef = .bool true := hdep 26 _ 61 (by kernel_rfl) rfl rfl
              go_simp
              exact ⟨_, rfl, gr_refl _ _, rfl⟩
            · exact absurd hact (by decide)
            · cases hj
          · refine ⟨fun hact => ?_, fun hact w' => ?_, fun j p hj v w' hR => ?_⟩
            · intro a' w' hdf hgr hfar hdep
              have e62 : a'.tmps.getD 62 undef = .bool true := hdep 27 _ 62 (by kernel_rfl) rfl rfl
              go_simp
              exact ⟨_, rfl, gr_refl _ _, rfl⟩
            · exact absurd hact (by decide)
            · cases hj
    · --A
      refine wp_region_gsteps (u := wc) 68 rfl (by kernel_rfl) (wRA r g x) wgA (by kernel_rfl) ?_ ?_ ?_ wc (gr_drewN wc 1 none)
      · intro k v w1 w2 h _; exact h
      · intro a' w' hdf hgr hfar hall
        have e4 : a'.tmps.getD 4 undef = .bool true := hall 28 _ 4 rfl rfl
        have e4' : a'.tmps[4]?.getD undef = .bool true := by rw [← e4]; simp
        go_wp2_with fail
        refine bodyPost_ret (v := .bool true) (by simp [results, Tryz.results26, go_sem, e4']) hdf ?_
        exact ⟨rfl, hgw.out.trans hgr⟩
      refine ⟨?_, ?_, ?_, ?_, ?_, ?_, ?_, ?_, ?_, ?_, ?_, ?_, ?_, ?_, ?_, ?_, ?_, ?_, ?_, ?_, ?_, ?_, ?_, ?_, ?_, ?_, ?_, ?_, ?_, trivial⟩
      · refine ⟨fun hact => ?_, fun hact w' => ?_, fun j p hj v w' hR => ?_⟩
        · intro a' w' hdf hgr hfar hdep
          have e0 : a'.tmps.getD 0 undef = .pointer (some ⟨r, 0, none⟩) := hfar 0 (by kernel_rfl)
          go_simp
          exact ⟨_, rfl, gr_refl _ _, rfl⟩
        · exact absurd hact (by decide)
        · cases hj
      · refine ⟨fun hact => ?_, fun hact w' => ?_, fun j p hj v w' hR => ?_⟩
        · intro a' w' hdf hgr hfar hdep
          have e5 : a'.tmps.getD 5 undef = .pointer (some ⟨g, 0, none⟩) := hfar 5 (by kernel_rfl)
          go_simp
          exact ⟨_, rfl, gr_refl _ _, rfl⟩
        · exact absurd hact (by decide)
        · cases hj
      · refine ⟨fun hact => ?_, fun hact w' => ?_, fun j p hj v w' hR => ?_⟩
        · intro a' w' hdf hgr hfar hdep
          have e36 : a'.tmps.getD 36 undef = .pointer (some ⟨g, 0, none⟩) := hdep 1 _ 36 (by kernel_rfl) rfl rfl
          go_simp
          exact ⟨_, rfl, gr_refl _ _, rfl⟩
        · exact absurd hact (by decide)
        · cases hj
      · refine ⟨fun hact => ?_, fun hact w' => ?_, fun j p hj v w' hR => ?_⟩
        · intro a' w' hdf hgr hfar hdep
          have e37 : a'.tmps.getD 37 undef = .pointer (some ⟨g, 0, none⟩) := hdep 2 _ 37 (by kernel_rfl) rfl rfl
          go_simp
          exact ⟨_, rfl, gr_refl _ _, rfl⟩
        · exact absurd hact (by decide)
        · cases hj
      · refine ⟨fun hact => ?_, fun hact w' => ?_, fun j p hj v w' hR => ?_⟩
        · intro a' w' hdf hgr hfar hdep
          have e38 : a'.tmps.getD 38 undef = .pointer (some ⟨g, 2, none⟩) := hdep 3 _ 38 (by kernel_rfl) rfl rfl
          have hc := hgr.cell D2.out (by simp)
          go_simp
          exact ⟨_, rfl, gr_refl _ _, rfl⟩
        · exact absurd hact (by decide)
        · cases hj
      · refine ⟨fun hact => ?_, fun hact w' => ?_, fun j p hj v w' hR => ?_⟩
        · intro a' w' hdf hgr hfar hdep
          have e35 : a'.tmps.getD 35 undef = .pointer (some ⟨r, 0, none⟩) := hdep 0 _ 35 (by kernel_rfl) rfl rfl
          have e39 : a'.tmps.getD 39 undef = x := hdep 4 _ 39 (by kernel_rfl) rfl rfl
          go_simp
          refine (HI1.out _ (hgw.out.trans hgr)).mono ?_
          rintro e w2 ⟨rfl, hg2⟩
          exact ⟨_, rfl, hg2, rfl⟩
        · exact absurd hact (by decide)
        · cases hj
      · refine ⟨fun hact => ?_, fun hact w' => ?_, fun j p hj v w' hR => ?_⟩
        · intro a' w' hdf hgr hfar hdep
          have e40 : a'.tmps.getD 40 undef = .bool true := hdep 5 _ 40 (by kernel_rfl) rfl rfl
          go_simp
          exact ⟨_, rfl, gr_refl _ _, rfl⟩
        · exact absurd hact (by decide)
        · cases hj
      · refine ⟨fun hact => ?_, fun hact w' => ?_, fun j p hj v w' hR => ?_⟩
        · exact absurd hact (by decide)
        · first
          | rfl
          | exact absurd hact (by decide)
        · cases hj
          have hR2 : v = wvA r g x 6 := hR
          subst hR2
          rfl
      · refine ⟨fun hact => ?_, fun hact w' => ?_, fun j p hj v w' hR => ?_⟩
        · exact absurd hact (by decide)
        · first
          | rfl
          | exact absurd hact (by decide)
        · cases hj
          have hR2 : v = wvA r g x 6 := hR
          subst hR2
          rfl
      · refine ⟨fun hact => ?_, fun hact w' => ?_, fun j p hj v w' hR => ?_⟩
        · exact absurd hact (by decide)
        · first
          | rfl
          | exact absurd hact (by decide)
        · cases hj
          have hR2 : v = wvA r g x 8 := hR
          subst hR2
          rfl
      · refine ⟨fun hact => ?_, fun hact w' => ?_, fun j p hj v w' hR => ?_⟩
        · exact absurd hact (by decide)
        · first
          | rfl
          | exact absurd hact (by decide)
        · cases hj
          have hR2 : v = wvA r g x 8 := hR
          subst hR2
          rfl
      · refine ⟨fun hact => ?_, fun hact w' => ?_, fun j p hj v w' hR => ?_⟩
        · exact absurd hact (by decide)
        · first
          | rfl
          | exact absurd hact (by decide)
        · cases hj
          have hR2 : v = wvA r g x 8 := hR
          subst hR2
          rfl
      · refine ⟨fun hact => ?_, fun hact w' => ?_, fun j p hj v w' hR => ?_⟩
        · exact absurd hact (by decide)
        · first
          | rfl
          | exact absurd hact (by decide)
        · cases hj
          have hR2 : v = wvA r g x 8 := hR
          subst hR2
          rfl
      · refine ⟨fun hact => ?_, fun hact w' => ?_, fun j p hj v w' hR => ?_⟩
        · exact absurd hact (by decide)
        · first
          | rfl
          | exact absurd hact (by decide)
        · cases hj
          have hR2 : v = wvA r g x 8 := hR
          subst hR2
          rfl
      · refine ⟨fun hact => ?_, fun hact w' => ?_, fun j p hj v w' hR => ?_⟩
        · exact absurd hact (by decide)
        · first
          | rfl
          | exact absurd hact (by decide)
        · cases hj
          have hR2 : v = wvA r g x 8 := hR
          subst hR2
          rfl
      · refine ⟨fun hact => ?_, fun hact w' => ?_, fun j p hj v w' hR => ?_⟩
        · exact absurd hact (by decide)
        · first
          | rfl
          | exact absurd hact (by decide)
        · cases hj
          have hR2 : v = wvA r g x 8 := hR
          subst hR2
          rfl
      · refine ⟨fun hact => ?_, fun hact w' => ?_, fun j p hj v w' hR => ?_⟩
        · exact absurd hact (by decide)
        · first
          | rfl
          | exact absurd hact (by decide)
        · cases hj
          have hR2 : v = wvA r g x 8 := hR
          subst hR2
          rfl
      · refine ⟨fun hact => ?_, fun hact w' => ?_, fun j p hj v w' hR => ?_⟩
        · exact absurd hact (by decide)
        · first
          | rfl
          | exact absurd hact (by decide)
        · cases hj
          have hR2 : v = wvA r g x 8 := hR
          subst hR2
          rfl
      · refine ⟨fun hact => ?_, fun hact w' => ?_, fun j p hj v w' hR => ?_⟩
        · exact absurd hact (by decide)
        · first
          | rfl
          | exact absurd hact (by decide)
        · cases hj
          have hR2 : v = wvA r g x 8 := hR
          subst hR2
          rfl
      · refine ⟨fun hact => ?_, fun hact w' => ?_, fun j p hj v w' hR => ?_⟩
        · exact absurd hact (by decide)
        · first
          | rfl
          | exact absurd hact (by decide)
        · cases hj
          have hR2 : v = wvA r g x 18 := hR
          subst hR2
          rfl
      · refine ⟨fun hact => ?_, fun hact w' => ?_, fun j p hj v w' hR => ?_⟩
        · exact absurd hact (by decide)
        · first
          | rfl
          | exact absurd hact (by decide)
        · cases hj
          have hR2 : v = wvA r g x 18 := hR
          subst hR2
          rfl
      · refine ⟨fun hact => ?_, fun hact w' => ?_, fun j p hj v w' hR => ?_⟩
        · exact absurd hact (by decide)
        · first
          | rfl
          | exact absurd hact (by decide)
        · cases hj
          have hR2 : v = wvA r g x 18 := hR
          subst hR2
          rfl
      · refine ⟨fun hact => ?_, fun hact w' => ?_, fun j p hj v w' hR => ?_⟩
        · exact absurd hact (by decide)
        · first
          | rfl
          | exact absurd hact (by decide)
        · cases hj
          have hR2 : v = wvA r g x 18 := hR
          subst hR2
          rfl
      · refine ⟨fun hact => ?_, fun hact w' => ?_, fun j p hj v w' hR => ?_⟩
        · exact absurd hact (by decide)
        · first
          | rfl
          | exact absurd hact (by decide)
        · cases hj
          have hR2 : v = wvA r g x 18 := hR
          subst hR2
          rfl
      · refine ⟨fun hact => ?_, fun hact w' => ?_, fun j p hj v w' hR => ?_⟩
        · exact absurd hact (by decide)
        · first
          | rfl
          | exact absurd hact (by decide)
        · cases hj
          have hR2 : v = wvA r g x 18 := hR
          subst hR2
          rfl
      · refine ⟨fun hact => ?_, fun hact w' => ?_, fun j p hj v w' hR => ?_⟩
        · exact absurd hact (by decide)
        · first
          | rfl
          | exact absurd hact (by decide)
        · cases hj
          have hR2 : v = wvA r g x 8 := hR
          subst hR2
          rfl
      · refine ⟨fun hact => ?_, fun hact w' => ?_, fun j p hj v w' hR => ?_⟩
        · exact absurd hact (by decide)
        · first
          | rfl
          | exact absurd hact (by decide)
        · cases hj
          have hR2 : v = wvA r g x 6 := hR
          subst hR2
          rfl
      · refine ⟨fun hact => ?_, fun hact w' => ?_, fun j p hj v w' hR => ?_⟩
        · intro a' w' hdf hgr hfar hdep
          have e41 : a'.tmps.getD 41 undef = .bool true := hdep 6 _ 41 (by kernel_rfl) rfl rfl
          have e61 : a'.tmps.getD 61 undef = undef := hdep 26 _ 61 (by kernel_rfl) rfl rfl
          go_simp
          exact ⟨_, rfl, gr_refl _ _, rfl⟩
        · exact absurd hact (by decide)
        · cases hj
      · refine ⟨fun hact => ?_, fun hact w' => ?_, fun j p hj v w' hR => ?_⟩
        · intro a' w' hdf hgr hfar hdep
          have e62 : a'.tmps.getD 62 undef = .bool true := hdep 27 _ 62 (by kernel_rfl) rfl rfl
          go_simp
          exact ⟨_, rfl, gr_refl _ _, rfl⟩
        · exact absurd hact (by decide)
        · cases hj

end Go.Proofs.YtboddoaekcchpaaGreat
