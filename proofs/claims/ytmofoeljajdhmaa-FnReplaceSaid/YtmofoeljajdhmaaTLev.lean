/- What levelsIn of the program does: within how many second parts of loops something in a term lies. -/
import Derived.Test.YtmofoeljajdhmaaSLev
import Derived.Test.YtmofoeljajdhmaaTAs
import Derived.Deep.RegionLaw
namespace Go.Proofs.Ytmofoeljajdhmaa
open Go.RowKit

/-- A term that is no loop, behind the interface: the assertion to a loop fails. -/
theorem ta_noloop {w : World} {S : Nat → Prop} {t : Tm} {ty : TypeId} {pv : Value} (h : PT w S t (.iface ty pv)) (hl : t.isLoop = false) (xT : TypeId) (u : World) :
    (Instr.typeAssert (.iface ty pv) xT 161 true).run Try.prog u = .ok (.tuple #[.pointer none, .bool false]) u := by
  cases t with
  | dig c => cases h; exact ta_dig_loop _ _ _
  | var c => cases h; exact ta_var_loop _ _ _
  | pre c s => obtain ⟨b, x, hv, _⟩ := h; cases hv; exact ta_pre_loop _ _ _
  | two c s t => obtain ⟨b, x, y, hv, _⟩ := h; cases hv; exact ta_two_loop _ _ _
  | loop c i s t => cases hl
theorem levL_plain {t : Tm} (hl : t.isLoop = false) : levL t = t.kids.map Tm.levels := by cases t <;> first | rfl | cases hl

theorem ret_max {x y : Int} (h : x = y) : Ending.returned (.int .i64 x) = .returned (.int .i64 y) := by rw [h]

set_option maxRecDepth 100000 in
set_option maxHeartbeats 2000000 in
theorem tlevels_any : ∀ (n : Nat) (t : Tm) (S : Nat → Prop) (ty : TypeId) (pv : Value) (w : World), t.size ≤ n → n ≤ 1000000 → PT w S t (.iface ty pv) →
    Calls Try.prog 88 #[.iface ty pv] w fun e w' => e = .returned (.int .i64 (t.levels : Nat)) ∧ w.grownBy w' none
  | 0, t, S, ty, pv, w, hn, _, h => by have := t.size_pos; omega
  | n + 1, t, S, ty, pv, w, hn, hn2, h => by
    have HI := Lib.hid (tlevels_any n)
    cases hl : t.isLoop
    · have hm := method_parts h
      have hrun := run_parts t pv
      have hta := ta_noloop h hl
      have HK := Lib.hid (parts_any t S ty pv w h)
      have HKS := Lib.hid (csum_kids t)
      have HLV := Lib.hid t.levels_le
      have HMX := Lib.hid (levels_mx t)
      have HLP := Lib.hid (levL_plain hl)
      have HN := Lib.hid hn
      clear h hn hl
      go_enter Try.func88, Try.ntmps88
      go_wp2_with fail
      refine HK.out.mono ?_
      rintro e w1 ⟨hg1, sv, xs, rfl, ho, ha⟩
      obtain ⟨A, k, c, rfl⟩ := own_form ho
      obtain ⟨hk, hkc, hrow⟩ := orow ho
      have hlen := All2.length _ _ ha
      have HKL := Lib.hid hk
      have HLEN := Lib.hid hlen
      have HROW := Lib.hid hrow
      have HA := Lib.hid ha
      have HG1 := Lib.hid hg1
      have hk2 : k ≤ 2 := by have := kids_len t; omega
      clear hg1 ho ha hk hlen hrow hm hrun hta
      go_wp2_with fail
      go_loopw [5, 29] (fun u i wr => ∃ j m : Nat, j ≤ k ∧ i = .int .i64 j ∧ u = .int .i64 m ∧ m ≤ n + 1 ∧ Hid (m = mx ((levL t).take j)) ∧ Hid (w1.grownBy wr none)) (fun _ i _ => k - (intOf i).toNat)
      case atStart => exact ⟨0, 0, Nat.zero_le _, rfl, rfl, by omega, Lib.hid (by simp [mx]), Lib.hid (gr_refl _ _)⟩
      case round =>
        obtain ⟨j, m, hj, rfl, rfl, hmn, hm, hgr⟩ := hrel
        by_cases hlt : j < k
        · obtain ⟨g, rfl, hg0, hg1, hcell⟩ := HROW.out (by omega)
          obtain ⟨tj, xj, htj, hxj, hpj⟩ := HA.out.get (j := j) (by have := HKL.out; omega)
          have hc := hcell j xj hxj
          obtain ⟨tyj, pvj, rfl⟩ := hpj.iface
          have hcw := hgr.out.cell hc (by simp)
          have hbd : tj.size ≤ n := by
            have hst := csum_step htj
            have hlq := csum_take t.kids (j + 1)
            have hks2 := HKS.out
            have hn3 := HN.out
            omega
          have HP := Lib.hid ((hpj.grown HG1.out).grown hgr.out)
          have HST := Lib.hid (mx_step (l := levL t) (j := j) (x := tj.levels) (by rw [HLP.out, List.getElem?_map, htj]; rfl))
          have hlv := tj.levels_le
          obtain ⟨z, hz⟩ : ∃ z, tj.levels = z := ⟨_, rfl⟩
          have HCALL := Lib.hid (HI.out tj _ tyj pvj wr hbd (by omega) HP.out)
          rw [hz] at HCALL hlv
          have HZ := Lib.hid hz
          have hz2 : z ≤ n := by omega
          clear hpj htj hxj hc hcell hbd hz hlv
          go_wp2_with fail
          refine HCALL.out.mono ?_
          rintro e w2 ⟨rfl, hg2⟩
          have HG2 := Lib.hid (hgr.out.trans hg2)
          clear hg2 hcw
          go_wp2_with fail
          refine ⟨⟨j + 1, if m < z then z else m, by omega, by go_num, by split <;> rfl, by split <;> omega, Lib.hid ?_, HG2⟩, by simp [intOf]; omega⟩
          rw [HST.out, HZ.out, ← hm.out]
          split <;> omega
        · have hjk : j = k := by omega
          have HJ := Lib.hid hjk
          clear hjk
          go_wp2_with fail
          go_ret
          refine ⟨?_, HG1.out.trans hgr.out⟩
          have e1 : m = t.levels := by
            rw [hm.out, HMX.out, HJ.out, List.take_of_length_le (by rw [levL_len, HLEN.out, HKL.out]; exact Nat.le_refl _)]
          rw [← e1]
          rfl
    · cases t with
      | dig c => cases hl
      | var c => cases hl
      | pre c s => cases hl
      | two c s t => cases hl
      | loop c i s t =>
        obtain ⟨b, x, y, hv, _, hh, hx, hy⟩ := h
        cases hv
        have c2 : w.cell? ⟨b, 2, none⟩ = some x := cell_of_row w b 2 _ _ (0, 0) hh
        have c3 : w.cell? ⟨b, 3, none⟩ = some y := cell_of_row w b 3 _ _ (0, 0) hh
        obtain ⟨tx, px, rfl⟩ := hx.iface
        obtain ⟨t2, p2, rfl⟩ := hy.iface
        have HX := Lib.hid hx
        have HY := Lib.hid hy
        have hta := fun xT u => ta_loop_loop (.pointer (some ⟨b, 0, none⟩)) xT u
        simp only [Tm.size] at hn
        have hs1 : s.size ≤ n := by omega
        have hs2 : t.size ≤ n := by omega
        have hlv1 := s.levels_le
        have hlv2 := t.levels_le
        obtain ⟨z1, hz1⟩ : ∃ z, s.levels = z := ⟨_, rfl⟩
        obtain ⟨z2, hz2⟩ : ∃ z, t.levels = z := ⟨_, rfl⟩
        rw [hz1] at hlv1
        rw [hz2] at hlv2
        have HC1 := Lib.hid (fun (u : World) (hg : w.grownBy u none) => HI.out s S tx px u hs1 (by omega) (HX.out.grown hg))
        have HC2 := Lib.hid (fun (u : World) (hg : w.grownBy u none) => HI.out t S t2 p2 u hs2 (by omega) (HY.out.grown hg))
        simp only [hz1] at HC1
        simp only [hz2] at HC2
        have HZ : Hid ((Tm.loop c i s t).levels = max z1 (1 + z2)) := Lib.hid (by simp only [Tm.levels, hz1, hz2])
        have hb1 : z1 ≤ n := by omega
        have hb2 : z2 ≤ n := by omega
        have w1 : IntKind.i64.wrap (1 + (z2 : Int)) = 1 + (z2 : Int) := IntWalk.i64_in _ (by omega)
        clear hh hx hy hn hl hs1 hs2 hlv1 hlv2 hz1 hz2
        go_enter Try.func88, Try.ntmps88
        go_wp2_with fail
        go_region_law (first
          | (go_simp
             go_at_call 88
             refine (HC2.out _ (((gr_drewN w 1 none).trans HGa.out))).mono ?_
             rintro e wb ⟨rfl, hgb⟩
             have HGb := Lib.hid hgb
             clear hgb)
          | (go_simp
             go_at_call 88
             refine (HC1.out _ (gr_drewN w 1 none)).mono ?_
             rintro e wa ⟨rfl, hga⟩
             have HGa := Lib.hid hga
             have c3a := ((gr_drewN w 1 none).trans hga).cell c3 (by simp)
             clear hga))
        all_goals
          go_wp2_with fail
        all_goals
          go_ret
          refine ⟨?_, ((gr_drewN w 1 none).trans HGa.out).trans HGb.out⟩
          rw [HZ.out]
          refine ret_max ?_
          first
            | omega
            | (split <;> omega)

end Go.Proofs.Ytmofoeljajdhmaa
