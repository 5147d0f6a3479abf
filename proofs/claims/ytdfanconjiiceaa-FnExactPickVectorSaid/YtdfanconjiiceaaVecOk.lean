/- What VectorValid of the program and of the model do. -/
import Derived.Test.YtdfanconjiiceaaVec
import Derived.Test.YtdfanconjiiceaaSWrong
import Derived.Deep.RegionLaw
import Derived.Deep.RegionWith
namespace Go.Proofs.Ytdfanconjiiceaa
open Go.RowKit

/-- Is a vector valid? -/
def okV (k : Int) (LL : List (List Int)) (D : List Int) : Bool := decide (0 ≤ k ∧ k ≤ 2000) && decide (wrongAt 0 k.toNat LL D = -1)

set_option maxHeartbeats 1000000 in
theorem vecok_any (v : Value) (k : Int) (LL : List (List Int)) (D : List Int) (w : World) (h : Vct w v k LL D) (hn : LL.length + totL LL + D.length ≤ 1048576) :
    Calls Try.prog 53 #[v] w fun e w' => e = .returned (.bool (okV k LL D)) ∧ w.grownBy w' none := by
  obtain ⟨A, c, B, d, rfl, _, _, h3, h4⟩ := h
  have H1 := Lib.hid (fun w h3 h4 hk => wrongv_any A B c d k.toNat hk LL D w h3 h4 hn)
  have hw := (wrongAt_range LL 0 k.toNat D).1
  obtain ⟨n, hnn⟩ : ∃ n, LL.length = n := ⟨_, rfl⟩
  obtain ⟨m, hm⟩ : ∃ m, D.length = m := ⟨_, rfl⟩
  unfold okV
  obtain ⟨r, hr⟩ : ∃ r, wrongAt 0 k.toNat LL D = r := ⟨_, rfl⟩
  rw [hr] at hw
  rw [hr, hm, hnn] at H1
  rw [hr, hm, hnn]
  have hg0 := World.grownBy_alloc w (.cells #[.int .i64 k, .slice A n c, .slice B m d] 34) none
  have HP := Lib.hid (Tri.new w 34 (.int .i64 k) (.slice A n c) (.slice B m d))
  have HG := Lib.hid hg0
  have HF := Lib.hid (fun w => flatof_any A B n c m d w)
  have H3 := Lib.hid (h3.grown hg0)
  have H4 := Lib.hid (h4.grown hg0 (by simp))
  clear h3 h4 hr hnn hm hn hg0
  by_cases hk0 : k < 0
  · have e1 : decide (0 ≤ k ∧ k ≤ 2000) = false := by simp; omega
    rw [e1]
    have e2 : decide (0 ≤ k) = false := by simp; omega
    have c0 := HP.out.c0
    clear e1 HF H1
    go_enter Try.func53, Try.ntmps53
    go_wp2_with fail
    go_quiet (fail)
    go_wp2_with fail
    go_ret
    exact ⟨by simp, HG.out.trans (gr_drewN _ _ none)⟩
  · by_cases hk1 : 2000 < k
    · have e1 : decide (0 ≤ k ∧ k ≤ 2000) = false := by simp; omega
      rw [e1]
      have e2 : decide (0 ≤ k) = true := by simp; omega
      have e3 : decide (k ≤ 2000) = false := by simp; omega
      have c0 := HP.out.c0
      clear e1 HF H1
      go_enter Try.func53, Try.ntmps53
      go_wp2_with fail
      go_quiet (fail)
      go_wp2_with fail
      go_ret
      exact ⟨by simp, HG.out.trans (gr_drewN _ _ none)⟩
    · have e1 : decide (0 ≤ k ∧ k ≤ 2000) = true := by simp; omega
      rw [e1]
      have e2 : 0 ≤ k := by omega
      have e3 : k ≤ 2000 := by omega
      have e4 : decide (0 ≤ k) = true := by simp; omega
      have e5 : decide (k ≤ 2000) = true := by simp; omega
      have H1' := Lib.hid (fun w h3 h4 => H1.out w h3 h4 (by omega))
      obtain ⟨p, rfl⟩ : ∃ p : Nat, k = p := ⟨k.toNat, by omega⟩
      rw [Int.toNat_natCast] at H1'
      clear e1 H1
      obtain ⟨bb, hbb⟩ : ∃ bb, (r == -1) = bb := ⟨_, rfl⟩
      have e : decide (r = -1) = bb := by rw [← hbb, Bool.eq_iff_iff]; simp
      rw [e]
      clear e
      go_enter Try.func53, Try.ntmps53
      have c0 := HP.out.c0
      have c1 := HP.out.c1
      have c2 := HP.out.c2
      go_wp2_with fail
      generalize w.alloc (.cells #[.int .i64 (p : Int), .slice A n c, .slice B m d] 34) = w0 at HG HP H3 H4 c0 c1 c2 ⊢
      go_region_law (first
      | (go_simp
         go_at_call 55
         refine (HF.out _).mono ?_
         rintro e w1 ⟨rfl, hg1⟩
         have hg2 := (gr_drewN w0 _ none).trans hg1
         have d0 := (HP.out.grown hg2 (by simp)).c0
         have HC1 := Lib.hid (H1'.out w1 (H3.out.grown hg2) (H4.out.grown hg2 (by simp)))
         have HG1 := Lib.hid (HG.out.trans hg2)
         clear hg1 hg2)
      | (go_simp
         go_at_call 89
         refine HC1.out.mono ?_
         rintro e w2 ⟨rfl, hg2⟩
         have HG2 := Lib.hid (HG1.out.trans hg2)
         clear hg2))
      all_goals
        go_wp2_with fail
        go_ret
        exact ⟨by first | rfl | simp [Act.put], HG2.out⟩

set_option maxHeartbeats 400000 in
theorem snum8_any (A : Option Addr) (c : Nat) (zs : List Int) (w : World) (h : Ints w A zs) (hn : zs.length ≤ 1048576) :
    Calls Try.prog 102 #[.slice A zs.length c] w fun e w' => e = .returned (.bool (okN 10006 zs)) ∧ w = w' := by
  have HS := Lib.hid h
  obtain ⟨n, hnn⟩ : ∃ n, zs.length = n := ⟨_, rfl⟩
  have HN := Lib.hid hnn
  rw [hnn] at hn ⊢
  clear h hnn
  go_enter Try.func102, Try.ntmps102
  go_wp2_with fail
  go_loop [7] (fun i => ∃ (j : Nat), j ≤ n ∧ i = .int .i64 j ∧ Hid (okN 10006 (zs.take j) = true)) (fun i => n - (intOf i).toNat)
  case atStart => exact ⟨0, Nat.zero_le _, rfl, Lib.hid rfl⟩
  case round =>
    obtain ⟨j, hj, rfl, hx⟩ := hrel
    by_cases hlt : j < n
    · obtain ⟨z, hz⟩ : ∃ z, zs[j]? = some z := ⟨_, List.getElem?_eq_getElem (by have := HN.out; omega)⟩
      obtain ⟨b, off, rfl, _, hc⟩ := HS.out (by have := HN.out; omega)
      have hcell := hc j z hz
      have HZ := Lib.hid hz
      clear hc hz
      obtain ⟨q, hq⟩ : ∃ q, decide (0 ≤ z ∧ z ≤ 10006) = q := ⟨_, rfl⟩
      have HI := Lib.hid (in_any z 0 10006 q hq w)
      have HQ := Lib.hid hq
      clear hq
      cases q
      · go_wp2_with fail
        refine HI.out.mono ?_
        rintro e w1 ⟨rfl, rfl⟩
        go_wp2_with fail
        go_ret
        refine ⟨?_, rfl⟩
        rw [okN_bad (hi := 10006) HZ.out (by have := decide_eq_false_iff_not.1 HQ.out; omega)]
        rfl
      · have hz2 := decide_eq_true_iff.1 HQ.out
        obtain ⟨hz0, hz1⟩ := hz2
        go_wp2_with fail
        refine HI.out.mono ?_
        rintro e w1 ⟨rfl, rfl⟩
        go_wp2_with fail
        go_round
        case rel => exact ⟨j + 1, by omega, by go_num, Lib.hid (okN_step HZ.out hx.out hz0 hz1)⟩
        case measure => simp [intOf]; omega
    · have hjn : j = n := by omega
      have HJ := Lib.hid hjn
      clear hjn
      go_wp2_with fail
      go_ret
      refine ⟨?_, rfl⟩
      have h1 := hx.out
      rw [HJ.out, ← HN.out, List.take_length] at h1
      rw [h1]
      rfl

theorem okV_out {k : Int} {LL : List (List Int)} {D : List Int} (h : ¬ (0 ≤ k ∧ k ≤ 2000)) : okV k LL D = false := by unfold okV; simp [h]
theorem okV_in {k : Int} {LL : List (List Int)} {D : List Int} {r : Int} (h : 0 ≤ k ∧ k ≤ 2000) (hr : wrongAt 0 k.toNat LL D = r) : okV k LL D = decide (r = -1) := by unfold okV; simp [h, hr]

set_option maxRecDepth 100000 in
set_option maxHeartbeats 2000000 in
theorem svecok_any (v : Value) (k : Int) (LL : List (List Int)) (D : List Int) (w : World) (h : Vct w v k LL D) (hn : LL.length + totL LL + D.length ≤ 1048576) :
    Calls Try.prog 86 #[v] w fun e w' => e = .returned (.bool (okV k LL D)) ∧ w.grownBy w' none := by
  obtain ⟨A, c, B, d, rfl, _, _, h3, h4⟩ := h
  have hm := totm hn
  have HMM := Lib.hid hm
  obtain ⟨n, hnn⟩ : ∃ n, LL.length = n := ⟨_, rfl⟩
  obtain ⟨m, hm⟩ : ∃ m, D.length = m := ⟨_, rfl⟩
  have HN := Lib.hid hnn
  have HM := Lib.hid hm
  have hm1 : m ≤ 1048576 := by omega
  have hn1 : n ≤ 1048576 := by omega
  obtain ⟨R, hR⟩ : ∃ R, okV k LL D = R := ⟨_, rfl⟩
  rw [hR, hm, hnn]
  have hg0 := World.grownBy_alloc w (.cells #[.int .i64 k, .slice A n c, .slice B m d] 34) none
  have HP := Lib.hid (Tri.new w 34 (.int .i64 k) (.slice A n c) (.slice B m d))
  have HG := Lib.hid hg0
  have H3 := Lib.hid (h3.grown hg0)
  have H4 := Lib.hid (h4.grown hg0 (by simp))
  have HD := Lib.hid (snum8_any B d D _ (h4.grown hg0 (by simp)) (by omega))
  rw [hm] at HD
  have HR := Lib.hid hR
  clear h3 h4 hR hnn hm hn hg0
  obtain ⟨q, hq⟩ : ∃ q, decide (0 ≤ k ∧ k ≤ 2000) = q := ⟨_, rfl⟩
  have HI := Lib.hid (fun w => in_any k 0 2000 q hq w)
  have HQ := Lib.hid hq
  clear hq
  cases q
  · go_enter Try.func86, Try.ntmps86
    go_wp2_with fail
    refine (HI.out _).mono ?_
    rintro e w1 ⟨rfl, rfl⟩
    go_wp2_with fail
    go_ret
    exact ⟨by rw [← HR.out, okV_out (decide_eq_false_iff_not.1 HQ.out)]; rfl, HG.out⟩
  · have hk2 := decide_eq_true_iff.1 HQ.out
    obtain ⟨p, rfl⟩ : ∃ p : Nat, k = p := ⟨k.toNat, by omega⟩
    obtain ⟨r, hr⟩ : ∃ r, wrongAt 0 p LL D = r := ⟨_, rfl⟩
    have HRR := Lib.hid (show R = decide (r = -1) by rw [← HR.out]; exact okV_in hk2 (by rw [Int.toNat_natCast]; exact hr))
    have HW := Lib.hid hr
    have hp2 : p ≤ 2000 := by omega
    clear HQ hk2 hr
    by_cases hn3 : 3 < n
    · have hlev : r ≠ -1 := fun e => by
        rcases wrongAt_levels LL 0 p D (HW.out.trans e) with h | h
        · have := HN.out; rw [h] at this; simp at this; omega
        · have := HN.out; omega
      have HLEV := Lib.hid hlev
      clear hlev
      go_enter Try.func86, Try.ntmps86
      go_wp2_with fail
      refine (HI.out _).mono ?_
      rintro e w1 ⟨rfl, rfl⟩
      go_wp2_with fail
      go_ret
      exact ⟨by rw [HRR.out, decide_eq_false HLEV.out]; rfl, HG.out⟩
    · have hn3' : n ≤ 3 := by omega
      clear hn3
      go_enter Try.func86, Try.ntmps86
      go_wp2_with fail
      refine (HI.out _).mono ?_
      rintro e w1 ⟨rfl, rfl⟩
      go_wp2_with fail
      go_loop [3, 25] (fun u i => ∃ (j k : Nat), j ≤ n ∧ i = .int .i64 j ∧ u = .int .i64 k ∧ k ≤ 1000000000 ∧ Hid (wrongAt j k (LL.drop j) D = r)) (fun _ i => n - (intOf i).toNat)
      case atStart => exact ⟨0, p, Nat.zero_le _, rfl, rfl, by omega, HW⟩
      case round =>
        obtain ⟨j, k, hj, rfl, rfl, hk, hx⟩ := hrel
        by_cases hlt : j < n
        · obtain ⟨L, hL⟩ : ∃ L, LL[j]? = some L := ⟨_, List.getElem?_eq_getElem (by have := HN.out; omega)⟩
          obtain ⟨b, off, B2, c2, rfl, hcell, _, hi⟩ := H3.out.at_ hL
          have hll := HMM.out L (List.mem_of_getElem? hL)
          have HL := Lib.hid hL
          have HIN := Lib.hid hi
          obtain ⟨q, hq⟩ : ∃ q, L.length = q := ⟨_, rfl⟩
          have HQ := Lib.hid hq
          have hq1 : q ≤ 1048576 := by omega
          rw [hq] at hcell
          clear hL hi hq hll
          by_cases hqk : q = k
          · subst hqk
            have hqq : ((q : Int) != (q : Int)) = false := by simp
            go_wp2_with fail
            go_loop [6, 35] (fun u i => ∃ (t : Nat) (x : Int), t ≤ q ∧ i = .int .i64 t ∧ u = .int .i64 x ∧ 0 ≤ x ∧ x ≤ 400 * t ∧ Hid (okN 400 (L.take t) = true) ∧ Hid (x = sumI (L.take t))) (fun _ i => q - (intOf i).toNat)
            case atStart => exact ⟨0, 0, Nat.zero_le _, rfl, rfl, by omega, by omega, Lib.hid rfl, Lib.hid rfl⟩
            case round =>
              obtain ⟨t, x, ht, rfl, rfl, hx0, hx1, hok, hxx⟩ := hrel
              by_cases htq : t < q
              · obtain ⟨z, hz⟩ : ∃ z, L[t]? = some z := ⟨_, List.getElem?_eq_getElem (by have := HQ.out; omega)⟩
                obtain ⟨b2, off2, rfl, _, hc⟩ := HIN.out (by have := HQ.out; omega)
                have hcell2 := hc t z hz
                have HST := Lib.hid (sumI_step hz)
                have HZ := Lib.hid hz
                clear hc hz
                obtain ⟨y, hy⟩ : ∃ y, decide (0 ≤ z ∧ z ≤ 400) = y := ⟨_, rfl⟩
                have HI2 := Lib.hid (fun w => in_any z 0 400 y hy w)
                have HY := Lib.hid hy
                clear hy
                cases y
                · go_wp2_with fail
                  refine (HI2.out _).mono ?_
                  rintro e w1 ⟨rfl, rfl⟩
                  go_wp2_with fail
                  go_ret
                  refine ⟨?_, HG.out⟩
                  have h1 := wrong_stop HL.out hx.out (by rw [okN_bad (hi := 400) HZ.out (by have := decide_eq_false_iff_not.1 HY.out; omega)]; simp)
                  rw [HRR.out, decide_eq_false (show ¬ r = -1 by omega)]
                  rfl
                · have hz2 := decide_eq_true_iff.1 HY.out
                  obtain ⟨hz0, hz1⟩ := hz2
                  go_wp2_with fail
                  refine (HI2.out _).mono ?_
                  rintro e w1 ⟨rfl, rfl⟩
                  go_wp2_with fail
                  go_round
                  case rel => exact ⟨t + 1, x + z, by omega, by go_num, by go_num, by omega, by omega, Lib.hid (okN_step HZ.out hok.out hz0 hz1), Lib.hid (by rw [HST.out, hxx.out])⟩
                  case measure => simp [intOf]; omega
              · obtain rfl : t = q := by omega
                have e1 : L.take t = L := List.take_of_length_le (by have := HQ.out; omega)
                have hok2 := hok.out
                have hxx2 := hxx.out
                rw [e1] at hok2 hxx2
                obtain ⟨y, hy⟩ : ∃ y : Nat, x = y := ⟨x.toNat, by omega⟩
                subst hy
                have HN2 := Lib.hid (wrong_next HL.out hx.out (by omega) HQ.out hok2)
                have HX2 := Lib.hid hxx2
                have hy1 : y ≤ 1000000000 := by omega
                clear e1 hok2 hxx2 hok hxx
                go_wp2_with fail
                go_round
                case rel =>
                  refine ⟨j + 1, y, by omega, by go_num, rfl, hy1, Lib.hid ?_⟩
                  have := HN2.out
                  rw [← HX2.out, Int.toNat_natCast] at this
                  exact this
                case measure => simp [intOf]; omega
          · have hqq : ((q : Int) != (k : Int)) = true := by simp; omega
            have HQK := Lib.hid hqk
            clear hqk
            go_wp2_with fail
            go_ret
            refine ⟨?_, HG.out⟩
            have h1 := wrong_stop HL.out hx.out (by have := HQ.out; have := HQK.out; omega)
            rw [HRR.out, decide_eq_false (show ¬ r = -1 by omega)]
            rfl
        · have hjn : j = n := by omega
          have HJ := Lib.hid hjn
          have hw := wrong_end (show LL.length ≤ j by have := HN.out; omega) hx.out
          have HWE := Lib.hid hw
          clear hw
          subst hjn
          by_cases hmk : m = k
          · subst hmk
            have hmm : ((m : Int) == (m : Int)) = true := by simp
            obtain ⟨y, hy⟩ : ∃ y, okN 10006 D = y := ⟨_, rfl⟩
            have HY := Lib.hid hy
            rw [hy] at HD
            clear hy
            go_wp2_with fail
            refine HD.out.mono ?_
            rintro e w1 ⟨rfl, rfl⟩
            go_wp2_with fail
            go_ret
            refine ⟨?_, HG.out⟩
            rw [HRR.out, HWE.out, HY.out]
            have := HM.out
            cases y <;> simp [this] <;> omega
          · have hmm : ((m : Int) == (k : Int)) = false := by simp; omega
            have HMK := Lib.hid hmk
            clear hmk
            go_wp2_with fail
            go_ret
            refine ⟨?_, HG.out⟩
            rw [HRR.out, HWE.out, if_neg (by have := HM.out; have := HMK.out; omega)]; rw [decide_eq_false (show ¬ ((j : Int) = -1) by omega)]
            rfl

end Go.Proofs.Ytdfanconjiiceaa
