/- What sumOf, areNumbersUpTo, WhatIsWrong and LayoutValid of the program do: the first level at which a layout is wrong. -/
import Derived.Test.YtachjodnhgmoiaaDoorFam
namespace Go.Proofs.YtachjodnhgmoiaaDoor
open Go.RowKit

set_option maxHeartbeats 400000 in
theorem sumof_any (A : Option Addr) (c : Nat) (zs : List Int) (w : World) (h : Ints w A zs) (hok : okN 400 zs = true) (hn : zs.length ≤ 1048576) :
    Calls Tryd.prog 103 #[.slice A zs.length c] w fun e w' => e = .returned (.int .i64 (sumI zs)) ∧ w = w' := by
  have HS := Lib.hid h
  have HOK := Lib.hid hok
  obtain ⟨n, hnn⟩ : ∃ n, zs.length = n := ⟨_, rfl⟩
  have HN := Lib.hid hnn
  rw [hnn] at hn ⊢
  clear h hnn hok
  go_enter Tryd.func103, Tryd.ntmps103
  go_wp2_with fail
  go_loop [3, 8] (fun u i => ∃ (j : Nat) (x : Int), j ≤ n ∧ i = .int .i64 j ∧ u = .int .i64 x ∧ 0 ≤ x ∧ x ≤ 419430400 ∧ Hid (x = sumI (zs.take j))) (fun _ i => n - (intOf i).toNat)
  case atStart => exact ⟨0, 0, Nat.zero_le _, rfl, rfl, by omega, by omega, Lib.hid rfl⟩
  case round =>
    obtain ⟨j, x, hj, rfl, rfl, hx0, hx1, hx⟩ := hrel
    by_cases hlt : j < n
    · obtain ⟨z, hz⟩ : ∃ z, zs[j]? = some z := ⟨_, List.getElem?_eq_getElem (by have := HN.out; omega)⟩
      obtain ⟨b, off, rfl, _, hc⟩ := HS.out (by have := HN.out; omega)
      have hcell := hc j z hz
      have HST := Lib.hid (sumI_step hz)
      have hb := sumI_take_bound HOK.out (j + 1)
      rw [HST.out, ← hx.out] at hb
      obtain ⟨hb0, hb1⟩ := hb
      have hbz := okN_at hz HOK.out
      obtain ⟨hz0, hz1⟩ := hbz
      clear hc hz
      go_wp2_with fail
      go_round
      case rel => exact ⟨j + 1, x + z, by omega, by go_num, by go_num, by omega, by omega, Lib.hid (by rw [HST.out, hx.out])⟩
      case measure => simp [intOf]; omega
    · have hjn : j = n := by omega
      have HJ := Lib.hid hjn
      clear hjn
      go_wp2_with fail
      go_ret
      refine ⟨?_, rfl⟩
      rw [hx.out, HJ.out, ← HN.out, List.take_length]
      rfl

set_option maxHeartbeats 400000 in
theorem upto_any (A : Option Addr) (c k : Nat) (hi : Int) (zs : List Int) (w : World) (h : Ints w A zs) (hn : zs.length ≤ 1048576) :
    Calls Tryd.prog 59 #[.slice A zs.length c, .int .i64 k, .int .i64 hi] w fun e w' => e = .returned (.bool (decide (zs.length = k ∧ okN hi zs = true))) ∧ w = w' := by
  have HS := Lib.hid h
  obtain ⟨n, hnn⟩ : ∃ n, zs.length = n := ⟨_, rfl⟩
  have HN := Lib.hid hnn
  rw [hnn] at hn ⊢
  clear h hnn
  go_enter Tryd.func59, Tryd.ntmps59
  go_wp2_with fail
  go_loop [11] (fun i => ∃ (j : Nat), j ≤ n ∧ i = .int .i64 j ∧ Hid (okN hi (zs.take j) = true)) (fun i => n - (intOf i).toNat)
  case atStart => exact ⟨0, Nat.zero_le _, rfl, Lib.hid rfl⟩
  case round =>
    obtain ⟨j, hj, rfl, hx⟩ := hrel
    by_cases hlt : j < n
    · obtain ⟨z, hz⟩ : ∃ z, zs[j]? = some z := ⟨_, List.getElem?_eq_getElem (by have := HN.out; omega)⟩
      obtain ⟨b, off, rfl, _, hc⟩ := HS.out (by have := HN.out; omega)
      have hcell := hc j z hz
      have HZ := Lib.hid hz
      clear hc hz
      by_cases h0 : z < 0
      · go_wp2_with fail
        go_ret
        exact ⟨by rw [okN_bad HZ.out (.inl h0)]; simp, rfl⟩
      · by_cases h1 : hi < z
        · go_wp2_with fail
          go_ret
          exact ⟨by rw [okN_bad HZ.out (.inr h1)]; simp, rfl⟩
        · go_wp2_with fail
          go_round
          case rel => exact ⟨j + 1, by omega, by go_num, Lib.hid (okN_step HZ.out hx.out (by omega) (by omega))⟩
          case measure => simp [intOf]; omega
    · have hjn : j = n := by omega
      have hall : okN hi zs = true := by
        have := hx.out
        rwa [hjn, ← HN.out, List.take_length] at this
      have HA := Lib.hid hall
      clear hjn hall
      go_wp2_with fail
      go_ret
      refine ⟨?_, rfl⟩
      rw [HA.out]
      simp
      rw [Bool.eq_iff_iff, beq_iff_eq, decide_eq_true_iff]
      omega

theorem totm {LL : List (List Int)} {D : List Int} (hn : LL.length + totL LL + D.length ≤ 1048576) : ∀ M ∈ LL, M.length ≤ 1048576 := fun M hM => by
  obtain ⟨i, hi⟩ := List.getElem?_of_mem hM
  have := totL_at hi
  omega

set_option maxHeartbeats 1000000 in
theorem wrongv_any (A B : Option Addr) (c d k0 : Nat) (hk0 : k0 ≤ 1000000000) (LL : List (List Int)) (D : List Int) (w : World) (h3 : Rws w A LL) (h4 : Ints w B D) (hn : LL.length + totL LL + D.length ≤ 1048576) :
    Calls Tryd.prog 66 #[.agg #[.slice B D.length d, .slice A LL.length c], .int .i64 (k0 : Int)] w fun e w' => e = .returned (.int .i64 (wrongAt 0 k0 LL D)) ∧ w.grownBy w' none := by
  have hm := totm hn
  have HM := Lib.hid hm
  obtain ⟨n, hnn⟩ : ∃ n, LL.length = n := ⟨_, rfl⟩
  have HN := Lib.hid hnn
  have HU := Lib.hid (fun w (h : Ints w B D) (k : Nat) => upto_any B d k 10006 D w h (by omega))
  have hn1 : n ≤ 1048576 := by omega
  rw [hnn]
  obtain ⟨m, hmm⟩ : ∃ m, D.length = m := ⟨_, rfl⟩
  have HMM := Lib.hid hmm
  rw [hmm] at HU ⊢
  obtain ⟨r, hr⟩ : ∃ r, wrongAt 0 k0 LL D = r := ⟨_, rfl⟩
  have HR := Lib.hid hr
  rw [hr]
  clear hr hnn hmm hm hn
  have hg0 : w.grownBy (w.alloc (.cells #[.slice B m d, .slice A n c] 82)) none := World.grownBy_alloc _ _ _
  have HS := Lib.hid (h3.grown hg0)
  have HD := Lib.hid (h4.grown hg0 (by simp))
  have HG := Lib.hid hg0
  clear h3 h4 hg0
  go_enter Tryd.func66, Tryd.ntmps66
  go_wp2_with fail
  go_loop [1, 10] (fun u i => ∃ (j k : Nat), j ≤ n ∧ i = .int .i64 j ∧ u = .int .i64 k ∧ k ≤ 1000000000 ∧ j ≤ 3 ∧ Hid (wrongAt j k (LL.drop j) D = r)) (fun _ i => n - (intOf i).toNat)
  case atStart => exact ⟨0, k0, Nat.zero_le _, rfl, rfl, by omega, by omega, Lib.hid HR.out⟩
  case round =>
    obtain ⟨j, k, hj, rfl, rfl, hk, hj4, hx⟩ := hrel
    by_cases hlt : j < n
    · obtain ⟨L, hL⟩ : ∃ L, LL[j]? = some L := ⟨_, List.getElem?_eq_getElem (by have := HN.out; omega)⟩
      obtain ⟨b, off, B2, c2, rfl, hcell, _, hi⟩ := HS.out.at_ hL
      have hll := HM.out L (List.mem_of_getElem? hL)
      have HC := Lib.hid (upto_any B2 c2 k 400 L _ hi hll)
      have HC2 := Lib.hid (fun hok => sumof_any B2 c2 L _ hi hok hll)
      have HL := Lib.hid hL
      have HLL := Lib.hid hll
      obtain ⟨q, hq⟩ : ∃ q, L.length = q := ⟨_, rfl⟩
      have HQ := Lib.hid hq
      rw [hq] at hcell HC HC2
      clear hL hi hq hll
      by_cases h3 : j = 3
      · subst h3
        go_wp2_with fail
        go_ret
        refine ⟨?_, HG.out⟩
        rw [wrong_stop HL.out hx.out (by omega)]
        rfl
      · obtain ⟨bb, hbb⟩ : ∃ bb, decide (q = k ∧ okN 400 L = true) = bb := ⟨_, rfl⟩
        rw [hbb] at HC
        have HB := Lib.hid hbb
        have hj3 : ((j : Int) == 3) = false := by rw [beq_eq_false_iff_ne]; omega
        have hj3n : j ≠ 3 := h3
        clear hbb h3
        go_wp2_with fail
        refine HC.out.mono ?_
        rintro e w1 ⟨rfl, rfl⟩
        cases bb
        · go_wp2_with fail
          go_ret
          refine ⟨?_, HG.out⟩
          rw [wrong_stop HL.out hx.out (by have := HB.out; rw [decide_eq_false_iff_not] at this; rw [HQ.out]; intro h; exact this h.2)]
          rfl
        · have hok : okN 400 L = true := (decide_eq_true_iff.1 HB.out).2
          have hqk : q = k := (decide_eq_true_iff.1 HB.out).1
          have hsb := sumI_bound hok
          have HC3 := Lib.hid (HC2.out hok)
          obtain ⟨x, hxx⟩ : ∃ x : Nat, sumI L = x := ⟨(sumI L).toNat, by omega⟩
          have hx1 : x ≤ 1000000000 := by have := HLL.out; omega
          rw [hxx] at HC3
          have HX := Lib.hid hxx
          have HQK := Lib.hid hqk
          have HOK := Lib.hid hok
          clear hsb hok hqk hxx
          go_wp2_with fail
          refine HC3.out.mono ?_
          rintro e w1 ⟨rfl, rfl⟩
          go_wp2_with fail
          go_round
          case rel =>
            have h3 : j < 3 := by omega
            refine ⟨j + 1, x, by omega, by go_num, rfl, hx1, by omega, Lib.hid ?_⟩
            have := wrong_next HL.out hx.out h3 (by rw [HQ.out, HQK.out]) HOK.out
            rw [HX.out] at this
            exact this
          case measure => simp [intOf]; omega
    · have hjn : j = n := by omega
      have HJ := Lib.hid hjn
      have HC := Lib.hid (HU.out _ HD.out k)
      clear hjn
      obtain ⟨bb, hbb⟩ : ∃ bb, decide (m = k ∧ okN 10006 D = true) = bb := ⟨_, rfl⟩
      rw [hbb] at HC
      have HB := Lib.hid hbb
      clear hbb
      have hw := wrong_end (show LL.length ≤ j by have := HN.out; have := HJ.out; omega) hx.out
      have HW := Lib.hid hw
      clear hw
      go_wp2_with fail
      refine HC.out.mono ?_
      rintro e w1 ⟨rfl, rfl⟩
      cases bb
      · go_wp2_with fail
        go_ret
        refine ⟨?_, HG.out⟩
        have := decide_eq_false_iff_not.1 HB.out
        rw [HW.out, HMM.out, if_neg this, HJ.out]
        rfl
      · go_wp2_with fail
        go_ret
        refine ⟨?_, HG.out⟩
        have := decide_eq_true_iff.1 HB.out
        rw [HW.out, HMM.out, if_pos this]
        rfl

set_option maxHeartbeats 400000 in
theorem flatof_any (A B : Option Addr) (n c m d : Nat) (w : World) :
    Calls Tryd.prog 49 #[.agg #[.slice A n c, .slice B m d]] w fun e w' => e = .returned (.agg #[.slice B m d, .slice A n c]) ∧ w.grownBy w' none := by
  go_enter Tryd.func49, Tryd.ntmps49
  go_wp2_with fail
  refine bodyPost_ret (v := .agg #[.slice B m d, .slice A n c]) (by simp [results, Tryd.results49, go_sem]) rfl ?_
  exact ⟨rfl, (World.grownBy_alloc _ _ _).trans (World.grownBy_alloc _ _ _)⟩

set_option maxHeartbeats 400000 in
theorem wrongl_any (v : Value) (LL : List (List Int)) (D : List Int) (w : World) (h : Lyt w v LL D) (hn : LL.length + totL LL + D.length ≤ 1048576) :
    Calls Tryd.prog 145 #[v] w fun e w' => e = .returned (.int .i64 (wrong LL D)) ∧ w.grownBy w' none := by
  obtain ⟨A, c, B, d, rfl, h1, h2, h3, h4⟩ := h
  have H1 := Lib.hid (fun w h3 h4 => wrongv_any A B c d 1 (by omega) LL D w h3 h4 hn)
  have H3 := Lib.hid h3
  have H4 := Lib.hid h4
  obtain ⟨n, hnn⟩ : ∃ n, LL.length = n := ⟨_, rfl⟩
  obtain ⟨m, hm⟩ : ∃ m, D.length = m := ⟨_, rfl⟩
  obtain ⟨r, hr⟩ : ∃ r, wrong LL D = r := ⟨_, rfl⟩
  have HF := Lib.hid (fun w => flatof_any A B n c m d w)
  rw [show wrongAt 0 1 LL D = r from hr] at H1
  rw [hm, hnn] at H1
  rw [hm, hnn, hr]
  clear h1 h2 h3 h4 hn hnn hm hr
  go_enter Tryd.func145, Tryd.ntmps145
  go_wp2_with fail
  refine (HF.out _).mono ?_
  rintro e w1 ⟨rfl, hg1⟩
  have HG1 := Lib.hid ((World.grownBy_alloc w (.cells #[.slice A n c, .slice B m d] 40) none).trans hg1)
  clear hg1
  go_wp2_with fail
  refine (H1.out _ (H3.out.grown HG1.out) (H4.out.grown HG1.out (by simp))).mono ?_
  rintro e w2 ⟨rfl, hg2⟩
  have HG2 := Lib.hid (HG1.out.trans hg2)
  clear hg2
  go_wp2_with fail
  go_ret
  exact ⟨rfl, HG2.out⟩

theorem wrong_neg (LL : List (List Int)) (D : List Int) : -1 ≤ wrong LL D := (wrongAt_range LL 0 1 D).1

set_option maxHeartbeats 400000 in
theorem layok_any (v : Value) (LL : List (List Int)) (D : List Int) (w : World) (h : Lyt w v LL D) (hn : LL.length + totL LL + D.length ≤ 1048576) :
    Calls Tryd.prog 119 #[v] w fun e w' => e = .returned (.bool (decide (wrong LL D = -1))) ∧ w.grownBy w' none := by
  have H1 := Lib.hid (fun w h => wrongl_any v LL D w h hn)
  have H := Lib.hid h
  have hw := wrong_neg LL D
  obtain ⟨r, hr⟩ : ∃ r, wrong LL D = r := ⟨_, rfl⟩
  rw [hr] at H1 hw
  rw [hr]
  obtain ⟨A, c, B, d, rfl, _⟩ := h
  obtain ⟨n, hnn⟩ : ∃ n, LL.length = n := ⟨_, rfl⟩
  obtain ⟨m, hm⟩ : ∃ m, D.length = m := ⟨_, rfl⟩
  rw [hm, hnn] at H1 H
  rw [hm, hnn]
  clear hn hr hnn hm
  obtain ⟨q, hq⟩ : ∃ q, (r == -1) = q := ⟨_, rfl⟩
  have e : decide (r = -1) = q := by rw [← hq, Bool.eq_iff_iff]; simp
  rw [e]
  clear e
  go_enter Tryd.func119, Tryd.ntmps119
  go_wp2_with fail
  refine (H1.out _ (H.out.grown (World.grownBy_alloc _ _ _))).mono ?_
  rintro e w2 ⟨rfl, hg2⟩
  have HG2 := Lib.hid ((World.grownBy_alloc w (.cells #[.slice A n c, .slice B m d] 40) none).trans hg2)
  clear hg2
  go_wp2_with fail
  go_ret
  exact ⟨rfl, HG2.out⟩

end Go.Proofs.YtachjodnhgmoiaaDoor
