/- What the model's l2Sum, WhatIsWrong and LayoutValid do. -/
import Derived.Test.YtdfanconjiiceaaWrong
import Derived.Test.YtdfanconjiiceaaIn
namespace Go.Proofs.Ytdfanconjiiceaa
open Go.RowKit

set_option maxHeartbeats 400000 in
theorem ssum_any (A : Option Addr) (c : Nat) (zs : List Int) (w : World) (h : Ints w A zs) (hn : zs.length ≤ 1048576) :
    Calls Try.prog 68 #[.slice A zs.length c] w fun e w' => e = .returned (.int .i64 (if okN 400 zs = true then sumI zs else -1)) ∧ w = w' := by
  have HS := Lib.hid h
  obtain ⟨n, hnn⟩ : ∃ n, zs.length = n := ⟨_, rfl⟩
  have HN := Lib.hid hnn
  rw [hnn] at hn ⊢
  obtain ⟨r, hr⟩ : ∃ r, (if okN 400 zs = true then sumI zs else -1) = r := ⟨_, rfl⟩
  rw [hr]
  have HR := Lib.hid hr
  clear h hnn hr
  go_enter Try.func68, Try.ntmps68
  go_wp2_with fail
  go_loop [3, 8] (fun u i => ∃ (j : Nat) (x : Int), j ≤ n ∧ i = .int .i64 j ∧ u = .int .i64 x ∧ 0 ≤ x ∧ x ≤ 400 * j ∧ Hid (okN 400 (zs.take j) = true) ∧ Hid (x = sumI (zs.take j))) (fun _ i => n - (intOf i).toNat)
  case atStart => exact ⟨0, 0, Nat.zero_le _, rfl, rfl, by omega, by omega, Lib.hid rfl, Lib.hid rfl⟩
  case round =>
    obtain ⟨j, x, hj, rfl, rfl, hx0, hx1, hok, hx⟩ := hrel
    by_cases hlt : j < n
    · obtain ⟨z, hz⟩ : ∃ z, zs[j]? = some z := ⟨_, List.getElem?_eq_getElem (by have := HN.out; omega)⟩
      obtain ⟨b, off, rfl, _, hc⟩ := HS.out (by have := HN.out; omega)
      have hcell := hc j z hz
      have HST := Lib.hid (sumI_step hz)
      have HZ := Lib.hid hz
      clear hc hz
      obtain ⟨q, hq⟩ : ∃ q, decide (0 ≤ z ∧ z ≤ 400) = q := ⟨_, rfl⟩
      have HI := Lib.hid (in_any z 0 400 q hq w)
      have HQ := Lib.hid hq
      clear hq
      cases q
      · go_wp2_with fail
        refine HI.out.mono ?_
        rintro e w1 ⟨rfl, rfl⟩
        go_wp2_with fail
        go_ret
        refine ⟨?_, rfl⟩
        rw [← HR.out, okN_bad (hi := 400) HZ.out (by have := decide_eq_false_iff_not.1 HQ.out; omega)]
        rfl
      · have hz2 := decide_eq_true_iff.1 HQ.out
        obtain ⟨hz0, hz1⟩ := hz2
        go_wp2_with fail
        refine HI.out.mono ?_
        rintro e w1 ⟨rfl, rfl⟩
        go_wp2_with fail
        go_round
        case rel => exact ⟨j + 1, x + z, by omega, by go_num, by go_num, by omega, by omega, Lib.hid (okN_step HZ.out hok.out hz0 hz1), Lib.hid (by rw [HST.out, hx.out])⟩
        case measure => simp [intOf]; omega
    · have hjn : j = n := by omega
      have HJ := Lib.hid hjn
      clear hjn
      go_wp2_with fail
      go_ret
      refine ⟨?_, rfl⟩
      have e : zs.take j = zs := by rw [HJ.out, ← HN.out, List.take_length]
      have h1 := hok.out
      have h2 := hx.out
      rw [e] at h1 h2
      have e2 : (if okN 400 zs = true then sumI zs else -1) = x := by rw [if_pos h1, h2]
      rw [← HR.out, e2]
      rfl

set_option maxHeartbeats 1000000 in
theorem swrong_any (v : Value) (LL : List (List Int)) (D : List Int) (w : World) (h : Lyt w v LL D) (hn : LL.length + totL LL + D.length ≤ 1048576) :
    Calls Try.prog 94 #[v] w fun e w' => e = .returned (.int .i64 (wrong LL D)) ∧ w.grownBy w' none := by
  obtain ⟨A, c, B, d, rfl, h1, h2, h3, h4⟩ := h
  have hm := totm hn
  have HM := Lib.hid hm
  obtain ⟨n, hnn⟩ : ∃ n, LL.length = n := ⟨_, rfl⟩
  have HN := Lib.hid hnn
  have hn1 : n ≤ 1048576 := by omega
  obtain ⟨m, hmm⟩ : ∃ m, D.length = m := ⟨_, rfl⟩
  have HMM := Lib.hid hmm
  have hm1 : m ≤ 1048576 := by omega
  obtain ⟨r, hr⟩ : ∃ r, wrong LL D = r := ⟨_, rfl⟩
  have HR := Lib.hid hr
  rw [hmm, hnn, hr]
  clear hr hnn hmm hm hn
  have hg0 : w.grownBy (w.alloc (.cells #[.slice A n c, .slice B m d] 25)) none := World.grownBy_alloc _ _ _
  have HS := Lib.hid (h3.grown hg0)
  have HD := Lib.hid (h4.grown hg0 (by simp))
  have HG := Lib.hid hg0
  clear h1 h2 h3 h4 hg0
  go_enter Try.func94, Try.ntmps94
  go_wp2_with fail
  go_loop [3, 11] (fun u i => ∃ (j k : Nat), j ≤ n ∧ i = .int .i64 j ∧ u = .int .i64 k ∧ k ≤ 1000000000 ∧ j ≤ 3 ∧ Hid (wrongAt j k (LL.drop j) D = r)) (fun _ i => n - (intOf i).toNat)
  case atStart => exact ⟨0, 1, Nat.zero_le _, rfl, rfl, by omega, by omega, Lib.hid HR.out⟩
  case round =>
    obtain ⟨j, k, hj, rfl, rfl, hk, hj4, hx⟩ := hrel
    by_cases hlt : j < n
    · obtain ⟨L, hL⟩ : ∃ L, LL[j]? = some L := ⟨_, List.getElem?_eq_getElem (by have := HN.out; omega)⟩
      obtain ⟨b, off, B2, c2, rfl, hcell, _, hi⟩ := HS.out.at_ hL
      have hll := HM.out L (List.mem_of_getElem? hL)
      have HC := Lib.hid (ssum_any B2 c2 L _ hi hll)
      have HL := Lib.hid hL
      obtain ⟨q, hq⟩ : ∃ q, L.length = q := ⟨_, rfl⟩
      have HQ := Lib.hid hq
      have hq1 : q ≤ 1048576 := by omega
      rw [hq] at hcell HC
      clear hL hi hq hll
      by_cases hqk : q = k
      · subst hqk
        have hqq : ((q : Int) != (q : Int)) = false := by simp
        cases hok : okN 400 L with
        | false =>
          rw [hok] at HC
          have HOK := Lib.hid hok
          clear hok
          go_wp2_with fail
          refine HC.out.mono ?_
          rintro e w1 ⟨rfl, rfl⟩
          go_wp2_with fail
          go_ret
          refine ⟨?_, HG.out⟩
          rw [wrong_stop HL.out hx.out (by rw [HOK.out]; simp)]
          rfl
        | true =>
          have hsb := sumI_bound hok
          obtain ⟨x, hxx⟩ : ∃ x : Nat, sumI L = x := ⟨(sumI L).toNat, by omega⟩
          have hx1 : x ≤ 1000000000 := by have := HQ.out; omega
          rw [hok, if_pos rfl, hxx] at HC
          have HOK := Lib.hid hok
          have HX := Lib.hid hxx
          clear hok hsb hxx
          by_cases h3 : j = 3
          · subst h3
            go_wp2_with fail
            refine HC.out.mono ?_
            rintro e w1 ⟨rfl, rfl⟩
            go_wp2_with fail
            go_ret
            refine ⟨?_, HG.out⟩
            rw [wrong_stop HL.out hx.out (by omega)]
            rfl
          · have hj3 : j < 3 := by omega
            clear h3
            go_wp2_with fail
            refine HC.out.mono ?_
            rintro e w1 ⟨rfl, rfl⟩
            go_wp2_with fail
            refine HC.out.mono ?_
            rintro e w1 ⟨rfl, rfl⟩
            go_wp2_with fail
            go_round
            case rel =>
              refine ⟨j + 1, x, by omega, by go_num, rfl, hx1, by omega, Lib.hid ?_⟩
              have := wrong_next HL.out hx.out hj3 HQ.out HOK.out
              rw [HX.out] at this
              exact this
            case measure => simp [intOf]; omega
      · have hqq : ((q : Int) != (k : Int)) = true := by simp; omega
        have HQK := Lib.hid hqk
        clear hqk
        go_wp2_with fail
        go_ret
        refine ⟨?_, HG.out⟩
        rw [wrong_stop HL.out hx.out (by have := HQ.out; have := HQK.out; omega)]
        rfl
    · have hjn : j = n := by omega
      have HJ := Lib.hid hjn
      have hw := wrong_end (show LL.length ≤ j by have := HN.out; omega) hx.out
      have HW := Lib.hid hw
      clear hw
      subst hjn
      by_cases hmk : m = k
      · subst hmk
        have hmm : ((m : Int) != (m : Int)) = false := by simp
        go_wp2_with fail
        go_loop [44] (fun i => ∃ (t : Nat), t ≤ m ∧ i = .int .i64 t ∧ Hid (okN 10006 (D.take t) = true)) (fun i => m - (intOf i).toNat)
        case atStart => exact ⟨0, Nat.zero_le _, rfl, Lib.hid rfl⟩
        case round =>
          obtain ⟨t, ht, rfl, hy⟩ := hrel
          by_cases htm : t < m
          · obtain ⟨z, hz⟩ : ∃ z, D[t]? = some z := ⟨_, List.getElem?_eq_getElem (by have := HMM.out; omega)⟩
            obtain ⟨b, off, rfl, _, hc⟩ := HD.out (by have := HMM.out; omega)
            have hcell := hc t z hz
            have HZ := Lib.hid hz
            clear hc hz
            obtain ⟨q, hq⟩ : ∃ q, decide (0 ≤ z ∧ z ≤ 10006) = q := ⟨_, rfl⟩
            have HI := Lib.hid (fun w => in_any z 0 10006 q hq w)
            have HQ := Lib.hid hq
            clear hq
            cases q
            · go_wp2_with fail
              refine (HI.out _).mono ?_
              rintro e w1 ⟨rfl, rfl⟩
              go_wp2_with fail
              go_ret
              refine ⟨?_, HG.out⟩
              rw [HW.out, okN_bad HZ.out (by have := decide_eq_false_iff_not.1 HQ.out; omega)]
              simp
            · have hz2 := decide_eq_true_iff.1 HQ.out
              obtain ⟨hz0, hz1⟩ := hz2
              go_wp2_with fail
              refine (HI.out _).mono ?_
              rintro e w1 ⟨rfl, rfl⟩
              go_wp2_with fail
              go_round
              case rel => exact ⟨t + 1, by omega, by go_num, Lib.hid (okN_step HZ.out hy.out hz0 hz1)⟩
              case measure => simp [intOf]; omega
          · have htn : t = m := by omega
            have HT := Lib.hid htn
            clear htn
            go_wp2_with fail
            go_ret
            refine ⟨?_, HG.out⟩
            have h1 := hy.out
            rw [HT.out, ← HMM.out, List.take_length] at h1
            rw [HW.out, if_pos ⟨HMM.out, h1⟩]
            rfl
      · have hmm : ((m : Int) != (k : Int)) = true := by simp; omega
        have HMK := Lib.hid hmk
        clear hmk
        go_wp2_with fail
        go_ret
        refine ⟨?_, HG.out⟩
        rw [HW.out, if_neg (by have := HMM.out; have := HMK.out; omega)]
        rfl

set_option maxHeartbeats 400000 in
theorem slayok_any (v : Value) (LL : List (List Int)) (D : List Int) (w : World) (h : Lyt w v LL D) (hn : LL.length + totL LL + D.length ≤ 1048576) :
    Calls Try.prog 66 #[v] w fun e w' => e = .returned (.bool (decide (wrong LL D = -1))) ∧ w.grownBy w' none := by
  have H1 := Lib.hid (fun w h => swrong_any v LL D w h hn)
  have H := Lib.hid h
  have hw := wrong_neg LL D
  obtain ⟨r, hr⟩ : ∃ r, wrong LL D = r := ⟨_, rfl⟩
  rw [hr] at H1 hw
  rw [hr]
  obtain ⟨A, c, B, d, rfl, _⟩ := h
  obtain ⟨n, hnn⟩ : ∃ n, LL.length = n := ⟨_, rfl⟩
  obtain ⟨m, hm⟩ : ∃ m, D.length = m := ⟨_, rfl⟩
  rw [hm, hnn] at H1 H
  rw [hm, hnn]
  clear hn hr hnn hm
  obtain ⟨q, hq⟩ : ∃ q, decide (r < 0) = q := ⟨_, rfl⟩
  have e : decide (r = -1) = q := by rw [← hq, Bool.eq_iff_iff]; simp; omega
  rw [e]
  clear e
  go_enter Try.func66, Try.ntmps66
  go_wp2_with fail
  refine (H1.out _ (H.out.grown (World.grownBy_alloc _ _ _))).mono ?_
  rintro e w2 ⟨rfl, hg2⟩
  have HG2 := Lib.hid ((World.grownBy_alloc w (.cells #[.slice A n c, .slice B m d] 25) none).trans hg2)
  clear hg2
  go_wp2_with fail
  go_ret
  exact ⟨rfl, HG2.out⟩

end Go.Proofs.Ytdfanconjiiceaa
