/- What the model's l3Lengths, l3Total, l3Numbers and SegmentsValid do. -/
import Derived.Test.YtbideeajdhejoaaSegI
import Derived.Test.YtbideeajdhejoaaIn
namespace Go.Proofs.Ytbideeajdhejoaa
open Go.RowKit

theorem min_step {s x z : Int} (hx : x = min s 401) (hz : 0 ≤ z) : min (x + z) 401 = min (s + z) 401 := by omega

set_option maxHeartbeats 400000 in
theorem slens_any (A : Option Addr) (c : Nat) (zs : List Int) (w : World) (h : Ints w A zs) (hn : zs.length ≤ 1048576) :
    Calls Try.prog 91 #[.slice A zs.length c] w fun e w' => e = .returned (.bool (lensB zs)) ∧ w = w' := by
  have HS := Lib.hid h
  obtain ⟨n, hnn⟩ : ∃ n, zs.length = n := ⟨_, rfl⟩
  have HN := Lib.hid hnn
  rw [hnn] at hn ⊢
  obtain ⟨r, hr⟩ : ∃ r, lensB zs = r := ⟨_, rfl⟩
  rw [hr]
  have HR := Lib.hid hr
  clear h hnn hr
  go_enter Try.func91, Try.ntmps91
  go_wp2_with fail
  go_loop [3, 8] (fun u i => ∃ (j : Nat) (x : Int), j ≤ n ∧ i = .int .i64 j ∧ u = .int .i64 x ∧ 0 ≤ x ∧ x ≤ 401 ∧ Hid (okN 400 (zs.take j) = true) ∧ Hid (x = min (sumI (zs.take j)) 401)) (fun _ i => n - (intOf i).toNat)
  case atStart => exact ⟨0, 0, Nat.zero_le _, rfl, rfl, by omega, by omega, Lib.hid rfl, Lib.hid rfl⟩
  case round =>
    obtain ⟨j, x, hj, rfl, rfl, hx0, hx1, hok, hx⟩ := hrel
    by_cases hlt : j < n
    · obtain ⟨z, hz⟩ : ∃ z, zs[j]? = some z := ⟨_, List.getElem?_eq_getElem (by have := HN.out; omega)⟩
      obtain ⟨b, off, rfl, _, hc⟩ := HS.out (by have := HN.out; omega)
      have hcell := hc j z hz
      have HST := Lib.hid (sumI_step hz)
      have HZ := Lib.hid hz
      clear hc hz
      obtain ⟨q, hq⟩ : ∃ q, decide (0 ≤ z ∧ z ≤ 400) = q := ⟨_, rfl⟩
      have HI := Lib.hid (in_any z 0 400 q hq w)
      have HQ := Lib.hid hq
      clear hq
      cases q
      · go_wp2_with fail
        refine HI.out.mono ?_
        rintro e w1 ⟨rfl, rfl⟩
        go_wp2_with fail
        go_ret
        refine ⟨?_, rfl⟩
        have e1 : okN 400 zs = false := okN_bad HZ.out (by have := decide_eq_false_iff_not.1 HQ.out; omega)
        rw [← HR.out]
        simp [lensB, e1]
      · have hz2 := decide_eq_true_iff.1 HQ.out
        obtain ⟨hz0, hz1⟩ := hz2
        go_wp2_with fail
        refine HI.out.mono ?_
        rintro e w1 ⟨rfl, rfl⟩
        go_wp2_with fail
        all_goals
          go_round
          case rel => exact ⟨j + 1, min (x + z) 401, by omega, by go_num, by first | rfl | (congr 1; omega), by omega, by omega, Lib.hid (okN_step HZ.out hok.out hz0 hz1), Lib.hid (by rw [HST.out]; exact min_step hx.out hz0)⟩
          case measure => simp [intOf]; omega
    · have hjn : j = n := by omega
      have HJ := Lib.hid hjn
      clear hjn
      have e : zs.take j = zs := by rw [HJ.out, ← HN.out, List.take_length]
      have h1 := hok.out
      have h2 := hx.out
      rw [e] at h1 h2
      have e2 : lensB zs = (decide (n ≤ 400) && decide (x ≤ 400)) := by
        simp only [lensB, h1, HN.out, Bool.true_and]
        congr 1
        rw [Bool.eq_iff_iff, decide_eq_true_iff, decide_eq_true_iff]
        omega
      have E2 := Lib.hid e2
      clear e h1 h2 e2
      by_cases hn4 : n ≤ 400
      all_goals
        go_wp2_with fail
        go_ret
        refine ⟨?_, rfl⟩
        rw [← HR.out, E2.out]
        simp [hn4]

set_option maxHeartbeats 400000 in
theorem stotal_any (A : Option Addr) (c : Nat) (zs : List Int) (w : World) (h : Ints w A zs) (hok : okN 400 zs = true) (hn : zs.length ≤ 1048576) :
    Calls Try.prog 146 #[.slice A zs.length c] w fun e w' => e = .returned (.int .i64 (sumI zs)) ∧ w = w' := by
  have HS := Lib.hid h
  have HOK := Lib.hid hok
  obtain ⟨n, hnn⟩ : ∃ n, zs.length = n := ⟨_, rfl⟩
  have HN := Lib.hid hnn
  rw [hnn] at hn ⊢
  clear h hnn hok
  go_enter Try.func146, Try.ntmps146
  go_wp2_with fail
  go_loop [3, 8] (fun u i => ∃ (j : Nat) (x : Int), j ≤ n ∧ i = .int .i64 j ∧ u = .int .i64 x ∧ 0 ≤ x ∧ x ≤ 419430400 ∧ Hid (x = sumI (zs.take j))) (fun _ i => n - (intOf i).toNat)
  case atStart => exact ⟨0, 0, Nat.zero_le _, rfl, rfl, by omega, by omega, Lib.hid rfl⟩
  case round =>
    obtain ⟨j, x, hj, rfl, rfl, hx0, hx1, hx⟩ := hrel
    by_cases hlt : j < n
    · obtain ⟨z, hz⟩ : ∃ z, zs[j]? = some z := ⟨_, List.getElem?_eq_getElem (by have := HN.out; omega)⟩
      obtain ⟨b, off, rfl, _, hc⟩ := HS.out (by have := HN.out; omega)
      have hcell := hc j z hz
      have HST := Lib.hid (sumI_step hz)
      have hb := sumI_take_bound HOK.out (j + 1)
      rw [HST.out, ← hx.out] at hb
      obtain ⟨hb0, hb1⟩ := hb
      have hbz := okN_at hz HOK.out
      obtain ⟨hz0, hz1⟩ := hbz
      clear hc hz
      go_wp2_with fail
      go_round
      case rel => exact ⟨j + 1, x + z, by omega, by go_num, by go_num, by omega, by omega, Lib.hid (by rw [HST.out, hx.out])⟩
      case measure => simp [intOf]; omega
    · have hjn : j = n := by omega
      have HJ := Lib.hid hjn
      clear hjn
      go_wp2_with fail
      go_ret
      refine ⟨?_, rfl⟩
      rw [hx.out, HJ.out, ← HN.out, List.take_length]
      rfl

set_option maxHeartbeats 400000 in
theorem snums3_any (A : Option Addr) (c : Nat) (zs : List Int) (w : World) (h : Ints w A zs) (hn : zs.length ≤ 1048576) :
    Calls Try.prog 73 #[.slice A zs.length c] w fun e w' => e = .returned (.bool (okN 10006 zs)) ∧ w = w' := by
  have HS := Lib.hid h
  obtain ⟨n, hnn⟩ : ∃ n, zs.length = n := ⟨_, rfl⟩
  have HN := Lib.hid hnn
  rw [hnn] at hn ⊢
  obtain ⟨r, hr⟩ : ∃ r, okN 10006 zs = r := ⟨_, rfl⟩
  rw [hr]
  have HR := Lib.hid hr
  clear h hnn hr
  go_enter Try.func73, Try.ntmps73
  go_wp2_with fail
  go_loop [7] (fun i => ∃ (j : Nat), j ≤ n ∧ i = .int .i64 j ∧ Hid (okN 10006 (zs.take j) = true)) (fun i => n - (intOf i).toNat)
  case atStart => exact ⟨0, Nat.zero_le _, rfl, Lib.hid rfl⟩
  case round =>
    obtain ⟨j, hj, rfl, hok⟩ := hrel
    by_cases hlt : j < n
    · obtain ⟨z, hz⟩ : ∃ z, zs[j]? = some z := ⟨_, List.getElem?_eq_getElem (by have := HN.out; omega)⟩
      obtain ⟨b, off, rfl, _, hc⟩ := HS.out (by have := HN.out; omega)
      have hcell := hc j z hz
      have HZ := Lib.hid hz
      clear hc hz
      obtain ⟨q, hq⟩ : ∃ q, decide (0 ≤ z ∧ z ≤ 10006) = q := ⟨_, rfl⟩
      have HI := Lib.hid (in_any z 0 10006 q hq w)
      have HQ := Lib.hid hq
      clear hq
      cases q
      · go_wp2_with fail
        refine HI.out.mono ?_
        rintro e w1 ⟨rfl, rfl⟩
        go_wp2_with fail
        go_ret
        refine ⟨?_, rfl⟩
        rw [← HR.out, okN_bad (hi := 10006) HZ.out (by have := decide_eq_false_iff_not.1 HQ.out; omega)]
        rfl
      · have hz2 := decide_eq_true_iff.1 HQ.out
        obtain ⟨hz0, hz1⟩ := hz2
        go_wp2_with fail
        refine HI.out.mono ?_
        rintro e w1 ⟨rfl, rfl⟩
        go_wp2_with fail
        go_round
        case rel => exact ⟨j + 1, by omega, by go_num, Lib.hid (okN_step HZ.out hok.out hz0 hz1)⟩
        case measure => simp [intOf]; omega
    · have hjn : j = n := by omega
      have HJ := Lib.hid hjn
      clear hjn
      go_wp2_with fail
      go_ret
      refine ⟨?_, rfl⟩
      have e : zs.take j = zs := by rw [HJ.out, ← HN.out, List.take_length]
      have h3 := hok.out
      rw [e] at h3
      rw [← HR.out, h3]
      rfl

end Go.Proofs.Ytbideeajdhejoaa
