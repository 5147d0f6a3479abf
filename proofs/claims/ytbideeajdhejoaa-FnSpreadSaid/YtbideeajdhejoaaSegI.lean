/- What areLengths and SegmentsValid of the program do. -/
import Derived.Test.YtbideeajdhejoaaWrong
import Derived.Test.YtbideeajdhejoaaSeg
namespace Go.Proofs.Ytbideeajdhejoaa
open Go.RowKit

theorem ret_boolX {a b : Bool} (h : a = b) : Ending.returned (.bool a) = .returned (.bool b) := by rw [h]

set_option maxHeartbeats 400000 in
theorem isdata_any (A : Option Addr) (c : Nat) (hi : Int) (zs : List Int) (w : World) (h : Ints w A zs) (hn : zs.length ≤ 1048576) :
    Calls Try.prog 117 #[.slice A zs.length c, .int .i64 hi] w fun e w' => e = .returned (.bool (decide (zs.length ≤ 400) && okN hi zs)) ∧ w = w' := by
  have HU := Lib.hid (upto_any A c zs.length hi zs w h hn)
  obtain ⟨r, hr⟩ : ∃ r, (decide (zs.length ≤ 400) && okN hi zs) = r := ⟨_, rfl⟩
  have HR := Lib.hid hr
  rw [hr]
  obtain ⟨q, hq⟩ : ∃ q, decide (zs.length = zs.length ∧ okN hi zs = true) = q := ⟨_, rfl⟩
  rw [hq] at HU
  have HQ : Hid (q = okN hi zs) := Lib.hid (by rw [← hq, Bool.eq_iff_iff]; simp)
  obtain ⟨n, hnn⟩ : ∃ n, zs.length = n := ⟨_, rfl⟩
  have HN := Lib.hid hnn
  rw [hnn] at hn HU ⊢
  clear h hnn hr hq
  by_cases h1 : n ≤ 400
  · go_enter Try.func117, Try.ntmps117
    go_wp2_with fail
    refine HU.out.mono ?_
    rintro e w1 ⟨rfl, rfl⟩
    go_wp2_with fail
    go_ret
    refine ⟨?_, rfl⟩
    rw [← HR.out, HQ.out, HN.out]
    simp [h1]
  · go_enter Try.func117, Try.ntmps117
    go_wp2_with fail
    go_ret
    refine ⟨?_, rfl⟩
    rw [← HR.out, HN.out]
    simp [h1]

set_option maxHeartbeats 400000 in
theorem arelen_any (A : Option Addr) (c : Nat) (zs : List Int) (w : World) (h : Ints w A zs) (hn : zs.length ≤ 1048576) :
    Calls Try.prog 93 #[.slice A zs.length c] w fun e w' => e = .returned (.bool (lensB zs)) ∧ w = w' := by
  have HU := Lib.hid (isdata_any A c 400 zs w h hn)
  have HS := Lib.hid (fun hok => sumof_any A c zs w h hok hn)
  obtain ⟨n, hnn⟩ : ∃ n, zs.length = n := ⟨_, rfl⟩
  have HN := Lib.hid hnn
  obtain ⟨q, hq⟩ : ∃ q, (decide (zs.length ≤ 400) && okN 400 zs) = q := ⟨_, rfl⟩
  rw [hq] at HU
  rw [hnn] at hn HU HS ⊢
  clear h
  cases q with
  | false =>
    have hr : lensB zs = false := by rw [lensB, ← Bool.and_assoc, hq]; rfl
    rw [hr]
    clear hq hr hnn
    go_enter Try.func93, Try.ntmps93
    go_wp2_with fail
    refine HU.out.mono ?_
    rintro e w1 ⟨rfl, rfl⟩
    go_wp2_with fail
    go_ret
    exact ⟨rfl, rfl⟩
  | true =>
    have hr : lensB zs = decide (sumI zs ≤ 400) := by rw [lensB, ← Bool.and_assoc, hq]; rfl
    have h2 : okN 400 zs = true := by simp only [Bool.and_eq_true] at hq; exact hq.2
    have HS2 := Lib.hid (HS.out h2)
    rw [hr]
    obtain ⟨s, hs⟩ : ∃ s, sumI zs = s := ⟨_, rfl⟩
    rw [hs] at HS2 ⊢
    clear hq hr h2 HS hs hnn
    go_enter Try.func93, Try.ntmps93
    go_wp2_with fail
    refine HU.out.mono ?_
    rintro e w1 ⟨rfl, rfl⟩
    go_wp2_with fail
    refine HS2.out.mono ?_
    rintro e w1 ⟨rfl, rfl⟩
    go_wp2_with fail
    go_ret
    exact ⟨rfl, rfl⟩

set_option maxHeartbeats 400000 in
theorem segv_any (A B : Option Addr) (c d : Nat) (L D : List Int) (w : World) (h : Ints w A L) (h2 : Ints w B D) (hn : L.length ≤ 1048576) (hm : D.length ≤ 1048576) :
    Calls Try.prog 101 #[.slice A L.length c, .slice B D.length d] w fun e w' => e = .returned (.bool (segsB L D)) ∧ w = w' := by
  have HA := Lib.hid (arelen_any A c L w h hn)
  cases hl : lensB L with
  | false =>
    rw [hl] at HA
    have hr : segsB L D = false := by simp [segsB, hl]
    rw [hr]
    obtain ⟨n, hnn⟩ : ∃ n, L.length = n := ⟨_, rfl⟩
    obtain ⟨m, hmm⟩ : ∃ m, D.length = m := ⟨_, rfl⟩
    rw [hnn] at HA ⊢
    rw [hmm]
    clear hr hl h h2 hn hm hnn hmm
    go_enter Try.func101, Try.ntmps101
    go_wp2_with fail
    refine HA.out.mono ?_
    rintro e w1 ⟨rfl, rfl⟩
    go_wp2_with fail
    go_ret
    exact ⟨rfl, rfl⟩
  | true =>
    rw [hl] at HA
    obtain ⟨_, hok, _, hs0⟩ := lensB_get hl
    have HS := Lib.hid (sumof_any A c L w h hok hn)
    obtain ⟨k, hk⟩ : ∃ k : Nat, sumI L = (k : Int) := ⟨(sumI L).toNat, by omega⟩
    have HU := Lib.hid (upto_any B d k 10006 D w h2 hm)
    have hr : segsB L D = decide (D.length = k ∧ okN 10006 D = true) := by
      simp only [segsB, hl, hk, Bool.true_and]
      rw [Bool.eq_iff_iff]
      simp
      omega
    rw [hr]
    rw [hk] at HS
    obtain ⟨q, hq⟩ : ∃ q, decide (D.length = k ∧ okN 10006 D = true) = q := ⟨_, rfl⟩
    rw [hq] at HU ⊢
    obtain ⟨n, hnn⟩ : ∃ n, L.length = n := ⟨_, rfl⟩
    obtain ⟨m, hmm⟩ : ∃ m, D.length = m := ⟨_, rfl⟩
    rw [hnn] at HA HS ⊢
    rw [hmm] at HU ⊢
    clear hr hl h h2 hn hm hnn hmm hok hs0 hk hq
    go_enter Try.func101, Try.ntmps101
    go_wp2_with fail
    refine HA.out.mono ?_
    rintro e w1 ⟨rfl, rfl⟩
    go_wp2_with fail
    refine HS.out.mono ?_
    rintro e w1 ⟨rfl, rfl⟩
    go_wp2_with fail
    refine HU.out.mono ?_
    rintro e w1 ⟨rfl, rfl⟩
    go_wp2_with fail
    go_ret
    exact ⟨rfl, rfl⟩

end Go.Proofs.Ytbideeajdhejoaa
