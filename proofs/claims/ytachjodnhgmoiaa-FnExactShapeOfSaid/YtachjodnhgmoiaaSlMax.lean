/- What slices.Max and slices.Min of ints do. -/
import Derived.Test.YtachjodnhgmoiaaShp
import Derived.Test.YtachjodnhgmoiaaIntC
namespace Go.Proofs.Ytachjodnhgmoiaa
open Go.RowKit

set_option maxHeartbeats 400000 in
theorem slmax_any (A : Option Addr) (c : Nat) (L : List Int) (w : World) (h : Ints w A L) (h0 : 0 < L.length) (hn : L.length ≤ 1099511627776) :
    Calls Try.prog 23 #[.slice A L.length c] w fun e w' => e = .returned (.int .i64 (maxI L)) ∧ w = w' := by
  obtain ⟨b, off, rfl, _, hc⟩ := h h0
  have HC := Lib.hid hc
  obtain ⟨z0, hz0⟩ : ∃ z, L[0]? = some z := ⟨_, List.getElem?_eq_getElem h0⟩
  have hc0 := hc 0 z0 hz0
  rw [Nat.add_zero] at hc0
  have HZ0 : Hid (z0 = maxI (L.take 1)) := Lib.hid (by cases L with | nil => simp at h0 | cons y l => simp at hz0; simp [maxI, hz0])
  obtain ⟨n, hnn⟩ : ∃ n, L.length = n := ⟨_, rfl⟩
  have HN := Lib.hid hnn
  rw [hnn] at h0 hn ⊢
  clear hc hnn hz0
  go_enter Try.func23, Try.ntmps23
  go_wp2_with fail
  go_loop [3, 4] (fun u i => ∃ (j : Nat) (x : Int), 1 ≤ j ∧ j ≤ n ∧ i = .int .i64 j ∧ u = .int .i64 x ∧ Hid (x = maxI (L.take j))) (fun _ i => n - (intOf i).toNat)
  case atStart => exact ⟨1, z0, Nat.le_refl _, by omega, rfl, rfl, HZ0⟩
  case round =>
    obtain ⟨j, x, hj1, hj, rfl, rfl, hx⟩ := hrel
    by_cases hlt : j < n
    · obtain ⟨z, hz⟩ : ∃ z, L[j]? = some z := ⟨_, List.getElem?_eq_getElem (by have := HN.out; omega)⟩
      have hcell := HC.out j z hz
      have HST := Lib.hid (maxI_step hj1 hz)
      clear hz hc0
      go_wp2_with fail
      all_goals
        go_round
        case rel =>
          refine ⟨j + 1, _, by omega, by omega, by go_num, rfl, Lib.hid ?_⟩
          rw [HST.out, ← hx.out]
          omega
        case measure => simp [intOf]; omega
    · have hjn : j = n := by omega
      have HJ := Lib.hid hjn
      clear hjn hc0
      go_wp2_with fail
      go_ret
      refine ⟨?_, rfl⟩
      rw [hx.out, HJ.out, ← HN.out, List.take_length]
      rfl

set_option maxHeartbeats 400000 in
theorem slmin_any (A : Option Addr) (c : Nat) (L : List Int) (w : World) (h : Ints w A L) (h0 : 0 < L.length) (hn : L.length ≤ 1099511627776) :
    Calls Try.prog 24 #[.slice A L.length c] w fun e w' => e = .returned (.int .i64 (minI L)) ∧ w = w' := by
  obtain ⟨b, off, rfl, _, hc⟩ := h h0
  have HC := Lib.hid hc
  obtain ⟨z0, hz0⟩ : ∃ z, L[0]? = some z := ⟨_, List.getElem?_eq_getElem h0⟩
  have hc0 := hc 0 z0 hz0
  rw [Nat.add_zero] at hc0
  have HZ0 : Hid (z0 = minI (L.take 1)) := Lib.hid (by cases L with | nil => simp at h0 | cons y l => simp at hz0; simp [minI, hz0])
  obtain ⟨n, hnn⟩ : ∃ n, L.length = n := ⟨_, rfl⟩
  have HN := Lib.hid hnn
  rw [hnn] at h0 hn ⊢
  clear hc hnn hz0
  go_enter Try.func24, Try.ntmps24
  go_wp2_with fail
  go_loop [3, 4] (fun u i => ∃ (j : Nat) (x : Int), 1 ≤ j ∧ j ≤ n ∧ i = .int .i64 j ∧ u = .int .i64 x ∧ Hid (x = minI (L.take j))) (fun _ i => n - (intOf i).toNat)
  case atStart => exact ⟨1, z0, Nat.le_refl _, by omega, rfl, rfl, HZ0⟩
  case round =>
    obtain ⟨j, x, hj1, hj, rfl, rfl, hx⟩ := hrel
    by_cases hlt : j < n
    · obtain ⟨z, hz⟩ : ∃ z, L[j]? = some z := ⟨_, List.getElem?_eq_getElem (by have := HN.out; omega)⟩
      have hcell := HC.out j z hz
      have HST := Lib.hid (minI_step hj1 hz)
      clear hz hc0
      go_wp2_with fail
      all_goals
        go_round
        case rel =>
          refine ⟨j + 1, _, by omega, by omega, by go_num, rfl, Lib.hid ?_⟩
          rw [HST.out, ← hx.out]
          omega
        case measure => simp [intOf]; omega
    · have hjn : j = n := by omega
      have HJ := Lib.hid hjn
      clear hjn hc0
      go_wp2_with fail
      go_ret
      refine ⟨?_, rfl⟩
      rw [hx.out, HJ.out, ← HN.out, List.take_length]
      rfl

end Go.Proofs.Ytachjodnhgmoiaa
