/- The laws' helpers szIntS, szIntSS, szLayout. -/
import Derived.Test.YtdfanconjiiceaaFam
namespace Go.Proofs.Ytdfanconjiiceaa
open Go.RowKit

set_option maxHeartbeats 400000 in
theorem szi_any (A : Option Addr) (n c : Nat) (L : Int) (w : World) (hL0 : 0 ≤ L) (hL : L ≤ 1048576) (hn : n ≤ 9223372036854775807) :
    Calls Try.prog 85 #[.slice A n c, .int .i64 L] w fun e w' => (∃ r : Int, e = .returned (.int .i64 r) ∧ r ≤ 1048576 ∧ (0 ≤ r → r = L - n)) ∧ w = w' := by
  by_cases hneg : L < n
  · go_enter Try.func85, Try.ntmps85
    go_wp2_with fail
    go_ret
    exact ⟨⟨-1, rfl, by omega, fun h => by omega⟩, rfl⟩
  · go_enter Try.func85, Try.ntmps85
    go_wp2_with fail
    go_ret
    exact ⟨⟨_, rfl, by omega, fun _ => rfl⟩, rfl⟩

set_option maxHeartbeats 400000 in
theorem szs_any (A : Option Addr) (c : Nat) (L : Int) (LL : List (List Int)) (w : World) (h : Rws w A LL) (hL0 : 0 ≤ L) (hL : L ≤ 1048576) (hn : LL.length ≤ 9223372036854775807) (hsz : ∀ M ∈ LL, M.length ≤ 9223372036854775807) :
    Calls Try.prog 84 #[.slice A LL.length c, .int .i64 L] w fun e w' => (∃ r : Int, e = .returned (.int .i64 r) ∧ r ≤ 1048576 ∧ (0 ≤ r → r = L - LL.length - totL LL)) ∧ w = w' := by
  have HS := Lib.hid h
  have HZ := Lib.hid hsz
  obtain ⟨n, hnn⟩ : ∃ n, LL.length = n := ⟨_, rfl⟩
  rw [hnn] at hn ⊢
  have HN := Lib.hid hnn
  clear h hsz hnn
  by_cases hneg : L < n
  · go_enter Try.func84, Try.ntmps84
    go_wp2_with fail
    go_ret
    exact ⟨⟨-1, rfl, by omega, fun h => by omega⟩, rfl⟩
  · go_enter Try.func84, Try.ntmps84
    go_wp2_with fail
    go_loop [1, 5] (fun l i => ∃ (j : Nat) (x : Int), j ≤ n ∧ i = .int .i64 j ∧ l = .int .i64 x ∧ 0 ≤ x ∧ x ≤ 1048576 ∧ Hid (x = L - n - totL (LL.take j))) (fun _ i => n - (intOf i).toNat)
    case atStart => exact ⟨0, _, Nat.zero_le _, rfl, rfl, by omega, by omega, Lib.hid (by simp [totL])⟩
    case round =>
      obtain ⟨j, x, hj, rfl, rfl, hx0, hx1, hx⟩ := hrel
      by_cases hlt : j < n
      · obtain ⟨M, hM⟩ : ∃ M, LL[j]? = some M := ⟨_, List.getElem?_eq_getElem (by have := HN.out; omega)⟩
        obtain ⟨b, off, B, d, rfl, hcell, hcap, hi⟩ := HS.out.at_ hM
        have hmm := HZ.out M (List.mem_of_getElem? hM)
        have HST := Lib.hid (totL_step hM)
        clear hM hi hcap
        obtain ⟨k, hk⟩ : ∃ k, M.length = k := ⟨_, rfl⟩
        have HK := Lib.hid hk
        rw [hk] at hcell hmm
        clear hk
        have HC := Lib.hid (szi_any B k d x w hx0 hx1 hmm)
        go_wp2_with fail
        refine HC.out.mono ?_
        rintro e w1 ⟨⟨r, rfl, hr1, hr⟩, rfl⟩
        have HR := Lib.hid hr
        clear hr
        by_cases hfit : r < 0
        · go_wp2_with fail
          go_ret
          exact ⟨⟨-1, rfl, by omega, fun h => by omega⟩, rfl⟩
        · go_wp2_with fail
          go_round
          case rel =>
            refine ⟨j + 1, r, by omega, by go_num, rfl, by omega, by omega, Lib.hid ?_⟩
            have h1 := HR.out (by omega)
            have h2 := HST.out
            have h3 := hx.out
            have h4 := HK.out
            omega
          case measure => simp [intOf]; omega
      · have hjn : j = n := by omega
        have HJ := Lib.hid hjn
        clear hjn
        go_wp2_with fail
        go_ret
        refine ⟨⟨x, rfl, by omega, fun h => ?_⟩, rfl⟩
        have h1 := hx.out
        rw [List.take_of_length_le (by have := HN.out; have := HJ.out; omega)] at h1
        omega

set_option maxHeartbeats 400000 in
theorem szl_any (v : Value) (LL : List (List Int)) (D : List Int) (w : World) (h : Lyt w v LL D) (hn : LL.length ≤ 9223372036854775807) (hsz : ∀ M ∈ LL, M.length ≤ 9223372036854775807) (hd : D.length ≤ 9223372036854775807) :
    Calls Try.prog 50 #[v, .int .i64 1048576] w fun e w' => (∃ r : Int, e = .returned (.int .i64 r) ∧ (0 ≤ r → LL.length + totL LL + D.length ≤ 1048576)) ∧ w.grownBy w' none := by
  obtain ⟨A, c, B, d, rfl, h1, h2, h3, h4⟩ := h
  have H1 := Lib.hid (fun w (h : Rws w A LL) => szs_any A c 1048576 LL w h (by omega) (by omega) hn hsz)
  have H3 := Lib.hid h3
  obtain ⟨m, hm⟩ : ∃ m, LL.length = m := ⟨_, rfl⟩
  obtain ⟨k, hk⟩ : ∃ k, D.length = k := ⟨_, rfl⟩
  rw [hm] at H1 ⊢
  rw [hk] at hd ⊢
  clear h1 h2 h3 h4 hsz hm hk hn
  go_enter Try.func50, Try.ntmps50
  go_wp2_with fail
  refine (H1.out _ (H3.out.grown (World.grownBy_alloc _ _ _))).mono ?_
  rintro e w1 ⟨⟨r, rfl, hr1, hr⟩, rfl⟩
  have HR := Lib.hid hr
  clear hr
  by_cases hneg : r < 0
  · go_wp2_with fail
    go_ret
    exact ⟨⟨-1, rfl, fun h => by omega⟩, World.grownBy_alloc _ _ _⟩
  · have HC := Lib.hid (fun w => szi_any B k d r w (by omega) hr1 hd)
    go_wp2_with fail
    refine (HC.out _).mono ?_
    rintro e w2 ⟨⟨r2, rfl, hr21, hr2⟩, rfl⟩
    have HR2 := Lib.hid hr2
    clear hr2
    by_cases hneg2 : r2 < 0
    · go_wp2_with fail
      go_ret
      exact ⟨⟨-1, rfl, fun h => by omega⟩, World.grownBy_alloc _ _ _⟩
    · go_wp2_with fail
      go_ret
      refine ⟨⟨r2, rfl, fun h => ?_⟩, World.grownBy_alloc _ _ _⟩
      have h1 := HR2.out h
      have h2 := HR.out (by omega)
      omega

end Go.Proofs.Ytdfanconjiiceaa
