/- What faTotal of the laws does; and plain facts on spread and counted numbers. -/
import Derived.Test.YtbideeajdhejoaaDrawSpr
import Derived.Test.YtbideeajdhejoaaGenUp
import Derived.Test.YtbideeajdhejoaaGen
namespace Go.Proofs.Ytbideeajdhejoaa
open Go.RowKit

set_option maxHeartbeats 1000000 in
theorem total_any (A : Option Addr) (c : Nat) (L : List Int) (w : World) (hA : Ints w A L) (hok : okN 400 L = true) (hn : L.length ≤ 400) :
    Calls Try.prog 54 #[.slice A L.length c] w fun e w' => e = .returned (.int .i64 (sumI L)) ∧ w' = w := by
  have HA := Lib.hid hA
  have HOK := Lib.hid hok
  obtain ⟨n, hnn⟩ : ∃ n, L.length = n := ⟨_, rfl⟩
  have HN := Lib.hid hnn
  rw [hnn] at hn ⊢
  clear hA hok hnn
  go_enter Try.func54, Try.ntmps54
  go_wp2_with fail
  go_loopw [3, 8] (fun s i wr => ∃ k : Nat, k ≤ n ∧ i = .int .i64 k ∧ s = .int .i64 (sumI (L.take k)) ∧ wr = w) (fun _ i _ => n - (intOf i).toNat)
  case atStart => exact ⟨0, Nat.zero_le _, rfl, rfl, rfl⟩
  case round =>
    obtain ⟨k, hk, rfl, rfl, rfl⟩ := hrel
    obtain ⟨w0, rfl⟩ : ∃ w0 : World, w0 = wr := ⟨_, rfl⟩
    by_cases hlt : k < n
    · obtain ⟨z, hz⟩ : ∃ z, L[k]? = some z := ⟨_, List.getElem?_eq_getElem (by have := HN.out; omega)⟩
      obtain ⟨b, off, rfl, _, hc⟩ := HA.out (by have := HN.out; omega)
      have hcell := hc k z hz
      have HS := Lib.hid (sumI_step hz)
      obtain ⟨h0, h4⟩ := sumI_take_bound HOK.out k
      obtain ⟨hz0, hz4⟩ := okN_at hz HOK.out
      obtain ⟨s0, hs0⟩ : ∃ s0, sumI (L.take k) = s0 := ⟨_, rfl⟩
      rw [hs0] at h0 h4 HS ⊢
      have hw : IntKind.i64.wrap (s0 + z) = s0 + z := IntWalk.i64_in _ (by omega)
      clear hc hz hs0
      go_wp2_with fail
      go_roundw
      case rel => exact ⟨k + 1, by omega, by go_num, by rw [HS.out], by first | trivial | rfl⟩
      case measure => simp [intOf]; omega
    · have hkn : k = n := by omega
      subst hkn
      rw [show L.take k = L from List.take_of_length_le (by have := HN.out; omega)]
      go_wp2_with fail
      go_ret
      exact ⟨rfl, rfl⟩

theorem okN_all {hi : Int} : ∀ {l : List Int}, (∀ x ∈ l, 0 ≤ x ∧ x ≤ hi) → okN hi l = true
  | [], _ => rfl
  | y :: l, h => by
    have h1 := h y List.mem_cons_self
    have h2 := okN_all (hi := hi) (l := l) (fun x hx => h x (List.mem_cons_of_mem _ hx))
    simp [okN, h1, h2]

theorem genI_seg (F : Nat → Nat → Int) : ∀ (L : List Int) (i j : Nat) (z : Int), okN 400 L = true → L[j]? = some z → ((genI F i L).drop (sumI (L.take j)).toNat).take z.toNat = (List.range z.toNat).map (F (i + j))
  | [], _, _, _, _, h => by simp at h
  | y :: L, i, 0, z, _, h => by
    simp only [List.getElem?_cons_zero, Option.some.injEq] at h
    subst h
    simp [genI, sumI]
  | y :: L, i, j + 1, z, hok, h => by
    simp only [okN, Bool.and_eq_true, decide_eq_true_eq] at hok
    have := genI_seg F L (i + 1) j z hok.2 (by simpa using h)
    have hb := sumI_take_bound hok.2 j
    simp only [List.take_succ_cons, sumI, genI]
    rw [show (y + sumI (L.take j)).toNat = y.toNat + (sumI (L.take j)).toNat from by omega, ← List.drop_drop, List.drop_left' (by simp), this, show i + 1 + j = i + (j + 1) from by omega]

theorem genI_mem (F : Nat → Nat → Int) : ∀ (L : List Int) (i : Nat) (x : Int), x ∈ genI F i L → ∃ j k, j < L.length ∧ x = F (i + j) k
  | [], _, _, h => by simp [genI] at h
  | y :: L, i, x, h => by
    simp only [genI, List.mem_append, List.mem_map] at h
    rcases h with ⟨k, _, rfl⟩ | h
    · exact ⟨0, k, by simp, rfl⟩
    · obtain ⟨j, k, h1, h2⟩ := genI_mem F L (i + 1) x h
      exact ⟨j + 1, k, by simp; omega, by rw [h2, show i + 1 + j = i + (j + 1) from by omega]⟩

end Go.Proofs.Ytbideeajdhejoaa
