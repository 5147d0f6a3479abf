/- What slices.Reverse does to a piece of a row of ints. -/
import Derived.Test.YtpakihjkjdanlaaUpI
import Derived.BigRegion
namespace Go.Proofs.Ytpakihjkjdanlaa
open Go.RowKit

theorem spl_set2 {α : Type} {ys : List α} {s k : Nat} {L : List α} {v : α} (h : s + L.length ≤ ys.length) (hk : k < L.length) : (spl ys s L).set (s + k) v = spl ys s (L.set k v) := by
  have h1 : (ys.take s).length = s := by rw [List.length_take]; omega
  rw [spl, List.set_append_right _ _ (by omega), h1, show s + k - s = k from by omega, List.set_append_left _ _ hk, spl, List.length_set]
theorem spl_at {α : Type} {ys : List α} {s k : Nat} {L : List α} (h : s + L.length ≤ ys.length) (hk : k < L.length) : (spl ys s L)[s + k]? = L[k]? := by
  have h1 : (ys.take s).length = s := by rw [List.length_take]; omega
  rw [spl, List.getElem?_append_right (by omega), h1, show s + k - s = k from by omega, List.getElem?_append_left hk]

/-- A list of z elements of which i at each end are exchanged. -/
def swV (M : List Int) (z i : Nat) : List Int := (List.range z).map fun t => if t < i ∨ z ≤ t + i then M.getD (z - 1 - t) 0 else M.getD t 0
theorem swV_len (M : List Int) (z i : Nat) : (swV M z i).length = z := by simp [swV]
theorem swV_at {M : List Int} {z i t : Nat} (h : t < z) : (swV M z i)[t]? = some (if t < i ∨ z ≤ t + i then M.getD (z - 1 - t) 0 else M.getD t 0) := by simp [swV, h]
theorem swV_zero {M : List Int} {z : Nat} (h : M.length = z) : swV M z 0 = M := by
  refine List.ext_getElem? fun t => ?_
  rcases Nat.lt_or_ge t z with ht | ht
  · rw [swV_at ht, if_neg (by omega), List.getElem?_eq_getElem (by omega), List.getD_eq_getElem?_getD, List.getElem?_eq_getElem (by omega)]
    rfl
  · rw [List.getElem?_eq_none (by rw [swV_len]; exact ht), List.getElem?_eq_none (by omega)]
theorem swV_step {M : List Int} {z i : Nat} (h : 2 * i + 1 < z) : ((swV M z i).set i (M.getD (z - 1 - i) 0)).set (z - 1 - i) (M.getD i 0) = swV M z (i + 1) := by
  refine List.ext_getElem? fun t => ?_
  rcases Nat.lt_or_ge t z with ht | ht
  · rw [swV_at ht, List.getElem?_set, List.length_set, swV_len]
    split
    · rename_i e
      subst e
      rw [if_pos ht, if_pos (by omega), show z - 1 - (z - 1 - i) = i from by omega]
    · rename_i e
      rw [List.getElem?_set, swV_len]
      split
      · rename_i e2
        subst e2
        rw [if_pos ht, if_pos (by omega)]
      · rename_i e2
        rw [swV_at ht]
        by_cases hc : t < i ∨ z ≤ t + i
        · rw [if_pos hc, if_pos (by omega)]
        · rw [if_neg hc, if_neg (by omega)]
  · rw [List.getElem?_eq_none (by rw [List.length_set, List.length_set, swV_len]; exact ht), List.getElem?_eq_none (by rw [swV_len]; exact ht)]
theorem swV_end {M : List Int} {z i : Nat} (hM : M.length = z) (h : z ≤ 2 * i + 1) : swV M z i = M.reverse := by
  refine List.ext_getElem? fun t => ?_
  rcases Nat.lt_or_ge t z with ht | ht
  · rw [swV_at ht, List.getElem?_reverse (by omega), hM]
    have e : M[z - 1 - t]? = some (M.getD (z - 1 - t) 0) := by
      rw [List.getD_eq_getElem?_getD, List.getElem?_eq_getElem (by omega)]; rfl
    split
    · exact e.symm
    · rename_i hc
      rw [e, show z - 1 - t = t from by omega]
  · rw [List.getElem?_eq_none (by rw [swV_len]; exact ht), List.getElem?_eq_none (by rw [List.length_reverse]; omega)]

set_option maxRecDepth 100000 in
set_option maxHeartbeats 4000000 in
theorem rev_any (B g n m s z : Nat) (A' : Option Addr) (c' : Nat) (ys : List Value) (M : List Int) (w : World) (ho : w.ownsRow B 3 1 (.slice (some ⟨g, 0, none⟩) n m) n (spl ys s (M.map (Value.int .i64)))) (hyl : ys.length = n) (hM : M.length = z) (hA : 0 < z → A' = some ⟨g, s, none⟩) (hs : s + z ≤ n) (hz : z ≤ 400) :
    Calls Try.prog 66 #[.slice A' z c'] w fun e w' => e = .returned (.tuple #[]) ∧ w'.ownsRow B 3 1 (.slice (some ⟨g, 0, none⟩) n m) n (spl ys s (M.reverse.map (Value.int .i64))) ∧ w.grownBy w' (some g) := by
  have HO := Lib.hid ho
  have HA := Lib.hid hA
  have HYL := Lib.hid hyl
  have HM := Lib.hid hM
  have HSL : Hid (∀ i, s + ((swV M z i).map (Value.int .i64)).length ≤ ys.length) := Lib.hid (fun i => by rw [List.length_map, swV_len, hyl]; exact hs)
  clear ho hA hyl hM
  go_enter Try.func66, Try.ntmps66
  go_wp2_with fail
  go_loopw [2, 3] (fun a b wr => ∃ (i : Nat), i ≤ z ∧ 2 * i ≤ z + 1 ∧ a = .int .i64 i ∧ b = .int .i64 ((z : Int) - 1 - i) ∧ Hid (wr.ownsRow B 3 1 (.slice (some ⟨g, 0, none⟩) n m) n (spl ys s ((swV M z i).map (Value.int .i64)))) ∧ Hid (w.grownBy wr (some g))) (fun a _ _ => z - (intOf a).toNat)
  case atStart => exact ⟨0, Nat.zero_le _, by omega, rfl, by go_num, Lib.hid (by rw [swV_zero HM.out]; exact HO.out), Lib.hid (gr_refl _ _)⟩
  case round =>
    obtain ⟨i, hi, hi2, rfl, rfl, hown, hgr⟩ := hrel
    by_cases hlt : 2 * i + 1 < z
    · have hA1 := HA.out (by omega)
      subst hA1
      obtain ⟨j, hj⟩ : ∃ j : Nat, z - 1 - i = j := ⟨_, rfl⟩
      have hjz : (z : Int) - 1 - (i : Int) = (j : Int) := by omega
      have hij : (i : Int) < (j : Int) := by omega
      have hjz2 : (j : Int) < (z : Int) := by omega
      have hiz2 : (i : Int) < (z : Int) := by omega
      rw [hjz]
      have hcA : (spl ys s ((swV M z i).map (Value.int .i64)))[s + i]? = some (.int .i64 (M.getD i 0)) := by rw [spl_at (HSL.out i) (by rw [List.length_map, swV_len]; omega), List.getElem?_map, swV_at (by omega), if_neg (by omega)]; rfl
      have hcB : (spl ys s ((swV M z i).map (Value.int .i64)))[s + j]? = some (.int .i64 (M.getD j 0)) := by rw [spl_at (HSL.out i) (by rw [List.length_map, swV_len]; omega), List.getElem?_map, swV_at (by omega), if_neg (by omega)]; rfl
      obtain ⟨x, hx⟩ : ∃ x, M.getD i 0 = x := ⟨_, rfl⟩
      obtain ⟨y, hy⟩ : ∃ y, M.getD j 0 = y := ⟨_, rfl⟩
      have HSW : Hid (((spl ys s ((swV M z i).map (Value.int .i64))).set (s + i) (.int .i64 y)).set (s + j) (.int .i64 x) = spl ys s ((swV M z (i + 1)).map (Value.int .i64))) := Lib.hid (by
        rw [spl_set2 (HSL.out i) (by rw [List.length_map, swV_len]; omega), spl_set2 (by rw [List.length_set]; exact HSL.out i) (by rw [List.length_set, List.length_map, swV_len]; omega), ← hx, ← hy, ← hj, ← swV_step hlt, List.map_set, List.map_set])
      rw [hx] at hcA
      rw [hy] at hcB
      have c1 : wr.cell? ⟨g, s + i, none⟩ = some (.int .i64 x) := (hown.out.cellAt (s + i) (by omega)).trans hcA
      have c2 : wr.cell? ⟨g, s + j, none⟩ = some (.int .i64 y) := (hown.out.cellAt (s + j) (by omega)).trans hcB
      have f1 := hown.out.frozenAt (s + i)
      have f2 := hown.out.frozenAt (s + j)
      have HJZ := Lib.hid hjz
      clear hcA hcB hx hy hj hjz
      have h1 := hown.out.stored (s + i) (.int .i64 y)
      have h2 := h1.1.stored (s + j) (.int .i64 x)
      rw [HSW.out] at h2
      have HST := Lib.hid (And.intro h2.1 ((hgr.out.trans h1.2).trans h2.2))
      clear h1 h2
      go_wp2_with fail
      go_region
      go_wp2_with fail
      go_roundw
      case rel => exact ⟨i + 1, by omega, by omega, by go_num, by have := HJZ.out; first | (congr 1; omega) | (go_num; omega), Lib.hid (own_keep HST.out.1 (fun _ _ => rfl)), Lib.hid (HST.out.2.trans (gr_drewN _ 1 _))⟩
      case measure => simp [intOf]; omega
    · have hE := swV_end HM.out (show z ≤ 2 * i + 1 by omega)
      have HE := Lib.hid hE
      have hnlt : ¬ ((i : Int) < (z : Int) - 1 - (i : Int)) := by omega
      clear hE
      go_wp2_with fail
      go_end0
      exact ⟨rfl, by have h3 := hown.out; rw [HE.out] at h3; simpa using h3, hgr.out⟩

end Go.Proofs.Ytpakihjkjdanlaa
