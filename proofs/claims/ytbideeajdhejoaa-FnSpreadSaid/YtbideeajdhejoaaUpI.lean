/- What countUp and slices.Reverse do to a piece of a row of ints. -/
import Derived.Test.YtbideeajdhejoaaSegIt
import Derived.RegionTactic
import Derived.ChangeAlike
namespace Go.Proofs.Ytbideeajdhejoaa
open Go.RowKit

/-- A list with other elements from a place on. -/
def spl {α : Type} (ys : List α) (s : Nat) (L : List α) : List α := ys.take s ++ (L ++ ys.drop (s + L.length))
theorem spl_nil {α : Type} (ys : List α) (s : Nat) : spl ys s [] = ys := by simp [spl]
theorem spl_len {α : Type} {ys : List α} {s : Nat} {L : List α} (h : s + L.length ≤ ys.length) : (spl ys s L).length = ys.length := by simp [spl]; omega
theorem spl_set {α : Type} {ys : List α} {s : Nat} {L : List α} {v : α} (h : s + L.length < ys.length) : (spl ys s L).set (s + L.length) v = spl ys s (L ++ [v]) := by
  have h1 : (ys.take s).length = s := by rw [List.length_take]; omega
  rw [spl, List.set_append_right _ _ (by omega), h1, show s + L.length - s = L.length from by omega, List.set_append_right _ _ (Nat.le_refl _), Nat.sub_self, spl, List.length_append, List.length_singleton, List.append_assoc]
  congr 2
  rw [List.drop_eq_getElem_cons (by omega), List.set_cons_zero]
  rfl
theorem spl_take {α : Type} {ys : List α} {s : Nat} {L : List α} (h : s ≤ ys.length) : (spl ys s L).take (s + L.length) = ys.take s ++ L := by
  have h1 : (ys.take s).length = s := by rw [List.length_take]; omega
  rw [spl, ← List.append_assoc, List.take_left' (by rw [List.length_append, h1])]
def upV (k : Nat) : List Value := (List.range k).map (fun (i : Nat) => Value.int .i64 (i : Int))
theorem upV_len (k : Nat) : (upV k).length = k := by simp [upV]
theorem upV_step (k : Nat) : upV (k + 1) = upV k ++ [.int .i64 (k : Int)] := by simp [upV, List.range_succ]

set_option maxRecDepth 100000 in
set_option maxHeartbeats 2000000 in
theorem up_any (B g n m s z : Nat) (A' : Option Addr) (c' : Nat) (ys : List Value) (w : World) (ho : w.ownsRow B 3 1 (.slice (some ⟨g, 0, none⟩) n m) n ys) (hA : 0 < z → A' = some ⟨g, s, none⟩) (hs : s + z ≤ n) (hz : z ≤ 400) :
    Calls Try.prog 97 #[.slice A' z c'] w fun e w' => e = .returned (.tuple #[]) ∧ w'.ownsRow B 3 1 (.slice (some ⟨g, 0, none⟩) n m) n (spl ys s (upV z)) ∧ w.grownBy w' (some g) := by
  have HO := Lib.hid ho
  have HA := Lib.hid hA
  have HYL := Lib.hid (show ys.length = n by have := ho.1; omega)
  clear ho hA
  go_enter Try.func97, Try.ntmps97
  go_wp2_with fail
  go_loopw [5] (fun i wr => ∃ (k : Nat), k ≤ z ∧ i = .int .i64 k ∧ Hid (wr.ownsRow B 3 1 (.slice (some ⟨g, 0, none⟩) n m) n (spl ys s (upV k))) ∧ Hid (w.grownBy wr (some g))) (fun i _ => z - (intOf i).toNat)
  case atStart => exact ⟨0, Nat.zero_le _, rfl, Lib.hid (by rw [show upV 0 = [] from rfl, spl_nil]; exact HO.out), Lib.hid (gr_refl _ _)⟩
  case round =>
    obtain ⟨k, hk, rfl, hown, hgr⟩ := hrel
    by_cases hlt : k < z
    · have hA1 := HA.out (by omega)
      subst hA1
      obtain ⟨y, hy⟩ : ∃ y, (spl ys s (upV k))[s + k]? = some y := ⟨_, List.getElem?_eq_getElem (by rw [spl_len (by rw [upV_len, HYL.out]; omega), HYL.out]; omega)⟩
      have hcell : wr.cell? ⟨g, s + k, none⟩ = some y := (hown.out.cellAt (s + k) (by omega)).trans hy
      have hfr := hown.out.frozenAt (s + k)
      have HST := Lib.hid (hown.out.stored (s + k) (.int .i64 (k : Int)))
      have HSP : Hid ((spl ys s (upV k)).set (s + k) (.int .i64 (k : Int)) = spl ys s (upV (k + 1))) := Lib.hid (by
        have := spl_set (ys := ys) (s := s) (L := upV k) (v := .int .i64 (k : Int)) (by rw [upV_len, HYL.out]; omega)
        rw [upV_len] at this
        rw [this, upV_step])
      clear hy
      go_wp2_with fail
      go_roundw
      case rel => exact ⟨k + 1, by omega, by go_num, Lib.hid (by rw [← HSP.out]; exact HST.out.1), Lib.hid (hgr.out.trans HST.out.2)⟩
      case measure => simp [intOf]; omega
    · have hkz : k = z := by omega
      have HK := Lib.hid hkz
      clear hkz
      go_wp2_with fail
      go_end0
      exact ⟨rfl, by rw [← HK.out]; exact hown.out, hgr.out⟩

end Go.Proofs.Ytbideeajdhejoaa
