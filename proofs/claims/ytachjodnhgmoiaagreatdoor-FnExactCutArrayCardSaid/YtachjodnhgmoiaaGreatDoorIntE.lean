/- What eqIntS of the laws does. -/
import Derived.Test.YtachjodnhgmoiaaGreatDoorIntC
namespace Go.Proofs.YtachjodnhgmoiaaGreatDoor
open Go.RowKit

set_option maxHeartbeats 400000 in
theorem eqi_any (A B : Option Addr) (c d : Nat) (zs : List Int) (w : World) (h : Ints w A zs) (h2 : Ints w B zs) (hn : zs.length ≤ 1099511627776) :
    Calls Tryz.prog 11 #[.slice A zs.length c, .slice B zs.length d] w fun e w' => e = .returned (.bool true) ∧ w.grownBy w' none := by
  have HS := Lib.hid h
  have HS2 := Lib.hid h2
  obtain ⟨n, hnn⟩ : ∃ n, zs.length = n := ⟨_, rfl⟩
  have HN := Lib.hid hnn
  rw [hnn] at hn ⊢
  clear h h2 hnn
  have hnn : ((n : Int) != (n : Int)) = false := by simp
  go_enter Tryz.func11, Tryz.ntmps11
  go_wp2_with fail
  clear hnn
  go_loopw [5] (fun i wr => ∃ j : Nat, j ≤ n ∧ i = .int .i64 j ∧ Hid (w.grownBy wr none)) (fun i _ => n - (intOf i).toNat)
  case atStart => exact ⟨0, Nat.zero_le _, rfl, Lib.hid (gr_refl _ _)⟩
  case round =>
    obtain ⟨j, hj, rfl, hgr⟩ := hrel
    by_cases hlt : j < n
    · have hjz : j < zs.length := by have := HN.out; omega
      obtain ⟨b, off, rfl, hcell⟩ := (HS.out.grown hgr.out (by simp)).at_ hjz
      obtain ⟨b2, off2, rfl, hcell2⟩ := (HS2.out.grown hgr.out (by simp)).at_ hjz
      generalize zs[j] = z at hcell hcell2
      have hj0 : (0 : Int) ≤ (j : Int) := by omega
      have hj1 : (j : Int) < (n : Int) := by omega
      have hzz : (z != z) = false := by simp
      go_wp2_with fail
      go_quiet (fail)
      go_wp2_with fail
      go_roundw
      case rel => exact ⟨j + 1, by omega, by go_num, Lib.hid (hgr.out.trans (gr_drewN _ _ _))⟩
      case measure => simp [intOf]; omega
    · go_wp2_with fail
      go_ret
      exact ⟨rfl, hgr.out⟩

end Go.Proofs.YtachjodnhgmoiaaGreatDoor
