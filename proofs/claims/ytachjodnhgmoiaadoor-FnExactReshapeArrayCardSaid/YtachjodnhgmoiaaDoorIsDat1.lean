/- What isData of the program does. -/
import Derived.Test.YtachjodnhgmoiaaDoorIsDat
namespace Go.Proofs.YtachjodnhgmoiaaDoor
open Go.RowKit

set_option maxHeartbeats 400000 in
theorem isdat_any (A : Option Addr) (c : Nat) (zs : List Int) (w : World) (h : Ints w A zs) (hn : zs.length ≤ 1048576) :
    Calls Tryd.prog 36 #[.slice A zs.length c] w fun e w' => e = .returned (.bool (decide (zs.length ≤ 400) && okN 10006 zs)) ∧ w = w' := by
  have HU := Lib.hid (isdata_any A c 10006 zs w h hn)
  obtain ⟨r, hr⟩ : ∃ r, (decide (zs.length ≤ 400) && okN 10006 zs) = r := ⟨_, rfl⟩
  rw [hr] at HU ⊢
  obtain ⟨n, hnn⟩ : ∃ n, zs.length = n := ⟨_, rfl⟩
  rw [hnn] at HU ⊢
  clear h hn hnn hr
  go_enter Tryd.func36, Tryd.ntmps36
  go_wp2_with fail
  refine HU.out.mono ?_
  rintro e w1 ⟨rfl, rfl⟩
  go_wp2_with fail
  go_ret
  exact ⟨rfl, rfl⟩

end Go.Proofs.YtachjodnhgmoiaaDoor
