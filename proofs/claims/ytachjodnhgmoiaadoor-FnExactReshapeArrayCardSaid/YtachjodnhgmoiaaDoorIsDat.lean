/- What isDataUpTo and isData of the program do. -/
import Derived.Test.YtachjodnhgmoiaaDoorWrong
namespace Go.Proofs.YtachjodnhgmoiaaDoor
open Go.RowKit

theorem ret_boolX {a b : Bool} (h : a = b) : Ending.returned (.bool a) = .returned (.bool b) := by rw [h]

set_option maxHeartbeats 400000 in
theorem isdata_any (A : Option Addr) (c : Nat) (hi : Int) (zs : List Int) (w : World) (h : Ints w A zs) (hn : zs.length ≤ 1048576) :
    Calls Tryd.prog 35 #[.slice A zs.length c, .int .i64 hi] w fun e w' => e = .returned (.bool (decide (zs.length ≤ 400) && okN hi zs)) ∧ w = w' := by
  have HU := Lib.hid (upto_any A c zs.length hi zs w h hn)
  obtain ⟨r, hr⟩ : ∃ r, (decide (zs.length ≤ 400) && okN hi zs) = r := ⟨_, rfl⟩
  have HR := Lib.hid hr
  rw [hr]
  obtain ⟨q, hq⟩ : ∃ q, decide (zs.length = zs.length ∧ okN hi zs = true) = q := ⟨_, rfl⟩
  rw [hq] at HU
  have HQ : Hid (q = okN hi zs) := Lib.hid (by rw [← hq, Bool.eq_iff_iff]; simp)
  obtain ⟨n, hnn⟩ : ∃ n, zs.length = n := ⟨_, rfl⟩
  have HN := Lib.hid hnn
  rw [hnn] at hn HU ⊢
  clear h hnn hr hq
  by_cases h1 : n ≤ 400
  · go_enter Tryd.func35, Tryd.ntmps35
    go_wp2_with fail
    refine HU.out.mono ?_
    rintro e w1 ⟨rfl, rfl⟩
    go_wp2_with fail
    go_ret
    refine ⟨?_, rfl⟩
    rw [← HR.out, HQ.out, HN.out]
    simp [h1]
  · go_enter Tryd.func35, Tryd.ntmps35
    go_wp2_with fail
    go_ret
    refine ⟨?_, rfl⟩
    rw [← HR.out, HN.out]
    simp [h1]

end Go.Proofs.YtachjodnhgmoiaaDoor
