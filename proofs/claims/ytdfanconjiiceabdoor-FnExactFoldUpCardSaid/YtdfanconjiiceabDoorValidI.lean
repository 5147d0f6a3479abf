/- What the program's ArrayValid does, for every text and depth. -/
import Derived.Test.YtdfanconjiiceabDoorL1Read
namespace Go.Proofs.YtdfanconjiiceabDoor
open Go.RowKit

theorem valid_impl (s : ByteArray) (n : Int) (w : World) :
    Calls Tryd.prog 107 #[.string s, .int .i64 n] w fun e w' => e = .returned (.bool (isArr s n)) ∧ w.grownBy w' none := by
  by_cases h : 0 ≤ n ∧ n ≤ 3 ∧ s.size ≤ 400
  · have HC := Lib.hid (nest_in n n.toNat s w (by omega) h.1 h.2.1 h.2.2)
    cases hr : readN s n.toNat with
    | none =>
      have hv : isArr s n = false := by unfold isArr; rw [hr]; simp
      rw [hv]
      have HR := Lib.hid hr
      clear h hv hr
      go_enter Tryd.func107, Tryd.ntmps107
      go_wp2_with fail
      refine HC.out.mono ?_
      intro e w1 hp
      unfold NestPost at hp
      rw [HR.out] at hp
      obtain ⟨rfl, hg⟩ := hp
      have HG := Lib.hid hg
      clear hg
      go_wp2_with fail
      go_ret
      exact ⟨rfl, HG.out⟩
    | some t =>
      have hv : isArr s n = true := by unfold isArr; rw [hr]; simp; omega
      rw [hv]
      have HR := Lib.hid hr
      clear h hv hr
      go_enter Tryd.func107, Tryd.ntmps107
      go_wp2_with fail
      refine HC.out.mono ?_
      intro e w1 hp
      unfold NestPost at hp
      rw [HR.out] at hp
      obtain ⟨v, rfl, hg, ha⟩ := hp
      obtain ⟨ty, pv, rfl⟩ := ha.iface
      have HG := Lib.hid hg
      clear hg ha
      go_wp2_with fail
      go_ret
      exact ⟨rfl, HG.out⟩
  · have HC := Lib.hid (nest_out n s w (by omega))
    have hv : isArr s n = false := by unfold isArr; simp [h]
    rw [hv]
    clear h hv
    go_enter Tryd.func107, Tryd.ntmps107
    go_wp2_with fail
    refine HC.out.mono ?_
    rintro e w1 ⟨rfl, hg⟩
    have HG := Lib.hid hg
    clear hg
    go_wp2_with fail
    go_ret
    exact ⟨rfl, HG.out⟩

end Go.Proofs.YtdfanconjiiceabDoor
