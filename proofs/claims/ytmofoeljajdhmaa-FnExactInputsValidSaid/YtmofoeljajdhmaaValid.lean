/- What the model's ArrayValid does: the same answer as the program's, for every text and depth. -/
import Derived.Test.YtmofoeljajdhmaaValidI
namespace Go.Proofs.Ytmofoeljajdhmaa
open Go.RowKit

theorem valid_spec (s : ByteArray) (n : Int) (w : World) :
    Calls Try.prog 69 #[.string s, .int .i64 n] w fun e w' => e = .returned (.bool (isArr s n)) ∧ w.grownBy w' none := by
  by_cases h : 0 ≤ n ∧ n ≤ 3 ∧ s.size ≤ 400
  · have HC := Lib.hid (sread_in n n.toNat s w (by omega) h.1 h.2.1 h.2.2)
    cases hr : readN s n.toNat with
    | none =>
      have hv : isArr s n = false := by unfold isArr; rw [hr]; simp
      rw [hv]
      have HR := Lib.hid hr
      clear h hv hr
      go_enter Try.func69, Try.ntmps69
      go_wp2_with fail
      refine HC.out.mono ?_
      intro e w1 hp
      unfold SReadPost at hp
      rw [HR.out] at hp
      obtain ⟨rfl, hg⟩ := hp
      have HG := Lib.hid hg
      clear hg
      go_wp2_with fail
      go_ret
      exact ⟨rfl, HG.out.trans (World.grownBy_alloc _ _ _)⟩
    | some t =>
      have hv : isArr s n = true := by unfold isArr; rw [hr]; simp; omega
      rw [hv]
      have HR := Lib.hid hr
      clear h hv hr
      go_enter Try.func69, Try.ntmps69
      go_wp2_with fail
      refine HC.out.mono ?_
      intro e w1 hp
      unfold SReadPost at hp
      rw [HR.out] at hp
      obtain ⟨m, sv, rfl, ⟨A, k, c, rfl⟩, hg, _⟩ := hp
      have HG := Lib.hid hg
      clear hg
      go_wp2_with fail
      go_ret
      exact ⟨rfl, HG.out.trans (World.grownBy_alloc _ _ _)⟩
  · have HC := Lib.hid (sread_out n s w (by omega))
    have hv : isArr s n = false := by unfold isArr; simp [h]
    rw [hv]
    clear h hv
    go_enter Try.func69, Try.ntmps69
    go_wp2_with fail
    refine HC.out.mono ?_
    rintro e w1 ⟨rfl, hg⟩
    have HG := Lib.hid hg
    clear hg
    go_wp2_with fail
    go_ret
    exact ⟨rfl, HG.out.trans (World.grownBy_alloc _ _ _)⟩

end Go.Proofs.Ytmofoeljajdhmaa
