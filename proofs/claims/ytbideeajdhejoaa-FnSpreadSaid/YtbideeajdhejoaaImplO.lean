/- What MostSegments of the program does. -/
import Derived.Test.YtbideeajdhejoaaPostB
import Derived.Test.YtbideeajdhejoaaJoinsO
namespace Go.Proofs.Ytbideeajdhejoaa
open Go.RowKit

def mostR (L D : List Int) : List Int := if segsB L D = true then (cutI L D).map (fun l => l.foldl mostF 0) else []

set_option maxHeartbeats 1000000 in
theorem most_impl (v u : Value) (L D : List Int) (w : World) (hv : OwnI w v L) (hu : OwnI w u D) (hn : L.length ≤ 1048576) (hm : D.length ≤ 1048576) :
    Calls Try.prog 53 #[v, u] w (ListPostB (mostR L D) (segsB L D) w) := by
  have HV := Lib.hid hv
  have HU := Lib.hid hu
  obtain ⟨A, c, rfl, hA, _, _, _⟩ := hv.form
  obtain ⟨B, d, rfl, hB, _, _, _⟩ := hu.form
  have HS := Lib.hid (segv_any A B c d L D w hA hB hn hm)
  obtain ⟨n, hnn⟩ : ∃ n, L.length = n := ⟨_, rfl⟩
  obtain ⟨m, hmm⟩ : ∃ m, D.length = m := ⟨_, rfl⟩
  cases hs : segsB L D with
  | false =>
    have hr : mostR L D = [] := by simp [mostR, hs]
    rw [hs, hnn, hmm] at HS
    rw [hr, hnn, hmm]
    clear hA hB hn hm hnn hmm hs hr hv hu
    go_enter Try.func53, Try.ntmps53
    go_wp2_with fail
    refine HS.out.mono ?_
    rintro e w1 ⟨rfl, rfl⟩
    go_wp2_with fail
    go_ret2
    exact postB_nil _ _ (gr_refl _ _)
  | true =>
    have hr : mostR L D = (cutI L D).map (fun l => l.foldl mostF 0) := by simp [mostR, hs]
    obtain ⟨h1, h2, h3⟩ := segsB_get hs
    have HF := Lib.hid (foldsegs_any 103 mostF 0 (fun _ => 10006) joins_most A B c d L D 0 w HV.out HU.out h1 h2 h3 (by omega) (by omega))
    rw [← hr] at HF
    rw [hs, hnn, hmm] at HS
    rw [hnn, hmm] at HF
    rw [hnn, hmm]
    obtain ⟨zs, hzs⟩ : ∃ zs, mostR L D = zs := ⟨_, rfl⟩
    rw [hzs] at HF ⊢
    clear hA hB hn hm hnn hmm hs hr hv hu h1 h2 h3 hzs
    go_enter Try.func53, Try.ntmps53
    go_wp2_with fail
    refine HS.out.mono ?_
    rintro e w1 ⟨rfl, rfl⟩
    go_wp2_with fail
    refine HF.out.mono ?_
    rintro e w1 ⟨A1, c1, rfl, hg, ho⟩
    have HP := Lib.hid (And.intro hg ho)
    clear hg ho
    go_wp2_with fail
    go_ret2
    exact ⟨A1, c1, rfl, HP.out.1, HP.out.2⟩

end Go.Proofs.Ytbideeajdhejoaa
