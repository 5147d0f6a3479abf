/- What the model's MostSegments does; the same as the program's. -/
import Derived.Test.YtpakihjkjdanlabSegMost
namespace Go.Proofs.Ytpakihjkjdanlab
open Go.RowKit

set_option maxHeartbeats 1000000 in
theorem smostseg_spec (v u : Value) (L D : List Int) (w : World) (hv : OwnI w v L) (hu : OwnI w u D) (hn : L.length ≤ 1048576) (hm : D.length ≤ 1048576) :
    Calls Try.prog 26 #[v, u] w (ListPostB (mostR L D) (segsB L D) w) := by
  have HV := Lib.hid hv
  have HU := Lib.hid hu
  obtain ⟨A, c, rfl, hA, _, _, _⟩ := hv.form
  obtain ⟨B, d, rfl, hB, _, _, _⟩ := hu.form
  have HS := Lib.hid (ssegv_any A B c d L D w hA hB hn hm)
  obtain ⟨n, hnn⟩ : ∃ n, L.length = n := ⟨_, rfl⟩
  obtain ⟨m, hmm⟩ : ∃ m, D.length = m := ⟨_, rfl⟩
  cases hs : segsB L D with
  | false =>
    have hr : mostR L D = [] := by simp [mostR, hs]
    rw [hs, hnn, hmm] at HS
    rw [hr, hnn, hmm]
    clear hA hB hn hm hnn hmm hs hr hv hu
    go_enter Try.func26, Try.ntmps26
    go_wp2_with fail
    refine HS.out.mono ?_
    rintro e w1 ⟨rfl, rfl⟩
    go_wp2_with fail
    go_ret2
    exact ⟨_, 0, rfl, World.grownBy_alloc _ _ _, made_row w w.heap.size (Nat.le_refl _)⟩
  | true =>
    have hr : mostR L D = (cutI L D).map (fun l => l.foldl mostF 0) := by simp [mostR, hs]
    have HF := Lib.hid (smost_any A B c d L D w hA HU.out hs)
    rw [← hr] at HF
    rw [hs, hnn, hmm] at HS
    rw [hnn, hmm] at HF
    rw [hnn, hmm]
    obtain ⟨zs, hzs⟩ : ∃ zs, mostR L D = zs := ⟨_, rfl⟩
    rw [hzs] at HF ⊢
    clear hA hB hn hm hnn hmm hs hr hv hu hzs
    go_enter Try.func26, Try.ntmps26
    go_wp2_with fail
    refine HS.out.mono ?_
    rintro e w1 ⟨rfl, rfl⟩
    go_wp2_with fail
    refine HF.out.mono ?_
    rintro e w1 ⟨A1, c1, rfl, hg, ho⟩
    have HP := Lib.hid (And.intro hg ho)
    clear hg ho
    go_wp2_with fail
    go_ret2
    exact ⟨A1, c1, rfl, HP.out.1, HP.out.2⟩

/-- Both at once: the same numbers. -/
theorem both_mostseg (L D : List Int) (hn : L.length ≤ 1048576) (hm : D.length ≤ 1048576) : ∃ (zs : List Int) (b : Bool), zs.length ≤ 1048576 ∧
    (∀ v u w, OwnI w v L → OwnI w u D → Calls Try.prog 26 #[v, u] w fun e w' => ∃ A c, e = .returned (.tuple #[.slice A zs.length c, .bool b]) ∧ w.grownBy w' none ∧ Ints w' A zs) ∧
    (∀ v u w, OwnI w v L → OwnI w u D → Calls Try.prog 27 #[v, u] w fun e w' => ∃ A c, e = .returned (.tuple #[.slice A zs.length c, .bool b]) ∧ w.grownBy w' none ∧
      w'.ownsRow w.heap.size 3 1 (.slice A zs.length c) zs.length (zs.map (Value.int .i64))) := by
  refine ⟨mostR L D, segsB L D, ?_, fun v u w h1 h2 => (smostseg_spec v u L D w h1 h2 hn hm).mono ?_, fun v u w h1 h2 => (most_impl v u L D w h1 h2 hn hm).mono ?_⟩
  · unfold mostR
    split
    · rw [List.length_map, cutI_len]; exact hn
    · simp
  · rintro e w' ⟨A, c, rfl, hg, ho⟩
    exact ⟨A, c, rfl, hg, Ints.of_own ho⟩
  · rintro e w' ⟨A, c, rfl, hg, ho⟩
    exact ⟨A, c, rfl, hg, ho⟩

end Go.Proofs.Ytpakihjkjdanlab
