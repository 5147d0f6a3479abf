/- What SpreadValues does, of the model and of the program, whatever the arguments are. -/
import Derived.Test.YtbideeajdhejoaaGenSp
import Derived.Test.YtbideeajdhejoaaGenSpI
namespace Go.Proofs.Ytbideeajdhejoaa
open Go.RowKit

set_option maxHeartbeats 1000000 in
theorem sspread_spec (v u : Value) (L D : List Int) (w : World) (hv : OwnI w v L) (hu : OwnI w u D) (hn : L.length ≤ 1048576) (hm : D.length ≤ 1048576) :
    Calls Try.prog 45 #[v, u] w (ListPostB (spreadR L D) (spreadB L D) w) := by
  obtain ⟨A, c, rfl, hA, _, _, _⟩ := hv.form
  obtain ⟨B, d, rfl, hB, _, _, _⟩ := hu.form
  have HS := Lib.hid (slens_any A c L w hA hn)
  have HS2 := Lib.hid (snums3_any B d D w hB hm)
  have HP := Lib.hid (show ListPostB [] false w (.returned (.tuple #[.slice (some ⟨w.heap.size, 0, none⟩) 0 0, .bool false])) (w.alloc (.cells #[] 3)) from ⟨_, 0, rfl, World.grownBy_alloc _ _ _, made_row w w.heap.size (Nat.le_refl _)⟩)
  obtain ⟨n, hnn⟩ : ∃ n, L.length = n := ⟨_, rfl⟩
  obtain ⟨m, hmm⟩ : ∃ m, D.length = m := ⟨_, rfl⟩
  cases hl : lensB L with
  | false =>
    have hb : spreadB L D = false := by simp [spreadB, hl]
    have hr : spreadR L D = [] := by simp [spreadR, hb]
    rw [hl, hnn] at HS
    rw [hr, hb, hnn, hmm]
    clear hA hB hn hm hnn hmm hl hr hv hu hb
    go_enter Try.func45, Try.ntmps45
    go_wp2_with fail
    refine HS.out.mono ?_
    rintro e w1 ⟨rfl, rfl⟩
    go_wp2_with fail
    go_ret2
    exact HP.out
  | true =>
    rw [hl, hnn] at HS
    by_cases he : m = n
    · have hne : ((m : Int) != (n : Int)) = false := by simp [he]
      cases hk : okN 10006 D with
      | false =>
        have hb : spreadB L D = false := by simp [spreadB, hk]
        have hr : spreadR L D = [] := by simp [spreadR, hb]
        rw [hk, hmm] at HS2
        rw [hr, hb, hnn, hmm]
        clear hA hB hn hm hnn hmm hl hr hv hu hb he hk
        go_enter Try.func45, Try.ntmps45
        go_wp2_with fail
        refine HS.out.mono ?_
        rintro e w1 ⟨rfl, rfl⟩
        go_wp2_with fail
        refine HS2.out.mono ?_
        rintro e w1 ⟨rfl, rfl⟩
        go_wp2_with fail
        go_ret2
        exact HP.out
      | true =>
        have hb : spreadB L D = true := by simp [spreadB, hl, hk, hnn, hmm, he]
        have hr : spreadR L D = genI (spreadF D) 0 L := by simp [spreadR, hb]
        have HF := Lib.hid (sspread_any A B c d L D w hA hB hl (by omega))
        rw [← hr, hnn, hmm] at HF
        rw [hk, hmm] at HS2
        rw [hb, hnn, hmm]
        obtain ⟨zs, hzs⟩ : ∃ zs, spreadR L D = zs := ⟨_, rfl⟩
        rw [hzs] at HF ⊢
        clear hA hB hn hm hnn hmm hl hr hv hu hb he hk hzs
        go_enter Try.func45, Try.ntmps45
        go_wp2_with fail
        refine HS.out.mono ?_
        rintro e w1 ⟨rfl, rfl⟩
        go_wp2_with fail
        refine HS2.out.mono ?_
        rintro e w1 ⟨rfl, rfl⟩
        go_wp2_with fail
        refine HF.out.mono ?_
        rintro e w1 ⟨A1, c1, rfl, hg, ho⟩
        have HQ := Lib.hid (And.intro hg ho)
        clear hg ho
        go_wp2_with fail
        go_ret2
        exact ⟨A1, c1, rfl, HQ.out.1, HQ.out.2⟩
    · have hne : ((m : Int) != (n : Int)) = true := by rw [bne_iff_ne]; omega
      have hb : spreadB L D = false := by simp [spreadB, hnn, hmm, he]
      have hr : spreadR L D = [] := by simp [spreadR, hb]
      rw [hr, hb, hnn, hmm]
      clear hA hB hn hm hnn hmm hl hr hv hu hb he
      go_enter Try.func45, Try.ntmps45
      go_wp2_with fail
      refine HS.out.mono ?_
      rintro e w1 ⟨rfl, rfl⟩
      go_wp2_with fail
      go_ret2
      exact HP.out

set_option maxHeartbeats 1000000 in
theorem spread_no (v u : Value) (L D : List Int) (w : World) (hv : OwnI w v L) (hu : OwnI w u D) (hn : L.length ≤ 1048576) (hm : D.length ≤ 1048576) (hb : spreadB L D = false) :
    Calls Try.prog 46 #[v, u] w (ListPostB [] false w) := by
  obtain ⟨A, c, rfl, hA, _, _, _⟩ := hv.form
  obtain ⟨B, d, rfl, hB, _, _, _⟩ := hu.form
  have HS := Lib.hid (arelen_any A c L w hA hn)
  have HS2 := Lib.hid (upto_any B d L.length 10006 D w hB hm)
  obtain ⟨n, hnn⟩ : ∃ n, L.length = n := ⟨_, rfl⟩
  obtain ⟨m, hmm⟩ : ∃ m, D.length = m := ⟨_, rfl⟩
  cases hl : lensB L with
  | false =>
    rw [hl, hnn] at HS
    rw [hnn, hmm]
    clear hA hB hn hm hnn hmm hl hv hu hb
    go_enter Try.func46, Try.ntmps46
    go_wp2_with fail
    refine HS.out.mono ?_
    rintro e w1 ⟨rfl, rfl⟩
    go_wp2_with fail
    go_ret2
    exact postB_nil _ _ (gr_refl _ _)
  | true =>
    have hq : decide (D.length = L.length ∧ okN 10006 D = true) = false := by
      simp only [spreadB, hl, Bool.true_and, Bool.and_eq_false_iff, decide_eq_false_iff_not] at hb ⊢
      rintro ⟨h1, h2⟩
      rcases hb with h | h
      · exact h h1
      · rw [h2] at h; cases h
    rw [hq, hnn, hmm] at HS2
    rw [hl, hnn] at HS
    rw [hnn, hmm]
    clear hA hB hn hm hnn hmm hl hv hu hb hq
    go_enter Try.func46, Try.ntmps46
    go_wp2_with fail
    refine HS.out.mono ?_
    rintro e w1 ⟨rfl, rfl⟩
    go_wp2_with fail
    refine HS2.out.mono ?_
    rintro e w1 ⟨rfl, rfl⟩
    go_wp2_with fail
    go_ret2
    exact postB_nil _ _ (gr_refl _ _)

theorem spread_impl (v u : Value) (L D : List Int) (w : World) (hv : OwnI w v L) (hu : OwnI w u D) (hn : L.length ≤ 1048576) (hm : D.length ≤ 1048576) :
    Calls Try.prog 46 #[v, u] w (ListPostB (spreadR L D) (spreadB L D) w) := by
  cases hb : spreadB L D with
  | false =>
    have hr : spreadR L D = [] := by simp [spreadR, hb]
    rw [hr]
    exact spread_no v u L D w hv hu hn hm hb
  | true =>
    have hr : spreadR L D = genI (spreadF D) 0 L := by simp [spreadR, hb]
    rw [hr]
    obtain ⟨A, c, rfl, hA, _, _, _⟩ := hv.form
    obtain ⟨B, d, rfl, hB, _, _, _⟩ := hu.form
    exact spread_yes A B c d L D w hA hB hb

/-- Both at once: the same numbers. -/
theorem both_spread (L D : List Int) (hn : L.length ≤ 1048576) (hm : D.length ≤ 1048576) : ∃ (zs : List Int) (b : Bool), zs.length ≤ 1048576 ∧
    (∀ v u w, OwnI w v L → OwnI w u D → Calls Try.prog 45 #[v, u] w fun e w' => ∃ A c, e = .returned (.tuple #[.slice A zs.length c, .bool b]) ∧ w.grownBy w' none ∧ Ints w' A zs) ∧
    (∀ v u w, OwnI w v L → OwnI w u D → Calls Try.prog 46 #[v, u] w fun e w' => ∃ A c, e = .returned (.tuple #[.slice A zs.length c, .bool b]) ∧ w.grownBy w' none ∧
      w'.ownsRow w.heap.size 3 1 (.slice A zs.length c) zs.length (zs.map (Value.int .i64))) := by
  refine ⟨spreadR L D, spreadB L D, ?_, fun v u w h1 h2 => (sspread_spec v u L D w h1 h2 hn hm).mono ?_, fun v u w h1 h2 => (spread_impl v u L D w h1 h2 hn hm).mono ?_⟩
  · unfold spreadR
    split
    · rename_i h
      obtain ⟨h1, _, _⟩ := spreadB_get h
      obtain ⟨_, h2, h3, _⟩ := lensB_get h1
      have := genI_len (spreadF D) L 0 h2
      omega
    · simp
  · rintro e w' ⟨A, c, rfl, hg, ho⟩
    exact ⟨A, c, rfl, hg, Ints.of_own ho⟩
  · rintro e w' ⟨A, c, rfl, hg, ho⟩
    exact ⟨A, c, rfl, hg, ho⟩

end Go.Proofs.Ytbideeajdhejoaa
