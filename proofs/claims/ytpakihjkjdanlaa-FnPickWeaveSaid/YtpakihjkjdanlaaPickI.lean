/- What PickSegments of the program does, and both at once. -/
import Derived.Test.YtpakihjkjdanlaaPickS
import Derived.Test.YtpakihjkjdanlaaColl
import Derived.Test.YtpakihjkjdanlaaGathI
namespace Go.Proofs.Ytpakihjkjdanlaa
open Go.RowKit

theorem pickPost_nil (w w' : World) (hg : w.grownBy w' none) : PckPost [] [] false w (.returned (.tuple #[.slice none 0 0, .slice none 0 0, .bool false])) w' :=
  ⟨none, 0, none, 0, rfl, hg, World.ownsRow_nil _ _ _ _, World.ownsRow_nil _ _ _ _, fun g h => by cases h⟩

set_option maxHeartbeats 2000000 in
theorem pick_no (v u t : Value) (L D F : List Int) (w : World) (hv : OwnI w v L) (hu : OwnI w u D) (ht : OwnI w t F) (hn : L.length ≤ 1048576) (hm : D.length ≤ 1048576) (hf : F.length ≤ 1048576) (hb : pickB L D F = false) :
    Calls Try.prog 33 #[v, u, t] w (PckPost [] [] false w) := by
  obtain ⟨A, c, rfl, hA, _, _, _⟩ := hv.form
  obtain ⟨B, d, rfl, hB, _, _, _⟩ := hu.form
  obtain ⟨C, f, rfl, hC, _, _, _⟩ := ht.form
  have HS := Lib.hid (segv_any A B c d L D w hA hB hn hm)
  have HI := Lib.hid (idx_any C f L.length F w hC hf hn)
  cases h1 : segsB L D with
  | false =>
    obtain ⟨n, hnn⟩ : ∃ n, L.length = n := ⟨_, rfl⟩
    obtain ⟨m, hmm⟩ : ∃ m, D.length = m := ⟨_, rfl⟩
    obtain ⟨q, hqq⟩ : ∃ q, F.length = q := ⟨_, rfl⟩
    rw [h1, hnn, hmm] at HS
    rw [hnn, hmm, hqq]
    clear hA hB hC hn hm hf hnn hmm hqq h1 hv hu ht hb HI
    go_enter Try.func33, Try.ntmps33
    go_wp2_with fail
    refine HS.out.mono ?_
    rintro e w1 ⟨rfl, rfl⟩
    go_wp2_with fail
    go_ret3
    exact pickPost_nil _ _ (gr_refl _ _)
  | true =>
    cases h2 : idxB L.length F with
    | false =>
      obtain ⟨n, hnn⟩ : ∃ n, L.length = n := ⟨_, rfl⟩
      obtain ⟨m, hmm⟩ : ∃ m, D.length = m := ⟨_, rfl⟩
      obtain ⟨q, hqq⟩ : ∃ q, F.length = q := ⟨_, rfl⟩
      rw [h1, hnn, hmm] at HS
      rw [h2, hnn, hqq] at HI
      rw [hnn, hmm, hqq]
      clear hA hB hC hn hm hf hnn hmm hqq h1 h2 hv hu ht hb
      go_enter Try.func33, Try.ntmps33
      go_wp2_with fail
      refine HS.out.mono ?_
      rintro e w1 ⟨rfl, rfl⟩
      go_wp2_with fail
      refine HI.out.mono ?_
      rintro e w1 ⟨rfl, rfl⟩
      go_wp2_with fail
      go_ret3
      exact pickPost_nil _ _ (gr_refl _ _)
    | true =>
      have h3 : lensB (pickI L F) = false := by simpa [pickB, h1, h2] using hb
      have HF := Lib.hid (gather_any A C c f L F w hA hC hn hf (idxB_get h2).2.2)
      have HL := Lib.hid (fun (A1 : Option Addr) (c1 : Nat) (w1 : World) (h : Ints w1 A1 (pickI L F)) => arelen_any A1 c1 (pickI L F) w1 h (by rw [pickI_len]; exact hf))
      obtain ⟨P, hP⟩ : ∃ P, pickI L F = P := ⟨_, rfl⟩
      rw [hP] at HF HL h3
      rw [h3] at HL
      obtain ⟨n, hnn⟩ : ∃ n, L.length = n := ⟨_, rfl⟩
      obtain ⟨m, hmm⟩ : ∃ m, D.length = m := ⟨_, rfl⟩
      obtain ⟨q, hqq⟩ : ∃ q, F.length = q := ⟨_, rfl⟩
      rw [h1, hnn, hmm] at HS
      rw [h2, hnn, hqq] at HI
      rw [hnn, hqq] at HF
      rw [hnn, hmm, hqq]
      clear hA hB hC hn hm hf hnn hmm hqq h1 h2 h3 hv hu ht hb hP
      go_enter Try.func33, Try.ntmps33
      go_wp2_with fail
      refine HS.out.mono ?_
      rintro e w1 ⟨rfl, rfl⟩
      go_wp2_with fail
      refine HI.out.mono ?_
      rintro e w1 ⟨rfl, rfl⟩
      go_wp2_with fail
      refine HF.out.mono ?_
      rintro e w1 ⟨A1, c1, rfl, hg, ho⟩
      have HG := Lib.hid hg
      have HL1 := Lib.hid (HL.out A1 c1 w1 (Ints.of_own ho))
      clear hg ho HL
      go_wp2_with fail
      refine HL1.out.mono ?_
      rintro e w2 ⟨rfl, rfl⟩
      go_wp2_with fail
      go_ret3
      exact pickPost_nil _ _ HG.out

set_option maxHeartbeats 4000000 in
theorem pick_yes (v u t : Value) (L D F : List Int) (w : World) (hv : OwnI w v L) (hu : OwnI w u D) (ht : OwnI w t F) (hb : pickB L D F = true) :
    Calls Try.prog 33 #[v, u, t] w (PckPost (pickI L F) (pickP L D F) true w) := by
  obtain ⟨h1, h2, h3⟩ := pickB_get hb
  obtain ⟨hl, hs1, _⟩ := segsB_get h1
  obtain ⟨hl4, hlok, hs4, _⟩ := lensB_get hl
  obtain ⟨hf4, _, hmem⟩ := idxB_get h2
  obtain ⟨_, _, hp4, _⟩ := lensB_get h3
  have hsum := pick_sum hlok hs1 hmem F.length (Nat.le_refl _)
  rw [List.take_length] at hsum
  obtain ⟨A, c, rfl, hA, _, _, _⟩ := hv.form
  obtain ⟨B, d, rfl, hB, _, _, _⟩ := hu.form
  obtain ⟨C, f, rfl, hC, _, _, _⟩ := ht.form
  have HS := Lib.hid (segv_any A B c d L D w hA hB (by omega) (by omega))
  have HI := Lib.hid (idx_any C f L.length F w hC (by omega) (by omega))
  have HF := Lib.hid (gather_any A C c f L F w hA hC (by omega) (by omega) hmem)
  have HL := Lib.hid (fun (A1 : Option Addr) (c1 : Nat) (w1 : World) (h : Ints w1 A1 (pickI L F)) => arelen_any A1 c1 (pickI L F) w1 h (by rw [pickI_len]; omega))
  have HC := Lib.hid (fun (bl bd : Nat) (W : World) (hg : w.grownBy W none) b1 b2 => collect_any bl bd c d A B L D W (hv.grown0 hg) (hu.grown0 hg) hl4 hlok hs1 b1 b2)
  have HGL := Lib.hid (fun (A2 : Option Addr) (c2 : Nat) (W : World) (hg : w.grownBy W none) (hr : Rws W A2 (cutI L D)) => gatherl_any A2 C c2 f (cutI L D) F W hr (hC.grown hg (by simp)) (by omega) (by rw [cutI_len]; exact hmem))
  have HCC := Lib.hid (fun (A2 : Option Addr) (c2 : Nat) (W : World) (hr : Rws W A2 (pickL (cutI L D) F)) => concat_any A2 c2 (pickL (cutI L D) F) W hr (by rw [pickL_len]; omega) (by have := hsum; rw [pickP] at this; omega))
  rw [pickP]
  obtain ⟨LL, hLL⟩ : ∃ LL, cutI L D = LL := ⟨_, rfl⟩
  rw [hLL] at HC HGL HCC ⊢
  obtain ⟨PL, hPL⟩ : ∃ PL, pickL LL F = PL := ⟨_, rfl⟩
  rw [hPL] at HGL HCC ⊢
  obtain ⟨ks, hks⟩ : ∃ ks, PL.flatten = ks := ⟨_, rfl⟩
  rw [hks] at HCC ⊢
  obtain ⟨P, hP⟩ : ∃ P, pickI L F = P := ⟨_, rfl⟩
  rw [hP] at HF HL h3 ⊢
  rw [h3] at HL
  obtain ⟨p, hp⟩ : ∃ p, P.length = p := ⟨_, rfl⟩
  obtain ⟨l, hl'⟩ : ∃ l, LL.length = l := ⟨_, rfl⟩
  obtain ⟨k, hk⟩ : ∃ k, PL.length = k := ⟨_, rfl⟩
  have HPN := Lib.hid hp
  obtain ⟨n, hnn⟩ : ∃ n, L.length = n := ⟨_, rfl⟩
  obtain ⟨m, hmm⟩ : ∃ m, D.length = m := ⟨_, rfl⟩
  obtain ⟨q, hqq⟩ : ∃ q, F.length = q := ⟨_, rfl⟩
  rw [h1, hnn, hmm] at HS
  rw [h2, hnn, hqq] at HI
  rw [hnn, hqq] at HF
  rw [hp] at HL
  rw [hnn, hmm, hl'] at HC
  rw [hl', hqq, hk] at HGL
  rw [hk] at HCC
  rw [hnn, hmm, hqq]
  clear hA hB hC hnn hmm hqq h1 h2 h3 hv hu ht hb hP hl hs1 hl4 hlok hs4 hf4 hmem hp4 hsum hLL hPL hks hp hl' hk
  go_enter Try.func33, Try.ntmps33
  go_wp2_with fail
  refine HS.out.mono ?_
  rintro e w1 ⟨rfl, rfl⟩
  go_wp2_with fail
  refine HI.out.mono ?_
  rintro e w1 ⟨rfl, rfl⟩
  go_wp2_with fail
  refine HF.out.mono ?_
  rintro e w1 ⟨A1, c1, rfl, hg1, ho1⟩
  have HG1 := Lib.hid hg1
  have HO1 := Lib.hid ho1
  have HL1 := Lib.hid (HL.out A1 c1 w1 (Ints.of_own ho1))
  have hpn := HPN.out
  rw [hpn]
  clear hg1 ho1 HL
  obtain ⟨W3, hW3⟩ : ∃ W3, (w1.alloc (.cells #[.slice A n c] 22)).alloc (.cells #[.slice B m d] 22) = W3 := ⟨_, rfl⟩
  have HW3 := Lib.hid hW3
  have hg3 : w1.grownBy W3 none := by rw [← hW3]; exact (World.grownBy_alloc _ _ _).trans (World.grownBy_alloc _ _ _)
  have b1 : W3.heap[w1.heap.size]? = some (.cells #[.slice A n c] 22 (0, 0)) := by
    rw [← hW3, Below.heap_alloc _ _ _ (by simp)]
    exact World.alloc_heap_new w1 _
  have b2 : W3.heap[w1.heap.size + 1]? = some (.cells #[.slice B m d] 22 (0, 0)) := by
    have := World.alloc_heap_new (w1.alloc (.cells #[.slice A n c] 22)) (.cells #[.slice B m d] 22)
    rw [World.size_alloc, hW3] at this
    exact this
  have HC3 := Lib.hid (HC.out _ _ W3 (HG1.out.trans hg3) b1 b2)
  have HG3 := Lib.hid hg3
  clear hW3 hg3 b1 b2 HC hpn
  go_wp2_with fail
  refine HL1.out.mono ?_
  rintro e w2 ⟨rfl, rfl⟩
  go_wp2_with fail
  refine (segsmakerY _ _ _ _ _ _ _).mono ?_
  rintro e w2 ⟨rfl, rfl⟩
  rw [HW3.out]
  go_wp2_with fail
  refine HC3.out.mono ?_
  rintro e w4 ⟨A4, c4, rfl, hg4, hr4⟩
  have HG4 := Lib.hid hg4
  have HGL4 := Lib.hid (HGL.out A4 c4 w4 ((HG1.out.trans HG3.out).trans hg4) hr4)
  clear hg4 hr4 HGL HC3
  go_wp2_with fail
  refine HGL4.out.mono ?_
  rintro e w5 ⟨A5, c5, rfl, hg5, hr5⟩
  have HG5 := Lib.hid hg5
  have HCC5 := Lib.hid (HCC.out A5 c5 w5 hr5)
  clear hg5 hr5 HCC HGL4
  go_wp2_with fail
  refine HCC5.out.mono ?_
  rintro e w6 ⟨A6, c6, rfl, hg6, ho6⟩
  have HG6 := Lib.hid hg6
  have HO6 := Lib.hid ho6
  clear hg6 ho6 HCC5
  go_wp2_with fail
  go_ret3
  have hgr := ((HG3.out.trans HG4.out).trans HG5.out).trans HG6.out
  have ho := own_keep HO1.out (fun g h => hgr.block g (HO1.out.lt g h).2 (by simp))
  have hlow : w1.heap.size ≤ w5.heap.size := ((HG3.out.trans HG4.out).trans HG5.out).size
  have hlow0 := HG1.out.size
  refine ⟨A1, c1, A6, c6, by rw [HPN.out]; rfl, HG1.out.trans hgr, ho, own_base HO6.out (by omega), fun g g1 g2 => ?_⟩
  have h5 := (HO1.out.lt g g1).2
  have h6 := (HO6.out.lt g g2).1
  omega

/-- Both at once: the same numbers. -/
theorem both_pick (L D F : List Int) (hn : L.length ≤ 1048576) (hm : D.length ≤ 1048576) (hf : F.length ≤ 1048576) : ∃ (cs ks : List Int) (b : Bool), cs.length ≤ 1048576 ∧ ks.length ≤ 1048576 ∧
    (∀ v u t w, OwnI w v L → OwnI w u D → OwnI w t F → Calls Try.prog 32 #[v, u, t] w fun e w' => ∃ A c A2 c2, e = .returned (.tuple #[.slice A cs.length c, .slice A2 ks.length c2, .bool b]) ∧ w.grownBy w' none ∧ Ints w' A cs ∧ Ints w' A2 ks) ∧
    (∀ v u t w, OwnI w v L → OwnI w u D → OwnI w t F → Calls Try.prog 33 #[v, u, t] w fun e w' => ∃ A c A2 c2, e = .returned (.tuple #[.slice A cs.length c, .slice A2 ks.length c2, .bool b]) ∧ w.grownBy w' none ∧
      w'.ownsRow w.heap.size 3 1 (.slice A cs.length c) cs.length (cs.map (Value.int .i64)) ∧ w'.ownsRow w.heap.size 3 1 (.slice A2 ks.length c2) ks.length (ks.map (Value.int .i64)) ∧
      ∀ g, (Value.slice A cs.length c).ownBlock = some g → (Value.slice A2 ks.length c2).ownBlock ≠ some g) := by
  have spec : ∀ v u t w, OwnI w v L → OwnI w u D → OwnI w t F → Calls Try.prog 32 #[v, u, t] w (PckPost (pickC L D F) (pickR L D F) (pickB L D F) w) := fun v u t w h1 h2 h3 => by
    by_cases hb : segsB L D = true ∧ idxB L.length F = true
    · exact spick_yes v u t L D F w h1 h2 h3 hb.1 hb.2
    · have hb' : segsB L D = false ∨ idxB L.length F = false := by
        cases h : segsB L D with
        | false => exact .inl rfl
        | true => exact .inr (by cases h' : idxB L.length F with
            | false => rfl
            | true => exact (hb ⟨h, h'⟩).elim)
      have hp : pickB L D F = false := by
        rcases hb' with h | h <;> simp [pickB, h]
      have e1 : pickC L D F = [] := by simp [pickC, hp]
      have e2 : pickR L D F = [] := by simp [pickR, hp]
      rw [e1, e2, hp]
      exact spick_no v u t L D F w h1 h2 h3 hn hm hf hb'
  have impl : ∀ v u t w, OwnI w v L → OwnI w u D → OwnI w t F → Calls Try.prog 33 #[v, u, t] w (PckPost (pickC L D F) (pickR L D F) (pickB L D F) w) := fun v u t w h1 h2 h3 => by
    cases hb : pickB L D F with
    | false =>
      have e1 : pickC L D F = [] := by simp [pickC, hb]
      have e2 : pickR L D F = [] := by simp [pickR, hb]
      rw [e1, e2]
      exact pick_no v u t L D F w h1 h2 h3 hn hm hf hb
    | true =>
      have e1 : pickC L D F = pickI L F := by simp [pickC, hb]
      have e2 : pickR L D F = pickP L D F := by simp [pickR, hb]
      rw [e1, e2]
      exact pick_yes v u t L D F w h1 h2 h3 hb
  refine ⟨pickC L D F, pickR L D F, pickB L D F, ?_, ?_, fun v u t w h1 h2 h3 => (spec v u t w h1 h2 h3).mono ?_, fun v u t w h1 h2 h3 => (impl v u t w h1 h2 h3).mono ?_⟩
  · unfold pickC
    split
    · rw [pickI_len]; exact hf
    · simp
  · unfold pickR
    split
    · rename_i hb
      obtain ⟨h1, h2, h3⟩ := pickB_get hb
      obtain ⟨hl, hs1, _⟩ := segsB_get h1
      have hsum := pick_sum (lensB_get hl).2.1 hs1 (idxB_get h2).2.2 F.length (Nat.le_refl _)
      rw [List.take_length] at hsum
      have := (lensB_get h3).2.2.1
      omega
    · simp
  · rintro e w' ⟨A, c, A2, c2, rfl, hg, ho, ho2, _⟩
    exact ⟨A, c, A2, c2, rfl, hg, Ints.of_own ho, Ints.of_own ho2⟩
  · rintro e w' ⟨A, c, A2, c2, rfl, hg, ho, ho2, hap⟩
    exact ⟨A, c, A2, c2, rfl, hg, ho, ho2, hap⟩

end Go.Proofs.Ytpakihjkjdanlaa
