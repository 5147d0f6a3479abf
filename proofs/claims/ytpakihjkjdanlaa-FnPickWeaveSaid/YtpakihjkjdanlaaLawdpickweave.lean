/- The law FnPickWeave: whatever the input, true. -/
import Derived.Test.YtpakihjkjdanlaaPickP
import Derived.Test.YtpakihjkjdanlaaDrawP
import Derived.Test.YtpakihjkjdanlaaDrawW
import Derived.Test.YtpakihjkjdanlaaGdpickweave
namespace Go.Proofs.Ytpakihjkjdanlaa
open Go.ChangeShapes Go.WideShapes Go.ChangeAt Go.RowKit

theorem pickC_le {L D F : List Int} (h : F.length ≤ 1048576) : (pickC L D F).length ≤ 1048576 := by
  unfold pickC
  split
  · rw [pickI_len]; exact h
  · simp
theorem pickR_le (L D F : List Int) : (pickR L D F).length ≤ 1048576 := by
  unfold pickR
  split
  · rename_i hb
    obtain ⟨h1, h2, h3⟩ := pickB_get hb
    obtain ⟨hl, hs1, _⟩ := segsB_get h1
    have hsum := pick_sum (lensB_get hl).2.1 hs1 (idxB_get h2).2.2 F.length (Nat.le_refl _)
    rw [List.take_length] at hsum
    have := (lensB_get h3).2.2.1
    omega
  · simp
theorem weaveR_le {L D F : List Int} (h : L.length ≤ 1048576) : (weaveR L D F).length ≤ 1048576 := by
  unfold weaveR
  split
  · rw [weaveI_len]; exact h
  · simp
theorem pick_nil {L D F : List Int} (h : pickB L D F = false) : pickC L D F = [] ∧ pickR L D F = [] := by simp [pickC, pickR, h]

set_option maxRecDepth 100000 in
set_option maxHeartbeats 16000000 in
theorem law_dpickweave (A B : Option Addr) (n c m d : Nat) (w : World) (hA : Byts w A n) (hc : n ≤ c) (hn : n ≤ 9223372036854775807) (hB : Byts w B m) (hd : m ≤ d) (hm : m ≤ 9223372036854775807) :
    Calls Try.prog 14 #[.slice A n c, .slice B m d] w fun e w' => e = .returned (.bool true) ∧ w.grownBy w' none := by
  by_cases h1 : 1048576 < n
  · clear hA hB
    go_enter Try.func14, Try.ntmps14
    go_wp2_with fail
    all_goals (go_ret; exact ⟨rfl, gr_refl _ _⟩)
  by_cases h2 : 1048576 < m
  · clear hA hB
    go_enter Try.func14, Try.ntmps14
    go_wp2_with fail
    all_goals (go_ret; exact ⟨rfl, gr_refl _ _⟩)
  have HD := Lib.hid (drawpick_any A n c w hA hc hn)
  have HE := Lib.hid (fun w' (hg : w.grownBy w' none) => drawweave_any B m d w' (hB.grown hg (by simp)) hd hm)
  clear hA hc hB hd
  go_enter Try.func14, Try.ntmps14
  go_wp2_with fail
  refine HD.out.mono ?_
  rintro e w1 ⟨u, v, f, L, D, F, rfl, hu, hv, hf, hL, hD, hF, hg⟩
  have HE1 := Lib.hid (fun w' (h : w1.grownBy w' none) => HE.out w' (hg.trans h))
  have hL4 : L.length ≤ 1048576 := by omega
  have hD4 : D.length ≤ 1048576 := by omega
  have hF4 : F.length ≤ 1048576 := by omega
  obtain ⟨z, hz⟩ : ∃ z, (pickC L D F).length = z := ⟨_, rfl⟩
  obtain ⟨y, hy⟩ : ∃ y, (pickR L D F).length = y := ⟨_, rfl⟩
  obtain ⟨R, hR⟩ : ∃ R, pickB L D F = R := ⟨_, rfl⟩
  have HM1 := Lib.hid (show ∀ w, OwnI w u L → OwnI w v D → OwnI w f F → Calls Try.prog 33 #[u, v, f] w (fun e w' => ∃ A c A2 c2, e = .returned (.tuple #[.slice A z c, .slice A2 y c2, .bool R]) ∧ w.grownBy w' none ∧ w'.ownsRow w.heap.size 3 1 (.slice A z c) z ((pickC L D F).map (Value.int .i64)) ∧ w'.ownsRow w.heap.size 3 1 (.slice A2 y c2) y ((pickR L D F).map (Value.int .i64))) from fun w h0 h1 h2 => by
    rw [← hz, ← hy, ← hR]; exact (pick_own u v f L D F w h0 h1 h2 hL4 hD4 hF4).mono (fun e w' ⟨A, c, A2, c2, h1, h2, h3, h4, _⟩ => ⟨A, c, A2, c2, h1, h2, h3, h4⟩))
  have HM2 := Lib.hid (show ∀ w, OwnI w u L → OwnI w v D → OwnI w f F → Calls Try.prog 32 #[u, v, f] w (fun e w' => ∃ A c A2 c2, e = .returned (.tuple #[.slice A z c, .slice A2 y c2, .bool R]) ∧ w.grownBy w' none ∧ w'.ownsRow w.heap.size 3 1 (.slice A z c) z ((pickC L D F).map (Value.int .i64)) ∧ w'.ownsRow w.heap.size 3 1 (.slice A2 y c2) y ((pickR L D F).map (Value.int .i64))) from fun w h0 h1 h2 => by
    rw [← hz, ← hy, ← hR]; exact (spick_own u v f L D F w h0 h1 h2 hL4 hD4 hF4).mono (fun e w' ⟨A, c, A2, c2, h1, h2, h3, h4, _⟩ => ⟨A, c, A2, c2, h1, h2, h3, h4⟩))
  have HS1 := Lib.hid (show ∀ A B c d w, Ints w A (pickC L D F) → Ints w B (pickC L D F) → Calls Try.prog 37 #[.slice A z c, .slice B z d] w (fun e w' => e = .returned (.bool true) ∧ ∃ m, w' = w.drewN m) from fun A B c d w h h2 => by
    rw [← hz]; exact same_any A B c d (pickC L D F) w h h2 (pickC_le hF4))
  have HS2 := Lib.hid (show ∀ A B c d w, Ints w A (pickR L D F) → Ints w B (pickR L D F) → Calls Try.prog 37 #[.slice A y c, .slice B y d] w (fun e w' => e = .returned (.bool true) ∧ ∃ m, w' = w.drewN m) from fun A B c d w h h2 => by
    rw [← hy]; exact same_any A B c d (pickR L D F) w h h2 (pickR_le L D F))
  have HZ := Lib.hid hz
  have HY := Lib.hid hy
  have HR := Lib.hid hR
  have HU := Lib.hid hu
  have HV := Lib.hid hv
  have HF := Lib.hid hf
  have HG := Lib.hid hg
  have HL4 := Lib.hid hL4
  have HD4 := Lib.hid hD4
  have HF4 := Lib.hid hF4
  have HW0 : Hid (w1.grownBy w1 none) := Lib.hid (gr_refl _ _)
  have hRR : (R != R) = false := by simp
  clear hu hv hf hg HD HE hz hy hR hL hD hF hL4 hD4 hF4
  go_wp2_with fail
  refine (HM1.out _ HU.out HV.out HF.out).mono ?_
  rintro e w2 ⟨A5, c5, B5, d5, rfl, hg, ho, ho2⟩
  have HG := Lib.hid (HG.out.trans hg)
  have HU := Lib.hid (HU.out.grown0 hg)
  have HV := Lib.hid (HV.out.grown0 hg)
  have HF := Lib.hid (HF.out.grown0 hg)
  have HW0 := Lib.hid (HW0.out.trans hg)
  have HZ5 := Lib.hid (Ints.of_own (zs := pickC L D F) (by rw [HZ.out]; exact ho))
  have HY5 := Lib.hid (Ints.of_own (zs := pickR L D F) (by rw [HY.out]; exact ho2))
  have HZO5 := Lib.hid (OwnI.of ho HZ.out)
  have HYO5 := Lib.hid (OwnI.of ho2 HY.out)
  clear hg ho ho2 HM1
  go_wp2_with fail
  refine (HM2.out _ HU.out HV.out HF.out).mono ?_
  rintro e w3 ⟨A6, c6, B6, d6, rfl, hg, ho, ho2⟩
  have HG := Lib.hid (HG.out.trans hg)
  have HU := Lib.hid (HU.out.grown0 hg)
  have HV := Lib.hid (HV.out.grown0 hg)
  have HF := Lib.hid (HF.out.grown0 hg)
  have HZO5 := Lib.hid (HZO5.out.grown0 hg)
  have HYO5 := Lib.hid (HYO5.out.grown0 hg)
  have HZ5 := Lib.hid (HZ5.out.grown hg (by simp))
  have HY5 := Lib.hid (HY5.out.grown hg (by simp))
  have HW0 := Lib.hid (HW0.out.trans hg)
  have HZ6 := Lib.hid (Ints.of_own (zs := pickC L D F) (by rw [HZ.out]; exact ho))
  have HY6 := Lib.hid (Ints.of_own (zs := pickR L D F) (by rw [HY.out]; exact ho2))
  have HZO6 := Lib.hid (OwnI.of ho HZ.out)
  have HYO6 := Lib.hid (OwnI.of ho2 HY.out)
  clear hg ho ho2 HM2
  go_wp2_with fail
  refine (HE1.out _ HW0.out).mono ?_
  rintro e w4 ⟨u2, v2, f2, G, P, Q, rfl, hu2, hv2, hf2, hGl, hPl, hQl, hg⟩
  have HG := Lib.hid (HG.out.trans hg)
  have HU := Lib.hid (HU.out.grown0 hg)
  have HV := Lib.hid (HV.out.grown0 hg)
  have HF := Lib.hid (HF.out.grown0 hg)
  have HZO5 := Lib.hid (HZO5.out.grown0 hg)
  have HYO5 := Lib.hid (HYO5.out.grown0 hg)
  have HZO6 := Lib.hid (HZO6.out.grown0 hg)
  have HYO6 := Lib.hid (HYO6.out.grown0 hg)
  have HZ5 := Lib.hid (HZ5.out.grown hg (by simp))
  have HY5 := Lib.hid (HY5.out.grown hg (by simp))
  have HZ6 := Lib.hid (HZ6.out.grown hg (by simp))
  have HY6 := Lib.hid (HY6.out.grown hg (by simp))
  have hG4 : G.length ≤ 1048576 := by omega
  have hP4 : P.length ≤ 1048576 := by omega
  have hQ4 : Q.length ≤ 1048576 := by omega
  obtain ⟨z2, hz2⟩ : ∃ z, (weaveR G P Q).length = z := ⟨_, rfl⟩
  obtain ⟨R2, hR2⟩ : ∃ R, weaveB G P Q = R := ⟨_, rfl⟩
  obtain ⟨ng, hng⟩ : ∃ n, G.length = n := ⟨_, rfl⟩
  obtain ⟨np, hnp⟩ : ∃ n, P.length = n := ⟨_, rfl⟩
  obtain ⟨Ag, cg, rfl⟩ : ∃ Ag cg, u2 = .slice Ag ng cg := by
    obtain ⟨A, c, e, _⟩ := hu2.form
    exact ⟨A, c, by rw [e, hng]⟩
  obtain ⟨Ap, cp, rfl, hip⟩ : ∃ Ap cp, v2 = .slice Ap np cp ∧ Ints w4 Ap P := by
    obtain ⟨A, c, e, h, _⟩ := hv2.form
    exact ⟨A, c, by rw [e, hnp], h⟩
  have HW1 := Lib.hid (show ∀ w, OwnI w (.slice Ag ng cg) G → OwnI w (.slice Ap np cp) P → OwnI w f2 Q → Calls Try.prog 35 #[.slice Ag ng cg, .slice Ap np cp, f2] w (fun e w' => ∃ A c, e = .returned (.tuple #[.slice A z2 c, .bool R2]) ∧ w.grownBy w' none ∧ w'.ownsRow w.heap.size 3 1 (.slice A z2 c) z2 ((weaveR G P Q).map (Value.int .i64))) from fun w h0 h1 h2 => by
    rw [← hz2, ← hR2]; exact weave_own _ _ _ G P Q w h0 h1 h2 hG4 hP4 hQ4)
  have HW2 := Lib.hid (show ∀ w, OwnI w (.slice Ag ng cg) G → OwnI w (.slice Ap np cp) P → OwnI w f2 Q → Calls Try.prog 34 #[.slice Ag ng cg, .slice Ap np cp, f2] w (fun e w' => ∃ A c, e = .returned (.tuple #[.slice A z2 c, .bool R2]) ∧ w.grownBy w' none ∧ w'.ownsRow w.heap.size 3 1 (.slice A z2 c) z2 ((weaveR G P Q).map (Value.int .i64))) from fun w h0 h1 h2 => by
    rw [← hz2, ← hR2]; exact sweave_own _ _ _ G P Q w h0 h1 h2 hG4 hP4 hQ4)
  have HS3 := Lib.hid (show ∀ A B c d w, Ints w A (weaveR G P Q) → Ints w B (weaveR G P Q) → Calls Try.prog 37 #[.slice A z2 c, .slice B z2 d] w (fun e w' => e = .returned (.bool true) ∧ ∃ m, w' = w.drewN m) from fun A B c d w h h2 => by
    rw [← hz2]; exact same_any A B c d (weaveR G P Q) w h h2 (weaveR_le hG4))
  have HSP := Lib.hid (show ∀ A B c d w, Ints w A (P) → Ints w B (P) → Calls Try.prog 37 #[.slice A np c, .slice B np d] w (fun e w' => e = .returned (.bool true) ∧ ∃ m, w' = w.drewN m) from fun A B c d w h h2 => by
    rw [← hnp]; exact same_any A B c d (P) w h h2 hP4)
  have HZ2 := Lib.hid hz2
  have HR2 := Lib.hid hR2
  have HNG := Lib.hid hng
  have HNP := Lib.hid hnp
  have HU2 := Lib.hid hu2
  have HV2 := Lib.hid hv2
  have HF2 := Lib.hid hf2
  have HIP := Lib.hid hip
  have HG42 := Lib.hid hG4
  have hRR2 : (R2 != R2) = false := by simp
  clear hu2 hv2 hf2 hip hg hz2 hR2 hng hnp hGl hPl hQl hG4 hP4 hQ4 HE1 HW0
  go_wp2_with fail
  refine (HW1.out _ HU2.out HV2.out HF2.out).mono ?_
  rintro e w5 ⟨A7, c7, rfl, hg, ho⟩
  have HG := Lib.hid (HG.out.trans hg)
  have HU := Lib.hid (HU.out.grown0 hg)
  have HV := Lib.hid (HV.out.grown0 hg)
  have HF := Lib.hid (HF.out.grown0 hg)
  have HZO5 := Lib.hid (HZO5.out.grown0 hg)
  have HYO5 := Lib.hid (HYO5.out.grown0 hg)
  have HZO6 := Lib.hid (HZO6.out.grown0 hg)
  have HYO6 := Lib.hid (HYO6.out.grown0 hg)
  have HU2 := Lib.hid (HU2.out.grown0 hg)
  have HV2 := Lib.hid (HV2.out.grown0 hg)
  have HF2 := Lib.hid (HF2.out.grown0 hg)
  have HZ5 := Lib.hid (HZ5.out.grown hg (by simp))
  have HY5 := Lib.hid (HY5.out.grown hg (by simp))
  have HZ6 := Lib.hid (HZ6.out.grown hg (by simp))
  have HY6 := Lib.hid (HY6.out.grown hg (by simp))
  have HIP := Lib.hid (HIP.out.grown hg (by simp))
  have HZ7 := Lib.hid (Ints.of_own (zs := weaveR G P Q) (by rw [HZ2.out]; exact ho))
  have HZO7 := Lib.hid (OwnI.of ho HZ2.out)
  clear hg ho HW1
  go_wp2_with fail
  refine (HW2.out _ HU2.out HV2.out HF2.out).mono ?_
  rintro e w6 ⟨A8, c8, rfl, hg, ho⟩
  have HG := Lib.hid (HG.out.trans hg)
  have HU := Lib.hid (HU.out.grown0 hg)
  have HV := Lib.hid (HV.out.grown0 hg)
  have HF := Lib.hid (HF.out.grown0 hg)
  have HZO5 := Lib.hid (HZO5.out.grown0 hg)
  have HYO5 := Lib.hid (HYO5.out.grown0 hg)
  have HZO6 := Lib.hid (HZO6.out.grown0 hg)
  have HYO6 := Lib.hid (HYO6.out.grown0 hg)
  have HU2 := Lib.hid (HU2.out.grown0 hg)
  have HV2 := Lib.hid (HV2.out.grown0 hg)
  have HF2 := Lib.hid (HF2.out.grown0 hg)
  have HZO7 := Lib.hid (HZO7.out.grown0 hg)
  have HZ5 := Lib.hid (HZ5.out.grown hg (by simp))
  have HY5 := Lib.hid (HY5.out.grown hg (by simp))
  have HZ6 := Lib.hid (HZ6.out.grown hg (by simp))
  have HY6 := Lib.hid (HY6.out.grown hg (by simp))
  have HIP := Lib.hid (HIP.out.grown hg (by simp))
  have HZ7 := Lib.hid (HZ7.out.grown hg (by simp))
  have HZ8 := Lib.hid (Ints.of_own (zs := weaveR G P Q) (by rw [HZ2.out]; exact ho))
  clear hg ho HW2
  go_wp2_with fail
  refine (HS1.out _ _ c5 c6 _ HZ5.out HZ6.out).mono ?_
  rintro e w7 ⟨rfl, q7, rfl⟩
  have HG := Lib.hid (HG.out.trans (gr_drewN w6 q7 none))
  have HU := Lib.hid (HU.out.grown0 (gr_drewN w6 q7 none))
  have HV := Lib.hid (HV.out.grown0 (gr_drewN w6 q7 none))
  have HF := Lib.hid (HF.out.grown0 (gr_drewN w6 q7 none))
  have HZO5 := Lib.hid (HZO5.out.grown0 (gr_drewN w6 q7 none))
  have HYO5 := Lib.hid (HYO5.out.grown0 (gr_drewN w6 q7 none))
  have HZO6 := Lib.hid (HZO6.out.grown0 (gr_drewN w6 q7 none))
  have HYO6 := Lib.hid (HYO6.out.grown0 (gr_drewN w6 q7 none))
  have HU2 := Lib.hid (HU2.out.grown0 (gr_drewN w6 q7 none))
  have HV2 := Lib.hid (HV2.out.grown0 (gr_drewN w6 q7 none))
  have HF2 := Lib.hid (HF2.out.grown0 (gr_drewN w6 q7 none))
  have HZO7 := Lib.hid (HZO7.out.grown0 (gr_drewN w6 q7 none))
  have HZ5 := Lib.hid (HZ5.out.grown (gr_drewN w6 q7 none) (by simp))
  have HY5 := Lib.hid (HY5.out.grown (gr_drewN w6 q7 none) (by simp))
  have HZ6 := Lib.hid (HZ6.out.grown (gr_drewN w6 q7 none) (by simp))
  have HY6 := Lib.hid (HY6.out.grown (gr_drewN w6 q7 none) (by simp))
  have HIP := Lib.hid (HIP.out.grown (gr_drewN w6 q7 none) (by simp))
  have HZ7 := Lib.hid (HZ7.out.grown (gr_drewN w6 q7 none) (by simp))
  have HZ8 := Lib.hid (HZ8.out.grown (gr_drewN w6 q7 none) (by simp))
  generalize w6.drewN q7 = w7 at HG HU HV HF HZO5 HYO5 HZO6 HYO6 HU2 HV2 HF2 HZO7 HZ5 HY5 HZ6 HY6 HIP HZ7 HZ8 ⊢
  go_wp2_with fail
  refine (HS2.out _ _ d5 d6 _ HY5.out HY6.out).mono ?_
  rintro e w8 ⟨rfl, q8, rfl⟩
  have HG := Lib.hid (HG.out.trans (gr_drewN w7 q8 none))
  have HU := Lib.hid (HU.out.grown0 (gr_drewN w7 q8 none))
  have HV := Lib.hid (HV.out.grown0 (gr_drewN w7 q8 none))
  have HF := Lib.hid (HF.out.grown0 (gr_drewN w7 q8 none))
  have HZO5 := Lib.hid (HZO5.out.grown0 (gr_drewN w7 q8 none))
  have HYO5 := Lib.hid (HYO5.out.grown0 (gr_drewN w7 q8 none))
  have HZO6 := Lib.hid (HZO6.out.grown0 (gr_drewN w7 q8 none))
  have HYO6 := Lib.hid (HYO6.out.grown0 (gr_drewN w7 q8 none))
  have HU2 := Lib.hid (HU2.out.grown0 (gr_drewN w7 q8 none))
  have HV2 := Lib.hid (HV2.out.grown0 (gr_drewN w7 q8 none))
  have HF2 := Lib.hid (HF2.out.grown0 (gr_drewN w7 q8 none))
  have HZO7 := Lib.hid (HZO7.out.grown0 (gr_drewN w7 q8 none))
  have HZ5 := Lib.hid (HZ5.out.grown (gr_drewN w7 q8 none) (by simp))
  have HY5 := Lib.hid (HY5.out.grown (gr_drewN w7 q8 none) (by simp))
  have HZ6 := Lib.hid (HZ6.out.grown (gr_drewN w7 q8 none) (by simp))
  have HY6 := Lib.hid (HY6.out.grown (gr_drewN w7 q8 none) (by simp))
  have HIP := Lib.hid (HIP.out.grown (gr_drewN w7 q8 none) (by simp))
  have HZ7 := Lib.hid (HZ7.out.grown (gr_drewN w7 q8 none) (by simp))
  have HZ8 := Lib.hid (HZ8.out.grown (gr_drewN w7 q8 none) (by simp))
  generalize w7.drewN q8 = w8 at HG HU HV HF HZO5 HYO5 HZO6 HYO6 HU2 HV2 HF2 HZO7 HZ5 HY5 HZ6 HY6 HIP HZ7 HZ8 ⊢
  go_wp2_with fail
  refine (HS3.out _ _ c7 c8 _ HZ7.out HZ8.out).mono ?_
  rintro e w9 ⟨rfl, q9, rfl⟩
  have HG := Lib.hid (HG.out.trans (gr_drewN w8 q9 none))
  have HU := Lib.hid (HU.out.grown0 (gr_drewN w8 q9 none))
  have HV := Lib.hid (HV.out.grown0 (gr_drewN w8 q9 none))
  have HF := Lib.hid (HF.out.grown0 (gr_drewN w8 q9 none))
  have HZO5 := Lib.hid (HZO5.out.grown0 (gr_drewN w8 q9 none))
  have HYO5 := Lib.hid (HYO5.out.grown0 (gr_drewN w8 q9 none))
  have HZO6 := Lib.hid (HZO6.out.grown0 (gr_drewN w8 q9 none))
  have HYO6 := Lib.hid (HYO6.out.grown0 (gr_drewN w8 q9 none))
  have HU2 := Lib.hid (HU2.out.grown0 (gr_drewN w8 q9 none))
  have HV2 := Lib.hid (HV2.out.grown0 (gr_drewN w8 q9 none))
  have HF2 := Lib.hid (HF2.out.grown0 (gr_drewN w8 q9 none))
  have HZO7 := Lib.hid (HZO7.out.grown0 (gr_drewN w8 q9 none))
  have HZ5 := Lib.hid (HZ5.out.grown (gr_drewN w8 q9 none) (by simp))
  have HY5 := Lib.hid (HY5.out.grown (gr_drewN w8 q9 none) (by simp))
  have HZ6 := Lib.hid (HZ6.out.grown (gr_drewN w8 q9 none) (by simp))
  have HY6 := Lib.hid (HY6.out.grown (gr_drewN w8 q9 none) (by simp))
  have HIP := Lib.hid (HIP.out.grown (gr_drewN w8 q9 none) (by simp))
  have HZ7 := Lib.hid (HZ7.out.grown (gr_drewN w8 q9 none) (by simp))
  have HZ8 := Lib.hid (HZ8.out.grown (gr_drewN w8 q9 none) (by simp))
  generalize w8.drewN q9 = w9 at HG HU HV HF HZO5 HYO5 HZO6 HYO6 HU2 HV2 HF2 HZO7 HZ5 HY5 HZ6 HY6 HIP HZ7 HZ8 ⊢
  cases R2 with
  | false =>
    cases R with
    | false =>
      have hzz : z = 0 := by have h1 := HZ.out; rw [(pick_nil HR.out).1] at h1; exact h1.symm
      have hyy : y = 0 := by have h1 := HY.out; rw [(pick_nil HR.out).2] at h1; exact h1.symm
      subst hzz
      subst hyy
      go_wp2_with fail
      go_ret
      exact ⟨rfl, HG.out⟩
    | true =>
      obtain ⟨q1, q2, q3, q4⟩ := pick_pure HR.out
      obtain ⟨z3, hz3⟩ : ∃ z, (sumsR L D).length = z := ⟨_, rfl⟩
      obtain ⟨z4, hz4⟩ : ∃ z, (gatherR (sumsR L D) F).length = z := ⟨_, rfl⟩
      have hz34 : z3 ≤ 1048576 := by
        rw [← hz3, sumsR, if_pos q1, List.length_map, cutI_len]
        exact HL4.out
      have hz44 : z4 ≤ 1048576 := by
        rw [← hz4, gatherR, if_pos q2, pickI_len]
        exact HF4.out
      have HX1 := Lib.hid (show ∀ w, OwnI w u L → OwnI w v D → Calls Try.prog 40 #[u, v] w (fun e w' => ∃ A c, e = .returned (.tuple #[.slice A z3 c, .bool true]) ∧ w.grownBy w' none ∧ w'.ownsRow w.heap.size 3 1 (.slice A z3 c) z3 ((sumsR L D).map (Value.int .i64))) from fun w h0 h1 => by
        rw [← hz3]; exact (by have h := sums_impl u v L D w h0 h1 HL4.out HD4.out; rw [q1] at h; exact h))
      have HX2 := Lib.hid (show ∀ a w, OwnI w a (sumsR L D) → OwnI w f F → Calls Try.prog 18 #[a, f] w (fun e w' => ∃ A c, e = .returned (.tuple #[.slice A z4 c, .bool true]) ∧ w.grownBy w' none ∧ w'.ownsRow w.heap.size 3 1 (.slice A z4 c) z4 ((gatherR (sumsR L D) F).map (Value.int .i64))) from fun a w h0 h1 => by
        rw [← hz4]; exact (by have h := gath_own a f (sumsR L D) F w h0 h1 (by rw [hz3]; exact hz34) HF4.out; rw [q2] at h; exact h))
      have HX3 := Lib.hid (show ∀ a b w, OwnI w a (pickC L D F) → OwnI w b (pickR L D F) → Calls Try.prog 40 #[a, b] w (fun e w' => ∃ A c, e = .returned (.tuple #[.slice A z4 c, .bool true]) ∧ w.grownBy w' none ∧ w'.ownsRow w.heap.size 3 1 (.slice A z4 c) z4 ((gatherR (sumsR L D) F).map (Value.int .i64))) from fun a b w h0 h1 => by
        rw [← hz4]; exact (by have h := sums_impl a b (pickC L D F) (pickR L D F) w h0 h1 (pickC_le HF4.out) (pickR_le L D F); rw [q3, q4] at h; exact h))
      have HS4 := Lib.hid (show ∀ A B c d w, Ints w A (gatherR (sumsR L D) F) → Ints w B (gatherR (sumsR L D) F) → Calls Try.prog 37 #[.slice A z4 c, .slice B z4 d] w (fun e w' => e = .returned (.bool true) ∧ ∃ m, w' = w.drewN m) from fun A B c d w h h2 => by
        rw [← hz4]; exact same_any A B c d (gatherR (sumsR L D) F) w h h2 (by rw [hz4]; exact hz44))
      have HZ3 := Lib.hid hz3
      have HZ4 := Lib.hid hz4
      clear hz3 hz4 q1 q2 q3 q4 hz34 hz44
      go_wp2_with fail
      refine (HX1.out _ HU.out HV.out).mono ?_
      rintro e w10 ⟨A9, c9, rfl, hg, ho⟩
      have HG := Lib.hid (HG.out.trans hg)
      have HU := Lib.hid (HU.out.grown0 hg)
      have HV := Lib.hid (HV.out.grown0 hg)
      have HF := Lib.hid (HF.out.grown0 hg)
      have HZO5 := Lib.hid (HZO5.out.grown0 hg)
      have HYO5 := Lib.hid (HYO5.out.grown0 hg)
      have HZO6 := Lib.hid (HZO6.out.grown0 hg)
      have HYO6 := Lib.hid (HYO6.out.grown0 hg)
      have HU2 := Lib.hid (HU2.out.grown0 hg)
      have HV2 := Lib.hid (HV2.out.grown0 hg)
      have HF2 := Lib.hid (HF2.out.grown0 hg)
      have HZO7 := Lib.hid (HZO7.out.grown0 hg)
      have HZ5 := Lib.hid (HZ5.out.grown hg (by simp))
      have HY5 := Lib.hid (HY5.out.grown hg (by simp))
      have HZ6 := Lib.hid (HZ6.out.grown hg (by simp))
      have HY6 := Lib.hid (HY6.out.grown hg (by simp))
      have HIP := Lib.hid (HIP.out.grown hg (by simp))
      have HZ7 := Lib.hid (HZ7.out.grown hg (by simp))
      have HZ8 := Lib.hid (HZ8.out.grown hg (by simp))
      have HZ9 := Lib.hid (OwnI.of ho HZ3.out)
      clear hg ho
      go_wp2_with fail
      refine (HX2.out _ _ HZ9.out HF.out).mono ?_
      rintro e w11 ⟨A10, c10, rfl, hg, ho⟩
      have HG := Lib.hid (HG.out.trans hg)
      have HU := Lib.hid (HU.out.grown0 hg)
      have HV := Lib.hid (HV.out.grown0 hg)
      have HF := Lib.hid (HF.out.grown0 hg)
      have HZO5 := Lib.hid (HZO5.out.grown0 hg)
      have HYO5 := Lib.hid (HYO5.out.grown0 hg)
      have HZO6 := Lib.hid (HZO6.out.grown0 hg)
      have HYO6 := Lib.hid (HYO6.out.grown0 hg)
      have HU2 := Lib.hid (HU2.out.grown0 hg)
      have HV2 := Lib.hid (HV2.out.grown0 hg)
      have HF2 := Lib.hid (HF2.out.grown0 hg)
      have HZO7 := Lib.hid (HZO7.out.grown0 hg)
      have HZ9 := Lib.hid (HZ9.out.grown0 hg)
      have HZ5 := Lib.hid (HZ5.out.grown hg (by simp))
      have HY5 := Lib.hid (HY5.out.grown hg (by simp))
      have HZ6 := Lib.hid (HZ6.out.grown hg (by simp))
      have HY6 := Lib.hid (HY6.out.grown hg (by simp))
      have HIP := Lib.hid (HIP.out.grown hg (by simp))
      have HZ7 := Lib.hid (HZ7.out.grown hg (by simp))
      have HZ8 := Lib.hid (HZ8.out.grown hg (by simp))
      have HZ10 := Lib.hid (Ints.of_own (zs := gatherR (sumsR L D) F) (by rw [HZ4.out]; exact ho))
      clear hg ho
      go_wp2_with fail
      refine (HX3.out _ _ _ HZO5.out HYO5.out).mono ?_
      rintro e w12 ⟨A11, c11, rfl, hg, ho⟩
      have HG := Lib.hid (HG.out.trans hg)
      have HU := Lib.hid (HU.out.grown0 hg)
      have HV := Lib.hid (HV.out.grown0 hg)
      have HF := Lib.hid (HF.out.grown0 hg)
      have HZO5 := Lib.hid (HZO5.out.grown0 hg)
      have HYO5 := Lib.hid (HYO5.out.grown0 hg)
      have HZO6 := Lib.hid (HZO6.out.grown0 hg)
      have HYO6 := Lib.hid (HYO6.out.grown0 hg)
      have HU2 := Lib.hid (HU2.out.grown0 hg)
      have HV2 := Lib.hid (HV2.out.grown0 hg)
      have HF2 := Lib.hid (HF2.out.grown0 hg)
      have HZO7 := Lib.hid (HZO7.out.grown0 hg)
      have HZ9 := Lib.hid (HZ9.out.grown0 hg)
      have HZ5 := Lib.hid (HZ5.out.grown hg (by simp))
      have HY5 := Lib.hid (HY5.out.grown hg (by simp))
      have HZ6 := Lib.hid (HZ6.out.grown hg (by simp))
      have HY6 := Lib.hid (HY6.out.grown hg (by simp))
      have HIP := Lib.hid (HIP.out.grown hg (by simp))
      have HZ7 := Lib.hid (HZ7.out.grown hg (by simp))
      have HZ8 := Lib.hid (HZ8.out.grown hg (by simp))
      have HZ10 := Lib.hid (HZ10.out.grown hg (by simp))
      have HZ11 := Lib.hid (Ints.of_own (zs := gatherR (sumsR L D) F) (by rw [HZ4.out]; exact ho))
      clear hg ho
      go_wp2_with fail
      refine (HS4.out _ _ c10 c11 _ HZ10.out HZ11.out).mono ?_
      rintro e w13 ⟨rfl, q13, rfl⟩
      have HG := Lib.hid (HG.out.trans (gr_drewN w12 q13 none))
      have HU := Lib.hid (HU.out.grown0 (gr_drewN w12 q13 none))
      have HV := Lib.hid (HV.out.grown0 (gr_drewN w12 q13 none))
      have HF := Lib.hid (HF.out.grown0 (gr_drewN w12 q13 none))
      have HZO5 := Lib.hid (HZO5.out.grown0 (gr_drewN w12 q13 none))
      have HYO5 := Lib.hid (HYO5.out.grown0 (gr_drewN w12 q13 none))
      have HZO6 := Lib.hid (HZO6.out.grown0 (gr_drewN w12 q13 none))
      have HYO6 := Lib.hid (HYO6.out.grown0 (gr_drewN w12 q13 none))
      have HU2 := Lib.hid (HU2.out.grown0 (gr_drewN w12 q13 none))
      have HV2 := Lib.hid (HV2.out.grown0 (gr_drewN w12 q13 none))
      have HF2 := Lib.hid (HF2.out.grown0 (gr_drewN w12 q13 none))
      have HZO7 := Lib.hid (HZO7.out.grown0 (gr_drewN w12 q13 none))
      have HZ9 := Lib.hid (HZ9.out.grown0 (gr_drewN w12 q13 none))
      have HZ5 := Lib.hid (HZ5.out.grown (gr_drewN w12 q13 none) (by simp))
      have HY5 := Lib.hid (HY5.out.grown (gr_drewN w12 q13 none) (by simp))
      have HZ6 := Lib.hid (HZ6.out.grown (gr_drewN w12 q13 none) (by simp))
      have HY6 := Lib.hid (HY6.out.grown (gr_drewN w12 q13 none) (by simp))
      have HIP := Lib.hid (HIP.out.grown (gr_drewN w12 q13 none) (by simp))
      have HZ7 := Lib.hid (HZ7.out.grown (gr_drewN w12 q13 none) (by simp))
      have HZ8 := Lib.hid (HZ8.out.grown (gr_drewN w12 q13 none) (by simp))
      have HZ10 := Lib.hid (HZ10.out.grown (gr_drewN w12 q13 none) (by simp))
      have HZ11 := Lib.hid (HZ11.out.grown (gr_drewN w12 q13 none) (by simp))
      generalize w12.drewN q13 = w13 at HG HU HV HF HZO5 HYO5 HZO6 HYO6 HU2 HV2 HF2 HZO7 HZ9 HZ5 HY5 HZ6 HY6 HIP HZ7 HZ8 HZ10 HZ11 ⊢
      go_wp2_with fail
      go_ret
      exact ⟨rfl, HG.out⟩
  | true =>
    obtain ⟨p1, p2, p3, p4⟩ := weave_pure HR2.out
    rw [HZ2.out] at p2 p3 p4
    have hzg : z2 = ng := by rw [p4, HNG.out]
    subst hzg
    have HK := Lib.hid (show ∀ a b w, OwnI w a [(z2 : Int)] → OwnI w b (weaveR G P Q) → OwnI w (.slice Ag z2 cg) G → Calls Try.prog 44 #[a, b, .slice Ag z2 cg] w (fun e w' => ∃ A c k A2 c2, e = .returned (.tuple #[.slice A k c, .slice A2 np c2, .bool true]) ∧ w.grownBy w' none ∧ Ints w' A2 P) from fun a b w h0 h1 h2 => by
      have h := pack_impl a b (.slice Ag z2 cg) [(z2 : Int)] (weaveR G P Q) G w h0 h1 h2 (by simp) (weaveR_le HG42.out) HG42.out
      rw [p2, p3] at h
      refine h.mono ?_
      rintro e w' ⟨A, c, A2, c2, rfl, h1, _, h3, _⟩
      exact ⟨A, c, _, A2, c2, by rw [HNP.out], h1, Ints.of_own h3⟩)
    have HLIT := Lib.hid (show OwnI (w9.alloc (.cells #[.int .i64 (z2 : Int)] 3)) (.slice (some ⟨w9.heap.size, 0, none⟩) 1 1) [(z2 : Int)] from World.ownsRow_lit (base := 0) (e := 3) (size := 1) w9 #[.int .i64 (z2 : Int)] 1 (Nat.zero_le _) (by simp [maxLen]) (by simp))
    have HAG := Lib.hid (World.grownBy_alloc w9 (.cells #[.int .i64 (z2 : Int)] 3) none)
    have hzz2 : ((z2 : Int) != (z2 : Int)) = false := by simp
    clear p1 p2 p3 p4
    go_wp2_with fail
    refine (HK.out _ _ _ HLIT.out (HZO7.out.grown0 HAG.out) (HU2.out.grown0 HAG.out)).mono ?_
    rintro e w20 ⟨A15, c15, k15, A16, c16, rfl, hg0, hI16⟩
    have hg := HAG.out.trans hg0
    have HG := Lib.hid (HG.out.trans hg)
    have HU := Lib.hid (HU.out.grown0 hg)
    have HV := Lib.hid (HV.out.grown0 hg)
    have HF := Lib.hid (HF.out.grown0 hg)
    have HZO5 := Lib.hid (HZO5.out.grown0 hg)
    have HYO5 := Lib.hid (HYO5.out.grown0 hg)
    have HZO6 := Lib.hid (HZO6.out.grown0 hg)
    have HYO6 := Lib.hid (HYO6.out.grown0 hg)
    have HU2 := Lib.hid (HU2.out.grown0 hg)
    have HV2 := Lib.hid (HV2.out.grown0 hg)
    have HF2 := Lib.hid (HF2.out.grown0 hg)
    have HZO7 := Lib.hid (HZO7.out.grown0 hg)
    have HZ5 := Lib.hid (HZ5.out.grown hg (by simp))
    have HY5 := Lib.hid (HY5.out.grown hg (by simp))
    have HZ6 := Lib.hid (HZ6.out.grown hg (by simp))
    have HY6 := Lib.hid (HY6.out.grown hg (by simp))
    have HIP := Lib.hid (HIP.out.grown hg (by simp))
    have HZ7 := Lib.hid (HZ7.out.grown hg (by simp))
    have HZ8 := Lib.hid (HZ8.out.grown hg (by simp))
    have HI16 := Lib.hid hI16
    clear hg hg0 hI16 HK HLIT HAG
    go_wp2_with fail
    refine (HSP.out _ _ c16 cp _ HI16.out HIP.out).mono ?_
    rintro e w21 ⟨rfl, q21, rfl⟩
    have HG := Lib.hid (HG.out.trans (gr_drewN w20 q21 none))
    have HU := Lib.hid (HU.out.grown0 (gr_drewN w20 q21 none))
    have HV := Lib.hid (HV.out.grown0 (gr_drewN w20 q21 none))
    have HF := Lib.hid (HF.out.grown0 (gr_drewN w20 q21 none))
    have HZO5 := Lib.hid (HZO5.out.grown0 (gr_drewN w20 q21 none))
    have HYO5 := Lib.hid (HYO5.out.grown0 (gr_drewN w20 q21 none))
    have HZO6 := Lib.hid (HZO6.out.grown0 (gr_drewN w20 q21 none))
    have HYO6 := Lib.hid (HYO6.out.grown0 (gr_drewN w20 q21 none))
    have HU2 := Lib.hid (HU2.out.grown0 (gr_drewN w20 q21 none))
    have HV2 := Lib.hid (HV2.out.grown0 (gr_drewN w20 q21 none))
    have HF2 := Lib.hid (HF2.out.grown0 (gr_drewN w20 q21 none))
    have HZO7 := Lib.hid (HZO7.out.grown0 (gr_drewN w20 q21 none))
    have HZ5 := Lib.hid (HZ5.out.grown (gr_drewN w20 q21 none) (by simp))
    have HY5 := Lib.hid (HY5.out.grown (gr_drewN w20 q21 none) (by simp))
    have HZ6 := Lib.hid (HZ6.out.grown (gr_drewN w20 q21 none) (by simp))
    have HY6 := Lib.hid (HY6.out.grown (gr_drewN w20 q21 none) (by simp))
    have HIP := Lib.hid (HIP.out.grown (gr_drewN w20 q21 none) (by simp))
    have HZ7 := Lib.hid (HZ7.out.grown (gr_drewN w20 q21 none) (by simp))
    have HZ8 := Lib.hid (HZ8.out.grown (gr_drewN w20 q21 none) (by simp))
    have HI16 := Lib.hid (HI16.out.grown (gr_drewN w20 q21 none) (by simp))
    generalize w20.drewN q21 = w21 at HG HU HV HF HZO5 HYO5 HZO6 HYO6 HU2 HV2 HF2 HZO7 HZ5 HY5 HZ6 HY6 HIP HZ7 HZ8 HI16 ⊢
    cases R with
    | false =>
      have hzz : z = 0 := by have h1 := HZ.out; rw [(pick_nil HR.out).1] at h1; exact h1.symm
      have hyy : y = 0 := by have h1 := HY.out; rw [(pick_nil HR.out).2] at h1; exact h1.symm
      subst hzz
      subst hyy
      go_wp2_with fail
      go_ret
      exact ⟨rfl, HG.out⟩
    | true =>
      obtain ⟨q1, q2, q3, q4⟩ := pick_pure HR.out
      obtain ⟨z3, hz3⟩ : ∃ z, (sumsR L D).length = z := ⟨_, rfl⟩
      obtain ⟨z4, hz4⟩ : ∃ z, (gatherR (sumsR L D) F).length = z := ⟨_, rfl⟩
      have hz34 : z3 ≤ 1048576 := by
        rw [← hz3, sumsR, if_pos q1, List.length_map, cutI_len]
        exact HL4.out
      have hz44 : z4 ≤ 1048576 := by
        rw [← hz4, gatherR, if_pos q2, pickI_len]
        exact HF4.out
      have HX1 := Lib.hid (show ∀ w, OwnI w u L → OwnI w v D → Calls Try.prog 40 #[u, v] w (fun e w' => ∃ A c, e = .returned (.tuple #[.slice A z3 c, .bool true]) ∧ w.grownBy w' none ∧ w'.ownsRow w.heap.size 3 1 (.slice A z3 c) z3 ((sumsR L D).map (Value.int .i64))) from fun w h0 h1 => by
        rw [← hz3]; exact (by have h := sums_impl u v L D w h0 h1 HL4.out HD4.out; rw [q1] at h; exact h))
      have HX2 := Lib.hid (show ∀ a w, OwnI w a (sumsR L D) → OwnI w f F → Calls Try.prog 18 #[a, f] w (fun e w' => ∃ A c, e = .returned (.tuple #[.slice A z4 c, .bool true]) ∧ w.grownBy w' none ∧ w'.ownsRow w.heap.size 3 1 (.slice A z4 c) z4 ((gatherR (sumsR L D) F).map (Value.int .i64))) from fun a w h0 h1 => by
        rw [← hz4]; exact (by have h := gath_own a f (sumsR L D) F w h0 h1 (by rw [hz3]; exact hz34) HF4.out; rw [q2] at h; exact h))
      have HX3 := Lib.hid (show ∀ a b w, OwnI w a (pickC L D F) → OwnI w b (pickR L D F) → Calls Try.prog 40 #[a, b] w (fun e w' => ∃ A c, e = .returned (.tuple #[.slice A z4 c, .bool true]) ∧ w.grownBy w' none ∧ w'.ownsRow w.heap.size 3 1 (.slice A z4 c) z4 ((gatherR (sumsR L D) F).map (Value.int .i64))) from fun a b w h0 h1 => by
        rw [← hz4]; exact (by have h := sums_impl a b (pickC L D F) (pickR L D F) w h0 h1 (pickC_le HF4.out) (pickR_le L D F); rw [q3, q4] at h; exact h))
      have HS4 := Lib.hid (show ∀ A B c d w, Ints w A (gatherR (sumsR L D) F) → Ints w B (gatherR (sumsR L D) F) → Calls Try.prog 37 #[.slice A z4 c, .slice B z4 d] w (fun e w' => e = .returned (.bool true) ∧ ∃ m, w' = w.drewN m) from fun A B c d w h h2 => by
        rw [← hz4]; exact same_any A B c d (gatherR (sumsR L D) F) w h h2 (by rw [hz4]; exact hz44))
      have HZ3 := Lib.hid hz3
      have HZ4 := Lib.hid hz4
      clear hz3 hz4 q1 q2 q3 q4 hz34 hz44
      go_wp2_with fail
      refine (HX1.out _ HU.out HV.out).mono ?_
      rintro e w22 ⟨A9, c9, rfl, hg, ho⟩
      have HG := Lib.hid (HG.out.trans hg)
      have HU := Lib.hid (HU.out.grown0 hg)
      have HV := Lib.hid (HV.out.grown0 hg)
      have HF := Lib.hid (HF.out.grown0 hg)
      have HZO5 := Lib.hid (HZO5.out.grown0 hg)
      have HYO5 := Lib.hid (HYO5.out.grown0 hg)
      have HZO6 := Lib.hid (HZO6.out.grown0 hg)
      have HYO6 := Lib.hid (HYO6.out.grown0 hg)
      have HU2 := Lib.hid (HU2.out.grown0 hg)
      have HV2 := Lib.hid (HV2.out.grown0 hg)
      have HF2 := Lib.hid (HF2.out.grown0 hg)
      have HZO7 := Lib.hid (HZO7.out.grown0 hg)
      have HZ5 := Lib.hid (HZ5.out.grown hg (by simp))
      have HY5 := Lib.hid (HY5.out.grown hg (by simp))
      have HZ6 := Lib.hid (HZ6.out.grown hg (by simp))
      have HY6 := Lib.hid (HY6.out.grown hg (by simp))
      have HIP := Lib.hid (HIP.out.grown hg (by simp))
      have HZ7 := Lib.hid (HZ7.out.grown hg (by simp))
      have HZ8 := Lib.hid (HZ8.out.grown hg (by simp))
      have HI16 := Lib.hid (HI16.out.grown hg (by simp))
      have HZ9 := Lib.hid (OwnI.of ho HZ3.out)
      clear hg ho
      go_wp2_with fail
      refine (HX2.out _ _ HZ9.out HF.out).mono ?_
      rintro e w23 ⟨A10, c10, rfl, hg, ho⟩
      have HG := Lib.hid (HG.out.trans hg)
      have HU := Lib.hid (HU.out.grown0 hg)
      have HV := Lib.hid (HV.out.grown0 hg)
      have HF := Lib.hid (HF.out.grown0 hg)
      have HZO5 := Lib.hid (HZO5.out.grown0 hg)
      have HYO5 := Lib.hid (HYO5.out.grown0 hg)
      have HZO6 := Lib.hid (HZO6.out.grown0 hg)
      have HYO6 := Lib.hid (HYO6.out.grown0 hg)
      have HU2 := Lib.hid (HU2.out.grown0 hg)
      have HV2 := Lib.hid (HV2.out.grown0 hg)
      have HF2 := Lib.hid (HF2.out.grown0 hg)
      have HZO7 := Lib.hid (HZO7.out.grown0 hg)
      have HZ9 := Lib.hid (HZ9.out.grown0 hg)
      have HZ5 := Lib.hid (HZ5.out.grown hg (by simp))
      have HY5 := Lib.hid (HY5.out.grown hg (by simp))
      have HZ6 := Lib.hid (HZ6.out.grown hg (by simp))
      have HY6 := Lib.hid (HY6.out.grown hg (by simp))
      have HIP := Lib.hid (HIP.out.grown hg (by simp))
      have HZ7 := Lib.hid (HZ7.out.grown hg (by simp))
      have HZ8 := Lib.hid (HZ8.out.grown hg (by simp))
      have HI16 := Lib.hid (HI16.out.grown hg (by simp))
      have HZ10 := Lib.hid (Ints.of_own (zs := gatherR (sumsR L D) F) (by rw [HZ4.out]; exact ho))
      clear hg ho
      go_wp2_with fail
      refine (HX3.out _ _ _ HZO5.out HYO5.out).mono ?_
      rintro e w24 ⟨A11, c11, rfl, hg, ho⟩
      have HG := Lib.hid (HG.out.trans hg)
      have HU := Lib.hid (HU.out.grown0 hg)
      have HV := Lib.hid (HV.out.grown0 hg)
      have HF := Lib.hid (HF.out.grown0 hg)
      have HZO5 := Lib.hid (HZO5.out.grown0 hg)
      have HYO5 := Lib.hid (HYO5.out.grown0 hg)
      have HZO6 := Lib.hid (HZO6.out.grown0 hg)
      have HYO6 := Lib.hid (HYO6.out.grown0 hg)
      have HU2 := Lib.hid (HU2.out.grown0 hg)
      have HV2 := Lib.hid (HV2.out.grown0 hg)
      have HF2 := Lib.hid (HF2.out.grown0 hg)
      have HZO7 := Lib.hid (HZO7.out.grown0 hg)
      have HZ9 := Lib.hid (HZ9.out.grown0 hg)
      have HZ5 := Lib.hid (HZ5.out.grown hg (by simp))
      have HY5 := Lib.hid (HY5.out.grown hg (by simp))
      have HZ6 := Lib.hid (HZ6.out.grown hg (by simp))
      have HY6 := Lib.hid (HY6.out.grown hg (by simp))
      have HIP := Lib.hid (HIP.out.grown hg (by simp))
      have HZ7 := Lib.hid (HZ7.out.grown hg (by simp))
      have HZ8 := Lib.hid (HZ8.out.grown hg (by simp))
      have HI16 := Lib.hid (HI16.out.grown hg (by simp))
      have HZ10 := Lib.hid (HZ10.out.grown hg (by simp))
      have HZ11 := Lib.hid (Ints.of_own (zs := gatherR (sumsR L D) F) (by rw [HZ4.out]; exact ho))
      clear hg ho
      go_wp2_with fail
      refine (HS4.out _ _ c10 c11 _ HZ10.out HZ11.out).mono ?_
      rintro e w25 ⟨rfl, q25, rfl⟩
      have HG := Lib.hid (HG.out.trans (gr_drewN w24 q25 none))
      have HU := Lib.hid (HU.out.grown0 (gr_drewN w24 q25 none))
      have HV := Lib.hid (HV.out.grown0 (gr_drewN w24 q25 none))
      have HF := Lib.hid (HF.out.grown0 (gr_drewN w24 q25 none))
      have HZO5 := Lib.hid (HZO5.out.grown0 (gr_drewN w24 q25 none))
      have HYO5 := Lib.hid (HYO5.out.grown0 (gr_drewN w24 q25 none))
      have HZO6 := Lib.hid (HZO6.out.grown0 (gr_drewN w24 q25 none))
      have HYO6 := Lib.hid (HYO6.out.grown0 (gr_drewN w24 q25 none))
      have HU2 := Lib.hid (HU2.out.grown0 (gr_drewN w24 q25 none))
      have HV2 := Lib.hid (HV2.out.grown0 (gr_drewN w24 q25 none))
      have HF2 := Lib.hid (HF2.out.grown0 (gr_drewN w24 q25 none))
      have HZO7 := Lib.hid (HZO7.out.grown0 (gr_drewN w24 q25 none))
      have HZ9 := Lib.hid (HZ9.out.grown0 (gr_drewN w24 q25 none))
      have HZ5 := Lib.hid (HZ5.out.grown (gr_drewN w24 q25 none) (by simp))
      have HY5 := Lib.hid (HY5.out.grown (gr_drewN w24 q25 none) (by simp))
      have HZ6 := Lib.hid (HZ6.out.grown (gr_drewN w24 q25 none) (by simp))
      have HY6 := Lib.hid (HY6.out.grown (gr_drewN w24 q25 none) (by simp))
      have HIP := Lib.hid (HIP.out.grown (gr_drewN w24 q25 none) (by simp))
      have HZ7 := Lib.hid (HZ7.out.grown (gr_drewN w24 q25 none) (by simp))
      have HZ8 := Lib.hid (HZ8.out.grown (gr_drewN w24 q25 none) (by simp))
      have HI16 := Lib.hid (HI16.out.grown (gr_drewN w24 q25 none) (by simp))
      have HZ10 := Lib.hid (HZ10.out.grown (gr_drewN w24 q25 none) (by simp))
      have HZ11 := Lib.hid (HZ11.out.grown (gr_drewN w24 q25 none) (by simp))
      generalize w24.drewN q25 = w25 at HG HU HV HF HZO5 HYO5 HZO6 HYO6 HU2 HV2 HF2 HZO7 HZ9 HZ5 HY5 HZ6 HY6 HIP HZ7 HZ8 HI16 HZ10 HZ11 ⊢
      go_wp2_with fail
      go_ret
      exact ⟨rfl, HG.out⟩

set_option maxRecDepth 100000 in
theorem dpickweave_lifted (os : Os) (started : os.Started) (H : Type) (enc : TypeId × Value → H) :
    ReturnsInHanded {} Try.checked os 14 .any (Rows.fnPickWeaveSpec.pre6 enc Try.prog Try.f14 Rows.fnPickWeaveRow.domain false) (Rows.fnPickWeaveSpec.post enc Try.prog Try.f14 false true false false) := by
  refine returnsInHanded_of_change (C := Try.checked) knob_own started (by kernel_rfl) Try.func14
    (ChangeSpec.witness6 (enc := enc) (C := Try.checked) false ⟨#[], #[.slice none 0 0, .slice none 0 0], []⟩ 8 (by kernel_rfl) (by kernel_rfl) (by kernel_rfl) (by kernel_rfl)) ?_
  intro W base args ds gs before hval0 hW hcnd _
  have hval : ∀ (j : Nat) t v, Try.f14.params[j]? = some t → args[j]? = some v → Value.okWide Try.prog W .any base t v := hval0
  have hW' := hW
  obtain ⟨p, q, hA0, hV, rfl, hfz, hnd⟩ := hW
  have hA : DataW.TrodAll enc Try.prog W 0 (fun _ => true) true Try.f14.params.toList args.toList ds p := hA0
  rw [Try.params14] at hA hval
  obtain ⟨v0, v1, d0, d1, p0, p1, rfl, rfl, rfl, h0, h1⟩ := trodAll_two hA
  obtain ⟨rfl, rfl⟩ := trodVars_none hV
  obtain ⟨A, n, c, rfl, a1, a2, a3⟩ := open_byts (hval 0 34 v0 rfl rfl) h0
  obtain ⟨B, m, d, rfl, b1, b2, b3⟩ := open_byts (hval 1 34 v1 rfl rfl) h1
  clear hA0 hval0
  simp only [List.append_nil] at hW'
  have hlt : ∀ x ∈ p0 ++ p1, x.block < W.heap.size := fun x hx => by simpa using hW'.lt x hx
  refine (law_dpickweave A B n c m d W a3 a1 a2 b3 b1 b2).mono fun e W' ⟨he, hg⟩ => ?_
  subst he
  refine ⟨_, rfl, _, _, _, [], p0 ++ p1, [], hW', ?_, ?_, rfl, (below_of hg).frame _, fun h => by cases h⟩
  · exact trodAll_mk1 (shut_bool Try.underlying4 _)
  · exact trodAll_mk2 (Below.trod laid_out (by kernel_rfl) (of_decide_eq_true (by kernel_rfl)) h0 (below_of hg) (fun x hx => hlt x (List.mem_append_left _ hx)))
      (Below.trod laid_out (by kernel_rfl) (of_decide_eq_true (by kernel_rfl)) h1 (below_of hg) (fun x hx => hlt x (List.mem_append_right _ hx)))

theorem dpickweave_holds : Rows.FnPickWeaveSaid :=
  OpenClaim.holds_of_wide 14 Try.f14 rfl rfl rfl rfl rfl rfl rfl ⟨rfl, rfl, rfl, rfl, rfl⟩ rfl rfl rfl rfl rfl fdpickweave_name Try.func14 fdpickweave_all fdpickweave_inst fdpickweave_wrap
    (fun os started H enc _ => (dpickweave_lifted os started H enc))

#print axioms dpickweave_holds

end Go.Proofs.Ytpakihjkjdanlaa
