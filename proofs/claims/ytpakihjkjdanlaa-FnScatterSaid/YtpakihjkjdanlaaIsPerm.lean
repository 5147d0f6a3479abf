/- What IsPermutation and InvertIndices of the program do. -/
import Derived.Test.YtpakihjkjdanlaaMapP
import Derived.Test.YtpakihjkjdanlaaGathI
import Derived.Test.YtpakihjkjdanlaaRegQ
namespace Go.Proofs.Ytpakihjkjdanlaa
open Go.RowKit

theorem permB_short {A : List Int} (h : idxB A.length A = false) : permB A = false := by simp [permB, h]

set_option maxRecDepth 100000 in
set_option maxHeartbeats 4000000 in
theorem isperm_any (A : Option Addr) (c : Nat) (zs : List Int) (w : World) (hA : Ints w A zs) (hn : zs.length ≤ 1048576) :
    Calls Try.prog 23 #[.slice A zs.length c] w fun e w' => e = .returned (.bool (permB zs)) ∧ w.grownBy w' none := by
  have HI := Lib.hid (idx_any A c zs.length zs w hA hn hn)
  cases hi : idxB zs.length zs with
  | false =>
    rw [hi] at HI
    rw [permB_short hi]
    obtain ⟨n, hnn⟩ : ∃ n, zs.length = n := ⟨_, rfl⟩
    rw [hnn] at HI ⊢
    clear hA hn hi hnn
    go_enter Try.func23, Try.ntmps23
    go_wp2_with fail
    refine HI.out.mono ?_
    rintro e w1 ⟨rfl, rfl⟩
    go_wp2_with fail
    go_ret
    exact ⟨rfl, gr_refl _ _⟩
  | true =>
    rw [hi] at HI
    have HP := Lib.hid (pad_okB hi)
    have HF := Lib.hid (perm_any A c zs w hA (idxB_get hi).1)
    rw [perm_iff hi]
    obtain ⟨P, hPP⟩ : ∃ P, padL zs = P := ⟨_, rfl⟩
    rw [hPP] at HP HF ⊢
    have HQ := Lib.hid (invL_ok HP.out)
    have HR := Lib.hid (invL_ok HQ.out)
    have HV1 := Lib.hid (fun w => inverse_any P HP.out w)
    have HV2 := Lib.hid (fun w => inverse_any (invL P) HQ.out w)
    have hz : ∀ w, (zeroValue 59).run Try.prog w = .ok (.agg (Array.replicate 400 (.int .i64 0))) w := zeroP.1
    obtain ⟨Z0, hZ0⟩ : ∃ Z0 : List Int, List.replicate 400 0 = Z0 := ⟨_, rfl⟩
    have HZL : Hid (Z0.length = 400) := Lib.hid (by rw [← hZ0, List.length_replicate])
    obtain ⟨zz, hzz⟩ : ∃ zz, Array.replicate 400 (Value.int .i64 0) = zz := ⟨_, rfl⟩
    have HZZ : Hid (zz = pvc Z0) := Lib.hid (by rw [← hzz, ← hZ0, pvc_zero])
    rw [hzz] at hz
    obtain ⟨n, hnn⟩ : ∃ n, zs.length = n := ⟨_, rfl⟩
    rw [hnn] at HI HF ⊢
    clear hA hn hi hnn hPP hZ0 hzz
    go_enter Try.func23, Try.ntmps23
    go_wp2_with fail
    refine HI.out.mono ?_
    rintro e w1 ⟨rfl, rfl⟩
    go_wp2_with fail
    refine HF.out.mono ?_
    rintro e w1 ⟨rfl, hg1⟩
    have HG1 := Lib.hid hg1
    clear hg1
    obtain ⟨g, hgg⟩ : ∃ g, w1.heap.size = g := ⟨_, rfl⟩
    obtain ⟨W2, hW2⟩ : ∃ W2, w1.alloc (.cells zz 59) = W2 := ⟨_, rfl⟩
    have ha2 : ArrAt W2 g Z0 := by rw [← hW2, ← hgg, HZZ.out]; exact ArrAt.new w1 HZL.out
    have hg2 : w1.grownBy W2 none := by rw [← hW2]; exact World.grownBy_alloc _ _ _
    have hs2 : W2.heap.size = g + 1 := by rw [← hW2, ← hgg]; simp
    have HA2 := Lib.hid ha2
    have HW2 := Lib.hid (And.intro hW2 hgg)
    have HP2 := Lib.hid (ha2.putAll HP.out.1)
    have HGG := Lib.hid (show w.heap.size ≤ g by rw [← hgg]; exact HG1.out.size)
    have HG2 := Lib.hid (gr_own (HG1.out.trans hg2) HP2.out.2 (fun k e => by have := HGG.out; cases e; omega))
    have HS2 := Lib.hid (show (W2.setRow g (pvc P)).heap.size = g + 1 by simp [World.setRow, hs2])
    clear hW2 hgg ha2 hg2 hs2 HG1
    go_wp2_with (first | (rw [HW2.out.1, HW2.out.2]; refine wp_store rfl (.tmp 3) (.tmp 12) rfl g rfl Z0 P rfl HA2.out HP.out.1 ?_) | (refine wp_load rfl (some 13) rfl (.tmp 3) rfl g rfl P HP2.out.1 ?_))
    refine (HV1.out _).mono ?_
    rintro e w3 ⟨rfl, hg3⟩
    have HA3 := Lib.hid (HP2.out.1.grown hg3 (by simp))
    have HG3 := Lib.hid (HG2.out.trans hg3)
    have HL3 := Lib.hid (show g + 1 ≤ w3.heap.size by rw [← HS2.out]; exact hg3.size)
    clear hg3 HP2 HG2 HS2 HA2 HW2
    obtain ⟨Q, hQQ⟩ : ∃ Q, invL P = Q := ⟨_, rfl⟩
    have HQE := Lib.hid hQQ
    rw [hQQ] at HQ HR HV2 ⊢
    clear hQQ HV1 HV2
    obtain ⟨q, hqq⟩ : ∃ q, w3.heap.size = q := ⟨_, rfl⟩
    rw [hqq] at HL3
    obtain ⟨W4, hW4⟩ : ∃ W4, w3.alloc (.cells zz 59) = W4 := ⟨_, rfl⟩
    have ha4 : ArrAt W4 q Z0 := by rw [← hW4, ← hqq, HZZ.out]; exact ArrAt.new w3 HZL.out
    have hg4 : w3.grownBy W4 none := by rw [← hW4]; exact World.grownBy_alloc _ _ _
    have HA4 := Lib.hid ha4
    have HW4 := Lib.hid (And.intro hW4 hqq)
    have HP4 := Lib.hid (ha4.putAll HQ.out.1)
    have HG4 := Lib.hid (gr_own (HG3.out.trans hg4) HP4.out.2 (fun k e => by have := HGG.out; have := HL3.out; cases e; omega))
    have HB4 := Lib.hid ((HA3.out.grown hg4 (by simp)).grown HP4.out.2 (by have := HL3.out; simp; omega))
    clear hW4 hqq ha4 hg4 HG3
    go_wp2_with (rw [HW4.out.1, HW4.out.2]; refine wp_store rfl (.tmp 4) (.tmp 14) rfl q rfl Z0 Q rfl HA4.out HQ.out.1 ?_)
    have ha : ArrAt (W4.setRow q (pvc Q)) g P := HB4.out
    have hq : ArrAt (W4.setRow q (pvc Q)) q Q := HP4.out.1
    have hG : w.grownBy (W4.setRow q (pvc Q)) none := HG4.out
    generalize W4.setRow q (pvc Q) = w5 at ha hq hG ⊢
    have hwg := HGG.out
    have hgq := HL3.out
    have hP := HP.out
    have hQ := HQ.out
    have hQE := HQE.out
    clear HA3 HA4 HW4 HP4 HG4 HB4 HZL HZZ hz HGG HL3
    have HGH := Lib.hid hG
    clear hwg hgq
    refine rg_all ?hp1 w g q P Q hP hQ hQE (fun W b Ks hM hmP hmQ hA hGW => ?_) w5 ha hq HGH.out
    case hp1 => exact fun _ _ d _ _ h => by cases d <;> exact h
    clear ha hq hG HGH
    go_wp2_with fail
    refine rg_look ?hp2 w g b P hP Q (invL Q) (decide (invL Q = P)) hQ HR.out hQE rfl rfl Ks hmP hmQ (fun W2 hG2 => ?_) W hM hA hGW
    case hp2 => exact fun _ _ d _ _ h => by cases d <;> exact h
    go_wp2_with fail
    go_ret
    refine ⟨?_, hG2⟩
    rw [hQE]
    rfl

end Go.Proofs.Ytpakihjkjdanlaa
