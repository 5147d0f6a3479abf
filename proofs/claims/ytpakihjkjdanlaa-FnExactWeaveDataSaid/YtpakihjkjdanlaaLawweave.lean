/- The law on WeaveData: for all arguments both functions answer alike, the answer owns its memory, and the arguments read as they did. No condition. -/
import Derived.Test.YtpakihjkjdanlaaWevI
import Derived.Test.YtpakihjkjdanlaaListArg
import Derived.Test.YtpakihjkjdanlaaOwnI
import Derived.Test.YtpakihjkjdanlaaGweave
namespace Go.Proofs.Ytpakihjkjdanlaa
open Go.ChangeShapes Go.WideShapes Go.ChangeAt Go.RowKit

set_option maxRecDepth 100000 in
set_option maxHeartbeats 8000000 in
theorem law_weave (A0 A1 A2 : Option Addr) (c0 c1 c2 : Nat) (L0 L1 L2 : List Int) (w : World) (hA0 : Ints w A0 L0) (hA1 : Ints w A1 L1) (hA2 : Ints w A2 L2) (hL0 : L0.length ≤ 9223372036854775807) (hL1 : L1.length ≤ 9223372036854775807) (hL2 : L2.length ≤ 9223372036854775807) :
    Calls Try.prog 10 #[.slice A0 L0.length c0, .slice A1 L1.length c1, .slice A2 L2.length c2] w fun e w' => e = .returned (.bool true) ∧ w.grownBy w' none := by
  have HA0 := Lib.hid hA0
  obtain ⟨n0, hn0⟩ : ∃ n, L0.length = n := ⟨_, rfl⟩
  have HN0 := Lib.hid hn0
  rw [hn0] at hL0 ⊢
  have HA1 := Lib.hid hA1
  obtain ⟨n1, hn1⟩ : ∃ n, L1.length = n := ⟨_, rfl⟩
  have HN1 := Lib.hid hn1
  rw [hn1] at hL1 ⊢
  have HA2 := Lib.hid hA2
  obtain ⟨n2, hn2⟩ : ∃ n, L2.length = n := ⟨_, rfl⟩
  have HN2 := Lib.hid hn2
  rw [hn2] at hL2 ⊢
  clear hA0 hA1 hA2 hn0 hn1 hn2
  by_cases h0 : 1048576 < n0
  · go_enter Try.func10, Try.ntmps10
    go_wp2_with fail
    go_ret
    exact ⟨rfl, gr_refl _ _⟩
  by_cases h1 : 1048576 < n1
  · go_enter Try.func10, Try.ntmps10
    go_wp2_with fail
    go_ret
    exact ⟨rfl, gr_refl _ _⟩
  by_cases h2 : 1048576 < n2
  · go_enter Try.func10, Try.ntmps10
    go_wp2_with fail
    go_ret
    exact ⟨rfl, gr_refl _ _⟩
  have HLL0 := Lib.hid (show L0.length ≤ 1048576 by have := HN0.out; omega)
  have HT0 := Lib.hid (fun u (hg : w.grownBy u none) => toi_any A0 c0 L0 u (HA0.out.grown hg (by simp)) HLL0.out)
  have HE0 := Lib.hid (fun A B c d w h h2 => eqi_draws A B c d L0 w h h2 HLL0.out)
  have HLL1 := Lib.hid (show L1.length ≤ 1048576 by have := HN1.out; omega)
  have HT1 := Lib.hid (fun u (hg : w.grownBy u none) => toi_any A1 c1 L1 u (HA1.out.grown hg (by simp)) HLL1.out)
  have HE1 := Lib.hid (fun A B c d w h h2 => eqi_draws A B c d L1 w h h2 HLL1.out)
  have HLL2 := Lib.hid (show L2.length ≤ 1048576 by have := HN2.out; omega)
  have HT2 := Lib.hid (fun u (hg : w.grownBy u none) => toi_any A2 c2 L2 u (HA2.out.grown hg (by simp)) HLL2.out)
  have HE2 := Lib.hid (fun A B c d w h h2 => eqi_draws A B c d L2 w h h2 HLL2.out)
  obtain ⟨zs0, R, hzl0, hw1, hw2⟩ := both_weave L0 L1 L2 HLL0.out HLL1.out HLL2.out
  have HW1 := Lib.hid hw1
  have HW2 := Lib.hid hw2
  have HEZ0 := Lib.hid (fun A B c d w h h2 => eqi_draws A B c d zs0 w h h2 hzl0)
  obtain ⟨z0, hz0⟩ : ∃ z, zs0.length = z := ⟨_, rfl⟩
  have HZ0 := Lib.hid hz0
  rw [hz0] at hzl0 HW1 HW2 HEZ0
  rw [HN0.out] at HT0 HE0
  have hnn0 : n0 ≤ 1048576 := by omega
  rw [HN1.out] at HT1 HE1
  have hnn1 : n1 ≤ 1048576 := by omega
  rw [HN2.out] at HT2 HE2
  have hnn2 : n2 ≤ 1048576 := by omega
  clear hw1 hw2 hz0
  have hRR : (R != R) = false := by simp
  go_enter Try.func10, Try.ntmps10
  go_wp2_with fail
  refine (HT0.out _ (gr_refl _ _)).mono ?_
  rintro e u1 ⟨rfl, hgu1, hou1⟩
  have HGu1 := Lib.hid hgu1
  have HI0 := Lib.hid (OwnI.of hou1 HN0.out)
  clear hgu1 hou1
  go_wp2_with fail
  refine (HT1.out _ HGu1.out).mono ?_
  rintro e u2 ⟨rfl, hgu2, hou2⟩
  have HGu2 := Lib.hid (HGu1.out.trans hgu2)
  have HI0 := Lib.hid (HI0.out.grown0 hgu2)
  have HI1 := Lib.hid (OwnI.of hou2 HN1.out)
  clear hgu2 hou2
  go_wp2_with fail
  refine (HT2.out _ HGu2.out).mono ?_
  rintro e u3 ⟨rfl, hgu3, hou3⟩
  have HGu3 := Lib.hid (HGu2.out.trans hgu3)
  have HI0 := Lib.hid (HI0.out.grown0 hgu3)
  have HI1 := Lib.hid (HI1.out.grown0 hgu3)
  have HI2 := Lib.hid (OwnI.of hou3 HN2.out)
  clear hgu3 hou3
  go_wp2_with fail
  refine (HW1.out _ _ _ _ HI0.out HI1.out HI2.out).mono ?_
  rintro e u4 ⟨S0, d0, rfl, hgu4, hi0⟩
  have HGS := Lib.hid (HGu3.out.trans hgu4)
  have HS0 := Lib.hid hi0
  clear HI0 HI1 HI2 hgu4 hi0
  go_wp2_with fail
  refine (HT0.out _ HGS.out).mono ?_
  rintro e u5 ⟨rfl, hgu5, hou5⟩
  have HBu5 := Lib.hid hgu5
  have HX0 := Lib.hid hou5
  have hs0 : u4.heap.size < u5.heap.size := (hou5.lt _ rfl).2
  clear hgu5 hou5
  go_wp2_with fail
  refine (HT1.out _ (HGS.out.trans HBu5.out)).mono ?_
  rintro e u6 ⟨rfl, hgu6, hou6⟩
  have HBu6 := Lib.hid (HBu5.out.trans hgu6)
  have HX0 := Lib.hid (own_keep HX0.out (fun g hg => hgu6.block g (HX0.out.lt g hg).2 (by simp)))
  have HX1 := Lib.hid hou6
  have hs1 : u5.heap.size < u6.heap.size := (hou6.lt _ rfl).2
  clear hgu6 hou6
  go_wp2_with fail
  refine (HT2.out _ (HGS.out.trans HBu6.out)).mono ?_
  rintro e u7 ⟨rfl, hgu7, hou7⟩
  have HBu7 := Lib.hid (HBu6.out.trans hgu7)
  have HX0 := Lib.hid (own_keep HX0.out (fun g hg => hgu7.block g (HX0.out.lt g hg).2 (by simp)))
  have HX1 := Lib.hid (own_keep HX1.out (fun g hg => hgu7.block g (HX1.out.lt g hg).2 (by simp)))
  have HX2 := Lib.hid hou7
  have hs2 : u6.heap.size < u7.heap.size := (hou7.lt _ rfl).2
  clear hgu7 hou7
  go_wp2_with fail
  refine (HW2.out _ _ _ _ (OwnI.of HX0.out HN0.out) (OwnI.of HX1.out HN1.out) (OwnI.of HX2.out HN2.out)).mono ?_
  rintro e u8 ⟨G0, Gc0, rfl, hgu8, ho0⟩
  have HBu8 := Lib.hid (HBu7.out.trans hgu8)
  have HX0 := Lib.hid (own_keep HX0.out (fun g hg => hgu8.block g (HX0.out.lt g hg).2 (by simp)))
  have HX1 := Lib.hid (own_keep HX1.out (fun g hg => hgu8.block g (HX1.out.lt g hg).2 (by simp)))
  have HX2 := Lib.hid (own_keep HX2.out (fun g hg => hgu8.block g (HX2.out.lt g hg).2 (by simp)))
  have HO0 := Lib.hid ho0
  clear hgu8 ho0
  have HE := Lib.hid (HEZ0.out G0 S0 Gc0 d0 u8 (Ints.of_own (e := 3) (by rw [HZ0.out]; exact HO0.out)) (HS0.out.grown HBu8.out (by simp)))
  go_wp2_with fail
  refine HE.out.mono ?_
  rintro e u9r ⟨rfl, u9q, rfl⟩
  have HBu9 := Lib.hid (HBu8.out.trans (gr_drewN u8 u9q none))
  have HX0 := Lib.hid (own_keep (w' := u8.drewN u9q) HX0.out (fun g hg => rfl))
  have HX1 := Lib.hid (own_keep (w' := u8.drewN u9q) HX1.out (fun g hg => rfl))
  have HX2 := Lib.hid (own_keep (w' := u8.drewN u9q) HX2.out (fun g hg => rfl))
  have HO0 := Lib.hid (own_keep (w' := u8.drewN u9q) HO0.out (fun g hg => rfl))
  generalize u8.drewN u9q = u9 at HBu9 HX0 HX1 HX2 HO0  ⊢
  clear HE
  go_wp2_with fail
  refine (HT0.out _ (HGS.out.trans HBu9.out)).mono ?_
  rintro e u10 ⟨rfl, hgu10, hou10⟩
  have HBu10 := Lib.hid (HBu9.out.trans hgu10)
  have HX0 := Lib.hid (own_keep HX0.out (fun g hg => hgu10.block g (HX0.out.lt g hg).2 (by simp)))
  have HX1 := Lib.hid (own_keep HX1.out (fun g hg => hgu10.block g (HX1.out.lt g hg).2 (by simp)))
  have HX2 := Lib.hid (own_keep HX2.out (fun g hg => hgu10.block g (HX2.out.lt g hg).2 (by simp)))
  have HO0 := Lib.hid (own_keep HO0.out (fun g hg => hgu10.block g (HO0.out.lt g hg).2 (by simp)))
  have HE := Lib.hid (HE0.out _ _ n0 n0 _ (Ints.of_own (e := 3) (by rw [HN0.out]; exact HX0.out)) (Ints.of_own (e := 3) (by rw [HN0.out]; exact hou10)))
  clear hgu10 hou10
  go_wp2_with fail
  refine HE.out.mono ?_
  rintro e u11r ⟨rfl, u11q, rfl⟩
  have HBu11 := Lib.hid (HBu10.out.trans (gr_drewN u10 u11q none))
  have HX0 := Lib.hid (own_keep (w' := u10.drewN u11q) HX0.out (fun g hg => rfl))
  have HX1 := Lib.hid (own_keep (w' := u10.drewN u11q) HX1.out (fun g hg => rfl))
  have HX2 := Lib.hid (own_keep (w' := u10.drewN u11q) HX2.out (fun g hg => rfl))
  have HO0 := Lib.hid (own_keep (w' := u10.drewN u11q) HO0.out (fun g hg => rfl))
  generalize u10.drewN u11q = u11 at HBu11 HX0 HX1 HX2 HO0  ⊢
  clear HE
  go_wp2_with fail
  refine (HT1.out _ (HGS.out.trans HBu11.out)).mono ?_
  rintro e u12 ⟨rfl, hgu12, hou12⟩
  have HBu12 := Lib.hid (HBu11.out.trans hgu12)
  have HX0 := Lib.hid (own_keep HX0.out (fun g hg => hgu12.block g (HX0.out.lt g hg).2 (by simp)))
  have HX1 := Lib.hid (own_keep HX1.out (fun g hg => hgu12.block g (HX1.out.lt g hg).2 (by simp)))
  have HX2 := Lib.hid (own_keep HX2.out (fun g hg => hgu12.block g (HX2.out.lt g hg).2 (by simp)))
  have HO0 := Lib.hid (own_keep HO0.out (fun g hg => hgu12.block g (HO0.out.lt g hg).2 (by simp)))
  have HE := Lib.hid (HE1.out _ _ n1 n1 _ (Ints.of_own (e := 3) (by rw [HN1.out]; exact HX1.out)) (Ints.of_own (e := 3) (by rw [HN1.out]; exact hou12)))
  clear hgu12 hou12
  go_wp2_with fail
  refine HE.out.mono ?_
  rintro e u13r ⟨rfl, u13q, rfl⟩
  have HBu13 := Lib.hid (HBu12.out.trans (gr_drewN u12 u13q none))
  have HX0 := Lib.hid (own_keep (w' := u12.drewN u13q) HX0.out (fun g hg => rfl))
  have HX1 := Lib.hid (own_keep (w' := u12.drewN u13q) HX1.out (fun g hg => rfl))
  have HX2 := Lib.hid (own_keep (w' := u12.drewN u13q) HX2.out (fun g hg => rfl))
  have HO0 := Lib.hid (own_keep (w' := u12.drewN u13q) HO0.out (fun g hg => rfl))
  generalize u12.drewN u13q = u13 at HBu13 HX0 HX1 HX2 HO0  ⊢
  clear HE
  go_wp2_with fail
  refine (HT2.out _ (HGS.out.trans HBu13.out)).mono ?_
  rintro e u14 ⟨rfl, hgu14, hou14⟩
  have HBu14 := Lib.hid (HBu13.out.trans hgu14)
  have HX0 := Lib.hid (own_keep HX0.out (fun g hg => hgu14.block g (HX0.out.lt g hg).2 (by simp)))
  have HX1 := Lib.hid (own_keep HX1.out (fun g hg => hgu14.block g (HX1.out.lt g hg).2 (by simp)))
  have HX2 := Lib.hid (own_keep HX2.out (fun g hg => hgu14.block g (HX2.out.lt g hg).2 (by simp)))
  have HO0 := Lib.hid (own_keep HO0.out (fun g hg => hgu14.block g (HO0.out.lt g hg).2 (by simp)))
  have HE := Lib.hid (HE2.out _ _ n2 n2 _ (Ints.of_own (e := 3) (by rw [HN2.out]; exact HX2.out)) (Ints.of_own (e := 3) (by rw [HN2.out]; exact hou14)))
  clear hgu14 hou14
  go_wp2_with fail
  refine HE.out.mono ?_
  rintro e u15r ⟨rfl, u15q, rfl⟩
  have HBu15 := Lib.hid (HBu14.out.trans (gr_drewN u14 u15q none))
  have HX0 := Lib.hid (own_keep (w' := u14.drewN u15q) HX0.out (fun g hg => rfl))
  have HX1 := Lib.hid (own_keep (w' := u14.drewN u15q) HX1.out (fun g hg => rfl))
  have HX2 := Lib.hid (own_keep (w' := u14.drewN u15q) HX2.out (fun g hg => rfl))
  have HO0 := Lib.hid (own_keep (w' := u14.drewN u15q) HO0.out (fun g hg => rfl))
  generalize u14.drewN u15q = u15 at HBu15 HX0 HX1 HX2 HO0  ⊢
  clear HE
  go_wp2_with fail
  refine (mark_any _ u4.heap.size n0 1 n0 _ u15 HX0.out hnn0 (by omega)).mono ?_
  rintro e u16 ⟨rfl, hgu16, _⟩
  have HBu16 := Lib.hid (gr_own HBu15.out hgu16 (fun k hk => by cases hk; show u4.heap.size ≤ u4.heap.size; omega))
  have HX1 := Lib.hid (own_keep HX1.out (fun g hg => hgu16.block g (HX1.out.lt g hg).2 (by cases hg; simp [Value.ownBlock]; omega)))
  have HX2 := Lib.hid (own_keep HX2.out (fun g hg => hgu16.block g (HX2.out.lt g hg).2 (by cases hg; simp [Value.ownBlock]; omega)))
  have HO0 := Lib.hid (own_keep HO0.out (fun g hg => hgu16.block g (HO0.out.lt g hg).2 (by have := (HO0.out.lt g hg).1; simp [Value.ownBlock]; omega)))
  clear hgu16
  obtain ⟨k0, hk0⟩ : ∃ k : Nat, 1 + n0 = k := ⟨_, rfl⟩
  rw [hk0]
  have hkb0 : k0 ≤ 1048577 := by omega
  have hkn0 : ¬ ((k0 : Int) < 0) := by omega
  clear hk0
  go_wp2_with fail
  refine (mark_any _ u5.heap.size n1 k0 n1 _ u16 HX1.out hnn1 (by omega)).mono ?_
  rintro e u17 ⟨rfl, hgu17, _⟩
  have HBu17 := Lib.hid (gr_own HBu16.out hgu17 (fun k hk => by cases hk; show u4.heap.size ≤ u5.heap.size; omega))
  have HX2 := Lib.hid (own_keep HX2.out (fun g hg => hgu17.block g (HX2.out.lt g hg).2 (by cases hg; simp [Value.ownBlock]; omega)))
  have HO0 := Lib.hid (own_keep HO0.out (fun g hg => hgu17.block g (HO0.out.lt g hg).2 (by have := (HO0.out.lt g hg).1; simp [Value.ownBlock]; omega)))
  clear hgu17
  obtain ⟨k1, hk1⟩ : ∃ k : Nat, k0 + n1 = k := ⟨_, rfl⟩
  rw [hk1]
  have hkb1 : k1 ≤ 2097153 := by omega
  have hkn1 : ¬ ((k1 : Int) < 0) := by omega
  clear hk1
  go_wp2_with fail
  refine (mark_any _ u6.heap.size n2 k1 n2 _ u17 HX2.out hnn2 (by omega)).mono ?_
  rintro e u18 ⟨rfl, hgu18, _⟩
  have HBu18 := Lib.hid (gr_own HBu17.out hgu18 (fun k hk => by cases hk; show u4.heap.size ≤ u6.heap.size; omega))
  have HO0 := Lib.hid (own_keep HO0.out (fun g hg => hgu18.block g (HO0.out.lt g hg).2 (by have := (HO0.out.lt g hg).1; simp [Value.ownBlock]; omega)))
  clear hgu18
  obtain ⟨k2, hk2⟩ : ∃ k : Nat, k1 + n2 = k := ⟨_, rfl⟩
  rw [hk2]
  have hkb2 : k2 ≤ 3145729 := by omega
  have hkn2 : ¬ ((k2 : Int) < 0) := by omega
  clear hk2
  have HE := Lib.hid (HEZ0.out G0 S0 Gc0 d0 u18 (Ints.of_own (e := 3) (by rw [HZ0.out]; exact HO0.out)) (HS0.out.grown HBu18.out (by simp)))
  go_wp2_with fail
  refine HE.out.mono ?_
  rintro e u19r ⟨rfl, u19q, rfl⟩
  have HBu19 := Lib.hid (HBu18.out.trans (gr_drewN u18 u19q none))
  have HO0 := Lib.hid (own_keep (w' := u18.drewN u19q) HO0.out (fun g hg => rfl))
  generalize u18.drewN u19q = u19 at HBu19 HO0  ⊢
  clear HE
  go_wp2_with fail
  refine (mark_any G0 u7.heap.size Gc0 1 z0 _ u19 HO0.out hzl0 (by omega)).mono ?_
  rintro e u20 ⟨rfl, hgu20, hou20⟩
  have HBu20 := Lib.hid (gr_own HBu19.out hgu20 (fun k hk => by have := (HO0.out.lt k hk).1; omega))
  have HM0 := Lib.hid hou20
  clear hgu20 hou20
  obtain ⟨m0, hm0⟩ : ∃ k : Nat, 1 + z0 = k := ⟨_, rfl⟩
  have HK0 := Lib.hid hm0
  rw [hm0]
  have hmb0 : m0 ≤ 1048577 := by omega
  have hmn0 : ¬ ((m0 : Int) < 0) := by omega
  clear hm0
  have hmm : ((m0 : Int) != (m0 : Int)) = false := by simp
  have HU0 := Lib.hid (show Ints u20 G0 (upFrom 1 z0) from Ints.of_own (e := 3) (by rw [upFrom_length]; exact HM0.out))
  go_wp2_with fail
  refine (held_any G0 Gc0 1 z0 _ HU0.out hzl0 (by omega)).mono ?_
  rintro e wq ⟨rfl, rfl⟩
  rw [HK0.out]
  go_wp2_with fail
  refine (HT0.out _ (HGS.out.trans HBu20.out)).mono ?_
  rintro e u21 ⟨rfl, hgu21, hou21⟩
  have HBu21 := Lib.hid (HBu20.out.trans hgu21)
  have HU0 := Lib.hid (HU0.out.grown hgu21 (by simp))
  have HY0 := Lib.hid (OwnI.of hou21 HN0.out)
  clear hgu21 hou21
  go_wp2_with fail
  refine (HT1.out _ (HGS.out.trans HBu21.out)).mono ?_
  rintro e u22 ⟨rfl, hgu22, hou22⟩
  have HBu22 := Lib.hid (HBu21.out.trans hgu22)
  have HU0 := Lib.hid (HU0.out.grown hgu22 (by simp))
  have HY0 := Lib.hid (HY0.out.grown0 hgu22)
  have HY1 := Lib.hid (OwnI.of hou22 HN1.out)
  clear hgu22 hou22
  go_wp2_with fail
  refine (HT2.out _ (HGS.out.trans HBu22.out)).mono ?_
  rintro e u23 ⟨rfl, hgu23, hou23⟩
  have HBu23 := Lib.hid (HBu22.out.trans hgu23)
  have HU0 := Lib.hid (HU0.out.grown hgu23 (by simp))
  have HY0 := Lib.hid (HY0.out.grown0 hgu23)
  have HY1 := Lib.hid (HY1.out.grown0 hgu23)
  have HY2 := Lib.hid (OwnI.of hou23 HN2.out)
  clear hgu23 hou23
  go_wp2_with fail
  refine (HW2.out _ _ _ _ HY0.out HY1.out HY2.out).mono ?_
  rintro e u24 ⟨H0, Hc0, rfl, hgu24, ho0⟩
  have HBu24 := Lib.hid (HBu23.out.trans hgu24)
  have HU0 := Lib.hid (HU0.out.grown hgu24 (by simp))
  have HV0 := Lib.hid ho0
  clear hgu24 ho0
  have HE := Lib.hid (HEZ0.out H0 S0 Hc0 d0 u24 (Ints.of_own (e := 3) (by rw [HZ0.out]; exact HV0.out)) (HS0.out.grown HBu24.out (by simp)))
  go_wp2_with fail
  refine HE.out.mono ?_
  rintro e u25r ⟨rfl, u25q, rfl⟩
  have HBu25 := Lib.hid (HBu24.out.trans (gr_drewN u24 u25q none))
  have HV0 := Lib.hid (own_keep (w' := u24.drewN u25q) HV0.out (fun g hg => rfl))
  have HU0 := Lib.hid (HU0.out.grown (gr_drewN u24 u25q none) (by simp))
  generalize u24.drewN u25q = u25 at HBu25 HV0 HU0 ⊢
  clear HE
  go_wp2_with fail
  refine (held_any G0 Gc0 1 z0 _ HU0.out hzl0 (by omega)).mono ?_
  rintro e wq ⟨rfl, rfl⟩
  rw [HK0.out]
  go_wp2_with fail
  go_ret
  exact ⟨rfl, HGS.out.trans HBu25.out⟩

set_option maxRecDepth 100000 in
theorem weave_lifted (os : Os) (started : os.Started) (H : Type) (enc : TypeId × Value → H) :
    ReturnsInHanded {} Try.checked os 10 .any (Rows.fnExactWeaveDataSpec.pre6 enc Try.prog Try.f10 Rows.fnExactWeaveDataRow.domain false) (Rows.fnExactWeaveDataSpec.post enc Try.prog Try.f10 false true false false) := by
  refine returnsInHanded_of_change (C := Try.checked) knob_own started (by kernel_rfl) Try.func10
    (ChangeSpec.witness6 (enc := enc) (C := Try.checked) false ⟨#[], #[.slice none 0 0, .slice none 0 0, .slice none 0 0], []⟩ 8 (by kernel_rfl) (by kernel_rfl) (by kernel_rfl) (by kernel_rfl)) ?_
  intro W base args ds gs before hval0 hW hcnd _
  have hval : ∀ (j : Nat) t v, Try.f10.params[j]? = some t → args[j]? = some v → Value.okWide Try.prog W .any base t v := hval0
  have hW' := hW
  obtain ⟨p, q, hA0, hV, rfl, hfz, hnd⟩ := hW
  have hA : DataW.TrodAll enc Try.prog W 0 (fun _ => true) true Try.f10.params.toList args.toList ds p := hA0
  rw [Try.params10] at hA hval
  obtain ⟨v0, v1, v2, d0, d1, d2, p0, p1, p2, rfl, rfl, rfl, h0, h1, h2⟩ := trodAll_three hA
  obtain ⟨rfl, rfl⟩ := trodVars_none hV
  obtain ⟨A0, c0, L0, rfl, a0, b0⟩ := open_ints1 (hval 0 22 v0 rfl rfl) h0
  obtain ⟨A1, c1, L1, rfl, a1, b1⟩ := open_ints1 (hval 1 22 v1 rfl rfl) h1
  obtain ⟨A2, c2, L2, rfl, a2, b2⟩ := open_ints1 (hval 2 22 v2 rfl rfl) h2
  clear hA0 hval0
  simp only [List.append_nil] at hW'
  have hlt : ∀ x ∈ p0 ++ p1 ++ p2, x.block < W.heap.size := fun x hx => by simpa using hW'.lt x hx
  refine (law_weave A0 A1 A2 c0 c1 c2 L0 L1 L2 W b0 b1 b2 a0 a1 a2).mono fun e W' ⟨he, hg⟩ => ?_
  subst he
  refine ⟨_, rfl, _, _, _, [], p0 ++ p1 ++ p2, [], hW', ?_, ?_, rfl, (below_of hg).frame _, fun h => by cases h⟩
  · exact trodAll_mk1 (shut_bool Try.underlying4 _)
  · rw [List.append_assoc]
    exact trodAll_mk3 (Below.trod laid_out (by kernel_rfl) (of_decide_eq_true (by kernel_rfl)) h0 (below_of hg) (fun x hx => hlt x (by simp [hx])))
      (Below.trod laid_out (by kernel_rfl) (of_decide_eq_true (by kernel_rfl)) h1 (below_of hg) (fun x hx => hlt x (by simp [hx])))
      (Below.trod laid_out (by kernel_rfl) (of_decide_eq_true (by kernel_rfl)) h2 (below_of hg) (fun x hx => hlt x (by simp [hx])))

theorem weave_holds : Rows.FnExactWeaveDataSaid :=
  OpenClaim.holds_of_wide 10 Try.f10 rfl rfl rfl rfl rfl rfl rfl ⟨rfl, rfl, rfl, rfl, rfl⟩ rfl rfl rfl rfl rfl fweave_name Try.func10 fweave_all fweave_inst fweave_wrap
    (fun os started H enc _ => weave_lifted os started H enc)

#print axioms weave_holds

end Go.Proofs.Ytpakihjkjdanlaa
