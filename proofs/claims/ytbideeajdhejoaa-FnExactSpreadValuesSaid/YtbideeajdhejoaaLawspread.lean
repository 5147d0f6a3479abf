/- The law on SpreadValues: for all arguments both functions answer alike, the answer owns its memory, and the arguments read as they did. No condition. -/
import Derived.Test.YtbideeajdhejoaaIntB
import Derived.Test.YtbideeajdhejoaaBothspread
import Derived.Test.YtbideeajdhejoaaListArg
import Derived.Test.YtbideeajdhejoaaOwnI
import Derived.Test.YtbideeajdhejoaaGspread
namespace Go.Proofs.Ytbideeajdhejoaa
open Go.ChangeShapes Go.WideShapes Go.ChangeAt Go.RowKit

set_option maxHeartbeats 4000000 in
theorem law_spread (A B : Option Addr) (c d : Nat) (L D : List Int) (w : World) (hA : Ints w A L) (hB : Ints w B D) (hL : L.length ≤ 9223372036854775807) (hD : D.length ≤ 9223372036854775807) :
    Calls Try.prog 10 #[.slice A L.length c, .slice B D.length d] w fun e w' => e = .returned (.bool true) ∧ w.grownBy w' none := by
  have HA := Lib.hid hA
  have HB := Lib.hid hB
  obtain ⟨n, hn⟩ : ∃ n, L.length = n := ⟨_, rfl⟩
  obtain ⟨m, hm⟩ : ∃ m, D.length = m := ⟨_, rfl⟩
  have HN := Lib.hid hn
  have HM := Lib.hid hm
  rw [hn] at hL ⊢
  rw [hm] at hD ⊢
  clear hA hB hn hm
  by_cases h1 : 1048576 < n
  · go_enter Try.func10, Try.ntmps10
    go_wp2_with fail
    go_ret
    exact ⟨rfl, gr_refl _ _⟩
  by_cases h2 : 1048576 < m
  · go_enter Try.func10, Try.ntmps10
    go_wp2_with fail
    go_ret
    exact ⟨rfl, gr_refl _ _⟩
  have HLL := Lib.hid (show L.length ≤ 1048576 by have := HN.out; omega)
  have HDL := Lib.hid (show D.length ≤ 1048576 by have := HM.out; omega)
  have HTA := Lib.hid (fun u (hg : w.grownBy u none) => toi_any A c L u (HA.out.grown hg (by simp)) HLL.out)
  have HTB := Lib.hid (fun u (hg : w.grownBy u none) => toi_any B d D u (HB.out.grown hg (by simp)) HDL.out)
  have HEA := Lib.hid (fun A B c d w h h2 => eqi_draws A B c d L w h h2 HLL.out)
  have HEB := Lib.hid (fun A B c d w h h2 => eqi_draws A B c d D w h h2 HDL.out)
  obtain ⟨zs, R, hzl, hw1, hw2⟩ := both_spread L D HLL.out HDL.out
  have HW1 := Lib.hid hw1
  have HW2 := Lib.hid hw2
  have HEZ := Lib.hid (fun A B c d w h h2 => eqi_draws A B c d zs w h h2 hzl)
  obtain ⟨z, hz⟩ : ∃ z, zs.length = z := ⟨_, rfl⟩
  have HZ := Lib.hid hz
  rw [hz] at hzl HW1 HW2 HEZ
  rw [HN.out] at HTA HEA
  rw [HM.out] at HTB HEB
  have hn1 : n ≤ 1048576 := by omega
  have hm1 : m ≤ 1048576 := by omega
  clear hw1 hw2 hz
  have hRR : (R != R) = false := by simp
  go_enter Try.func10, Try.ntmps10
  go_wp2_with fail
  refine (HTA.out _ (gr_refl _ _)).mono ?_
  rintro e w1 ⟨rfl, hg1, ho1⟩
  have HG1 := Lib.hid hg1
  have HI1 := Lib.hid (OwnI.of ho1 HN.out)
  clear hg1 ho1
  go_wp2_with fail
  refine (HTB.out _ HG1.out).mono ?_
  rintro e w2 ⟨rfl, hg2, ho2⟩
  have HG2 := Lib.hid (HG1.out.trans hg2)
  have HI1 := Lib.hid (HI1.out.grown0 hg2)
  have HI2 := Lib.hid (OwnI.of ho2 HM.out)
  clear hg2 ho2
  go_wp2_with fail
  refine (HW1.out _ _ _ HI1.out HI2.out).mono ?_
  rintro e w3 ⟨A3, c3, rfl, hg3, hi3⟩
  have HG3 := Lib.hid (HG2.out.trans hg3)
  have HI3 := Lib.hid hi3
  clear HI1 HI2 hg3 hi3
  go_wp2_with fail
  refine (HTA.out _ HG3.out).mono ?_
  rintro e w4 ⟨rfl, hg4, ho4⟩
  have HB4 := Lib.hid hg4
  have HX0 := Lib.hid ho4
  have hs4 : w3.heap.size < w4.heap.size := (ho4.lt _ rfl).2
  clear hg4 ho4
  go_wp2_with fail
  refine (HTB.out _ (HG3.out.trans HB4.out)).mono ?_
  rintro e w5 ⟨rfl, hg5, ho5⟩
  have HB5 := Lib.hid (HB4.out.trans hg5)
  have HX0 := Lib.hid (own_keep HX0.out (fun g hg => hg5.block g (HX0.out.lt g hg).2 (by simp)))
  have HX1 := Lib.hid ho5
  have hs5 : w4.heap.size < w5.heap.size := (ho5.lt _ rfl).2
  clear hg5 ho5
  go_wp2_with fail
  refine (HW2.out _ _ _ (OwnI.of HX0.out HN.out) (OwnI.of HX1.out HM.out)).mono ?_
  rintro e w6 ⟨A6, c6, rfl, hg6, ho6⟩
  have HB6 := Lib.hid (HB5.out.trans hg6)
  have HX0 := Lib.hid (own_keep HX0.out (fun g hg => hg6.block g (HX0.out.lt g hg).2 (by simp)))
  have HX1 := Lib.hid (own_keep HX1.out (fun g hg => hg6.block g (HX1.out.lt g hg).2 (by simp)))
  have HO := Lib.hid ho6
  have HE := Lib.hid (HEZ.out A6 A3 c6 c3 w6 (Ints.of_own (e := 3) (by rw [HZ.out]; exact ho6)) (HI3.out.grown HB6.out (by simp)))
  clear hg6 ho6
  go_wp2_with fail
  refine HE.out.mono ?_
  rintro e w7 ⟨rfl, q7, rfl⟩
  have HB7 := Lib.hid (HB6.out.trans (gr_drewN w6 q7 none))
  have HX0 := Lib.hid (own_keep (w' := w6.drewN q7) HX0.out (fun g hg => rfl))
  have HX1 := Lib.hid (own_keep (w' := w6.drewN q7) HX1.out (fun g hg => rfl))
  have HO := Lib.hid (own_keep (w' := w6.drewN q7) HO.out (fun g hg => rfl))
  clear HE
  generalize w6.drewN q7 = w7 at HB7 HX0 HX1 HO ⊢
  go_wp2_with fail
  refine (HTA.out _ (HG3.out.trans HB7.out)).mono ?_
  rintro e w8 ⟨rfl, hg8, ho8⟩
  have HB8 := Lib.hid (HB7.out.trans hg8)
  have HX0 := Lib.hid (own_keep HX0.out (fun g hg => hg8.block g (HX0.out.lt g hg).2 (by simp)))
  have HX1 := Lib.hid (own_keep HX1.out (fun g hg => hg8.block g (HX1.out.lt g hg).2 (by simp)))
  have HO := Lib.hid (own_keep HO.out (fun g hg => hg8.block g (HO.out.lt g hg).2 (by simp)))
  have HE := Lib.hid (HEA.out _ _ n n _ (Ints.of_own (e := 3) (by rw [HN.out]; exact HX0.out)) (Ints.of_own (e := 3) (by rw [HN.out]; exact ho8)))
  clear hg8 ho8
  go_wp2_with fail
  refine HE.out.mono ?_
  rintro e w9 ⟨rfl, q9, rfl⟩
  have HB9 := Lib.hid (HB8.out.trans (gr_drewN w8 q9 none))
  have HX0 := Lib.hid (own_keep (w' := w8.drewN q9) HX0.out (fun g hg => rfl))
  have HX1 := Lib.hid (own_keep (w' := w8.drewN q9) HX1.out (fun g hg => rfl))
  have HO := Lib.hid (own_keep (w' := w8.drewN q9) HO.out (fun g hg => rfl))
  clear HE
  generalize w8.drewN q9 = w9 at HB9 HX0 HX1 HO ⊢
  go_wp2_with fail
  refine (HTB.out _ (HG3.out.trans HB9.out)).mono ?_
  rintro e w10 ⟨rfl, hg10, ho10⟩
  have HB10 := Lib.hid (HB9.out.trans hg10)
  have HX0 := Lib.hid (own_keep HX0.out (fun g hg => hg10.block g (HX0.out.lt g hg).2 (by simp)))
  have HX1 := Lib.hid (own_keep HX1.out (fun g hg => hg10.block g (HX1.out.lt g hg).2 (by simp)))
  have HO := Lib.hid (own_keep HO.out (fun g hg => hg10.block g (HO.out.lt g hg).2 (by simp)))
  have HE := Lib.hid (HEB.out _ _ m m _ (Ints.of_own (e := 3) (by rw [HM.out]; exact HX1.out)) (Ints.of_own (e := 3) (by rw [HM.out]; exact ho10)))
  clear hg10 ho10
  go_wp2_with fail
  refine HE.out.mono ?_
  rintro e w11 ⟨rfl, q11, rfl⟩
  have HB11 := Lib.hid (HB10.out.trans (gr_drewN w10 q11 none))
  have HX0 := Lib.hid (own_keep (w' := w10.drewN q11) HX0.out (fun g hg => rfl))
  have HX1 := Lib.hid (own_keep (w' := w10.drewN q11) HX1.out (fun g hg => rfl))
  have HO := Lib.hid (own_keep (w' := w10.drewN q11) HO.out (fun g hg => rfl))
  clear HE
  generalize w10.drewN q11 = w11 at HB11 HX0 HX1 HO ⊢
  go_wp2_with fail
  refine (mark_any _ w3.heap.size n 1 n _ w11 HX0.out hn1 (by omega)).mono ?_
  rintro e w12 ⟨rfl, hg12, _⟩
  have HB12 := Lib.hid (gr_ownF HB11.out hg12 (fun k hk => by cases hk; exact Nat.le_refl _))
  have HX1 := Lib.hid (own_keep HX1.out (fun g hg => hg12.block g (HX1.out.lt g hg).2 (by cases hg; simp [Value.ownBlock]; omega)))
  have HO := Lib.hid (own_keep HO.out (fun g hg => hg12.block g (HO.out.lt g hg).2 (by have := (HO.out.lt g hg).1; simp [Value.ownBlock]; omega)))
  clear hg12
  obtain ⟨k1, hk1⟩ : ∃ k : Nat, 1 + n = k := ⟨_, rfl⟩
  rw [hk1]
  have hk1b : k1 ≤ 1048577 := by omega
  clear hk1
  go_wp2_with fail
  refine (mark_any _ w4.heap.size m k1 m _ w12 HX1.out hm1 (by omega)).mono ?_
  rintro e w13 ⟨rfl, hg13, _⟩
  have HB13 := Lib.hid (gr_ownF HB12.out hg13 (fun k hk => by cases hk; show w3.heap.size ≤ w4.heap.size; omega))
  have HO := Lib.hid (own_keep HO.out (fun g hg => hg13.block g (HO.out.lt g hg).2 (by have := (HO.out.lt g hg).1; simp [Value.ownBlock]; omega)))
  have HE := Lib.hid (HEZ.out A6 A3 c6 c3 w13 (Ints.of_own (e := 3) (by rw [HZ.out]; exact HO.out)) (HI3.out.grown HB13.out (by simp)))
  clear hg13
  obtain ⟨k2, hk2⟩ : ∃ k : Nat, k1 + m = k := ⟨_, rfl⟩
  rw [hk2]
  have hk2n : ¬ ((k2 : Int) < 0) := by omega
  clear hk2
  go_wp2_with fail
  refine HE.out.mono ?_
  rintro e w14 ⟨rfl, q14, rfl⟩
  have HB14 := Lib.hid (HB13.out.trans (gr_drewN w13 q14 none))
  have HO := Lib.hid (own_keep (w' := w13.drewN q14) HO.out (fun g hg => rfl))
  clear HE
  generalize w13.drewN q14 = w14 at HB14 HO ⊢
  go_wp2_with fail
  refine (mark_any A6 w5.heap.size c6 1 z _ w14 HO.out hzl (by omega)).mono ?_
  rintro e w15 ⟨rfl, hg15, ho15⟩
  have HB15 := Lib.hid (gr_ownF HB14.out hg15 (fun k hk => by have := (HO.out.lt k hk).1; omega))
  have HU := Lib.hid (show Ints w15 A6 (upFrom 1 z) from Ints.of_own (e := 3) (by rw [upFrom_length]; exact ho15))
  clear hg15 ho15
  obtain ⟨k3, hk3⟩ : ∃ k : Nat, 1 + z = k := ⟨_, rfl⟩
  have HK3 := Lib.hid hk3
  rw [hk3]
  have hk3n : ¬ ((k3 : Int) < 0) := by omega
  have hk33 : ((k3 : Int) != (k3 : Int)) = false := by simp
  clear hk3
  go_wp2_with fail
  refine (held_any A6 c6 1 z w15 HU.out hzl (by omega)).mono ?_
  rintro e w15' ⟨rfl, rfl⟩
  rw [HK3.out]
  go_wp2_with fail
  refine (HTA.out _ (HG3.out.trans HB15.out)).mono ?_
  rintro e w16 ⟨rfl, hg16, ho16⟩
  have HB16 := Lib.hid (HB15.out.trans hg16)
  have HU := Lib.hid (HU.out.grown hg16 (by simp))
  have HX0 := Lib.hid (OwnI.of ho16 HN.out)
  clear hg16 ho16
  go_wp2_with fail
  refine (HTB.out _ (HG3.out.trans HB16.out)).mono ?_
  rintro e w17 ⟨rfl, hg17, ho17⟩
  have HB17 := Lib.hid (HB16.out.trans hg17)
  have HU := Lib.hid (HU.out.grown hg17 (by simp))
  have HX0 := Lib.hid (HX0.out.grown0 hg17)
  have HX1 := Lib.hid (OwnI.of ho17 HM.out)
  clear hg17 ho17
  go_wp2_with fail
  refine (HW2.out _ _ _ HX0.out HX1.out).mono ?_
  rintro e w18 ⟨A18, c18, rfl, hg18, ho18⟩
  have HB18 := Lib.hid (HB17.out.trans hg18)
  have HU := Lib.hid (HU.out.grown hg18 (by simp))
  have HE := Lib.hid (HEZ.out A18 A3 c18 c3 w18 (Ints.of_own (e := 3) (by rw [HZ.out]; exact ho18)) (HI3.out.grown HB18.out (by simp)))
  clear hg18 ho18
  go_wp2_with fail
  refine HE.out.mono ?_
  rintro e w19 ⟨rfl, q19, rfl⟩
  have HB19 := Lib.hid (HB18.out.trans (gr_drewN w18 q19 none))
  have HU := Lib.hid (HU.out.grown (gr_drewN w18 q19 none) (by simp))
  clear HE
  go_wp2_with fail
  refine (held_any A6 c6 1 z _ HU.out hzl (by omega)).mono ?_
  rintro e w19' ⟨rfl, rfl⟩
  rw [HK3.out]
  go_wp2_with fail
  go_ret
  exact ⟨rfl, HG3.out.trans HB19.out⟩

set_option maxRecDepth 100000 in
theorem spread_lifted (os : Os) (started : os.Started) (H : Type) (enc : TypeId × Value → H) :
    ReturnsInHanded {} Try.checked os 10 .any (Rows.fnExactSpreadValuesSpec.pre6 enc Try.prog Try.f10 Rows.fnExactSpreadValuesRow.domain false) (Rows.fnExactSpreadValuesSpec.post enc Try.prog Try.f10 false true false false) := by
  refine returnsInHanded_of_change (C := Try.checked) knob_own started (by kernel_rfl) Try.func10
    (ChangeSpec.witness6 (enc := enc) (C := Try.checked) false ⟨#[], #[.slice none 0 0, .slice none 0 0], []⟩ 8 (by kernel_rfl) (by kernel_rfl) (by kernel_rfl) (by kernel_rfl)) ?_
  intro W base args ds gs before hval0 hW hcnd _
  have hval : ∀ (j : Nat) t v, Try.f10.params[j]? = some t → args[j]? = some v → Value.okWide Try.prog W .any base t v := hval0
  have hW' := hW
  obtain ⟨p, q, hA0, hV, rfl, hfz, hnd⟩ := hW
  have hA : DataW.TrodAll enc Try.prog W 0 (fun _ => true) true Try.f10.params.toList args.toList ds p := hA0
  rw [Try.params10] at hA hval
  obtain ⟨v0, v1, d0, d1, p0, p1, rfl, rfl, rfl, h0, h1⟩ := trodAll_two hA
  obtain ⟨rfl, rfl⟩ := trodVars_none hV
  obtain ⟨A, c, L, rfl, a1, a3⟩ := open_ints1 (hval 0 23 v0 rfl rfl) h0
  obtain ⟨B, d, D, rfl, b1, b3⟩ := open_ints1 (hval 1 23 v1 rfl rfl) h1
  clear hA0 hval0
  simp only [List.append_nil] at hW'
  have hlt : ∀ x ∈ p0 ++ p1, x.block < W.heap.size := fun x hx => by simpa using hW'.lt x hx
  refine (law_spread A B c d L D W a3 b3 a1 b1).mono fun e W' ⟨he, hg⟩ => ?_
  subst he
  refine ⟨_, rfl, _, _, _, [], p0 ++ p1, [], hW', ?_, ?_, rfl, (below_of hg).frame _, fun h => by cases h⟩
  · exact trodAll_mk1 (shut_bool Try.underlying4 _)
  · exact trodAll_mk2 (Below.trod laid_out (by kernel_rfl) (of_decide_eq_true (by kernel_rfl)) h0 (below_of hg) (fun x hx => hlt x (List.mem_append_left _ hx)))
      (Below.trod laid_out (by kernel_rfl) (of_decide_eq_true (by kernel_rfl)) h1 (below_of hg) (fun x hx => hlt x (List.mem_append_right _ hx)))

theorem spread_holds : Rows.FnExactSpreadValuesSaid :=
  OpenClaim.holds_of_wide 10 Try.f10 rfl rfl rfl rfl rfl rfl rfl ⟨rfl, rfl, rfl, rfl, rfl⟩ rfl rfl rfl rfl rfl fspread_name Try.func10 fspread_all fspread_inst fspread_wrap
    (fun os started H enc _ => spread_lifted os started H enc)

#print axioms spread_holds

end Go.Proofs.Ytbideeajdhejoaa
