/- The law on CountUp: for all arguments both functions answer alike, the answer owns its memory, and the arguments read as they did. No condition. -/
import Derived.Test.YtpakihjkjdanlabCountI
import Derived.Test.YtpakihjkjdanlabListArg
import Derived.Test.YtpakihjkjdanlabOwnI
import Derived.Test.YtpakihjkjdanlabGcountup
namespace Go.Proofs.Ytpakihjkjdanlab
open Go.ChangeShapes Go.WideShapes Go.ChangeAt Go.RowKit

set_option maxHeartbeats 4000000 in
theorem law_countup (A : Option Addr) (c : Nat) (L : List Int) (w : World) (hA : Ints w A L) (hL : L.length ≤ 9223372036854775807) :
    Calls Try.prog 8 #[.slice A L.length c] w fun e w' => e = .returned (.bool true) ∧ w.grownBy w' none := by
  have HA := Lib.hid hA
  obtain ⟨n, hn⟩ : ∃ n, L.length = n := ⟨_, rfl⟩
  have HN := Lib.hid hn
  rw [hn] at hL ⊢
  clear hA hn
  by_cases h1 : 1048576 < n
  · go_enter Try.func8, Try.ntmps8
    go_wp2_with fail
    go_ret
    exact ⟨rfl, gr_refl _ _⟩
  have HLL := Lib.hid (show L.length ≤ 1048576 by have := HN.out; omega)
  have HTA := Lib.hid (fun u (hg : w.grownBy u none) => toi_any A c L u (HA.out.grown hg (by simp)) HLL.out)
  have HEA := Lib.hid (fun A B c d w h h2 => eqi_draws A B c d L w h h2 HLL.out)
  obtain ⟨zs, R, hzl, hw1, hw2⟩ := both_countup L HLL.out
  have HW1 := Lib.hid hw1
  have HW2 := Lib.hid hw2
  have HEZ := Lib.hid (fun A B c d w h h2 => eqi_draws A B c d zs w h h2 hzl)
  obtain ⟨z, hz⟩ : ∃ z, zs.length = z := ⟨_, rfl⟩
  have HZ := Lib.hid hz
  rw [hz] at hzl HW1 HW2 HEZ
  rw [HN.out] at HTA HEA
  have hn1 : n ≤ 1048576 := by omega
  clear hw1 hw2 hz
  have hRR : (R != R) = false := by simp
  go_enter Try.func8, Try.ntmps8
  go_wp2_with fail
  refine (HTA.out _ (gr_refl _ _)).mono ?_
  rintro e w1 ⟨rfl, hg1, ho1⟩
  have HG1 := Lib.hid hg1
  have HI1 := Lib.hid (OwnI.of ho1 HN.out)
  clear hg1 ho1
  go_wp2_with fail
  refine (HW1.out _ _ HI1.out).mono ?_
  rintro e w3 ⟨A3, c3, rfl, hg3, hi3⟩
  have HG3 := Lib.hid (HG1.out.trans hg3)
  have HI3 := Lib.hid hi3
  clear HI1 hg3 hi3
  go_wp2_with fail
  refine (HTA.out _ HG3.out).mono ?_
  rintro e w4 ⟨rfl, hg4, ho4⟩
  have HB4 := Lib.hid hg4
  have HX0 := Lib.hid ho4
  have hs4 : w3.heap.size < w4.heap.size := (ho4.lt _ rfl).2
  clear hg4 ho4
  go_wp2_with fail
  refine (HW2.out _ _ (OwnI.of HX0.out HN.out)).mono ?_
  rintro e w6 ⟨A6, c6, rfl, hg6, ho6⟩
  have HB6 := Lib.hid (HB4.out.trans hg6)
  have HX0 := Lib.hid (own_keep HX0.out (fun g hg => hg6.block g (HX0.out.lt g hg).2 (by simp)))
  have HO := Lib.hid ho6
  have HE := Lib.hid (HEZ.out A6 A3 c6 c3 w6 (Ints.of_own (e := 3) (by rw [HZ.out]; exact ho6)) (HI3.out.grown HB6.out (by simp)))
  clear hg6 ho6
  go_wp2_with fail
  refine HE.out.mono ?_
  rintro e w7 ⟨rfl, q7, rfl⟩
  have HB7 := Lib.hid (HB6.out.trans (gr_drewN w6 q7 none))
  have HX0 := Lib.hid (own_keep (w' := w6.drewN q7) HX0.out (fun g hg => rfl))
  have HO := Lib.hid (own_keep (w' := w6.drewN q7) HO.out (fun g hg => rfl))
  clear HE
  generalize w6.drewN q7 = w7 at HB7 HX0 HO ⊢
  go_wp2_with fail
  refine (HTA.out _ (HG3.out.trans HB7.out)).mono ?_
  rintro e w8 ⟨rfl, hg8, ho8⟩
  have HB8 := Lib.hid (HB7.out.trans hg8)
  have HX0 := Lib.hid (own_keep HX0.out (fun g hg => hg8.block g (HX0.out.lt g hg).2 (by simp)))
  have HO := Lib.hid (own_keep HO.out (fun g hg => hg8.block g (HO.out.lt g hg).2 (by simp)))
  have HE := Lib.hid (HEA.out _ _ n n _ (Ints.of_own (e := 3) (by rw [HN.out]; exact HX0.out)) (Ints.of_own (e := 3) (by rw [HN.out]; exact ho8)))
  clear hg8 ho8
  go_wp2_with fail
  refine HE.out.mono ?_
  rintro e w9 ⟨rfl, q9, rfl⟩
  have HB9 := Lib.hid (HB8.out.trans (gr_drewN w8 q9 none))
  have HX0 := Lib.hid (own_keep (w' := w8.drewN q9) HX0.out (fun g hg => rfl))
  have HO := Lib.hid (own_keep (w' := w8.drewN q9) HO.out (fun g hg => rfl))
  clear HE
  generalize w8.drewN q9 = w9 at HB9 HX0 HO ⊢
  go_wp2_with fail
  refine (mark_any _ w3.heap.size n 1 n _ w9 HX0.out hn1 (by omega)).mono ?_
  rintro e w12 ⟨rfl, hg12, _⟩
  have HB12 := Lib.hid (gr_own HB9.out hg12 (fun k hk => by cases hk; exact Nat.le_refl _))
  have HO := Lib.hid (own_keep HO.out (fun g hg => hg12.block g (HO.out.lt g hg).2 (by have := (HO.out.lt g hg).1; simp [Value.ownBlock]; omega)))
  clear hg12
  have HE := Lib.hid (HEZ.out A6 A3 c6 c3 w12 (Ints.of_own (e := 3) (by rw [HZ.out]; exact HO.out)) (HI3.out.grown HB12.out (by simp)))
  obtain ⟨k2, hk2⟩ : ∃ k : Nat, 1 + n = k := ⟨_, rfl⟩
  rw [hk2]
  have hk2n : ¬ ((k2 : Int) < 0) := by omega
  clear hk2
  go_wp2_with fail
  refine HE.out.mono ?_
  rintro e w14 ⟨rfl, q14, rfl⟩
  have HB14 := Lib.hid (HB12.out.trans (gr_drewN w12 q14 none))
  have HO := Lib.hid (own_keep (w' := w12.drewN q14) HO.out (fun g hg => rfl))
  clear HE
  generalize w12.drewN q14 = w14 at HB14 HO ⊢
  go_wp2_with fail
  refine (mark_any A6 w4.heap.size c6 1 z _ w14 HO.out hzl (by omega)).mono ?_
  rintro e w15 ⟨rfl, hg15, ho15⟩
  have HB15 := Lib.hid (gr_own HB14.out hg15 (fun k hk => by have := (HO.out.lt k hk).1; omega))
  have HU := Lib.hid (show Ints w15 A6 (upFrom 1 z) from Ints.of_own (e := 3) (by rw [upFrom_length]; exact ho15))
  clear hg15 ho15
  obtain ⟨k3, hk3⟩ : ∃ k : Nat, 1 + z = k := ⟨_, rfl⟩
  have HK3 := Lib.hid hk3
  rw [hk3]
  have hk3n : ¬ ((k3 : Int) < 0) := by omega
  have hk33 : ((k3 : Int) != (k3 : Int)) = false := by simp
  clear hk3
  go_wp2_with fail
  refine (held_any A6 c6 1 z w15 HU.out hzl (by omega)).mono ?_
  rintro e w15' ⟨rfl, rfl⟩
  rw [HK3.out]
  go_wp2_with fail
  refine (HTA.out _ (HG3.out.trans HB15.out)).mono ?_
  rintro e w16 ⟨rfl, hg16, ho16⟩
  have HB16 := Lib.hid (HB15.out.trans hg16)
  have HU := Lib.hid (HU.out.grown hg16 (by simp))
  have HX0 := Lib.hid (OwnI.of ho16 HN.out)
  clear hg16 ho16
  go_wp2_with fail
  refine (HW2.out _ _ HX0.out).mono ?_
  rintro e w18 ⟨A18, c18, rfl, hg18, ho18⟩
  have HB18 := Lib.hid (HB16.out.trans hg18)
  have HU := Lib.hid (HU.out.grown hg18 (by simp))
  have HE := Lib.hid (HEZ.out A18 A3 c18 c3 w18 (Ints.of_own (e := 3) (by rw [HZ.out]; exact ho18)) (HI3.out.grown HB18.out (by simp)))
  clear hg18 ho18
  go_wp2_with fail
  refine HE.out.mono ?_
  rintro e w19 ⟨rfl, q19, rfl⟩
  have HB19 := Lib.hid (HB18.out.trans (gr_drewN w18 q19 none))
  have HU := Lib.hid (HU.out.grown (gr_drewN w18 q19 none) (by simp))
  clear HE
  go_wp2_with fail
  refine (held_any A6 c6 1 z _ HU.out hzl (by omega)).mono ?_
  rintro e w19' ⟨rfl, rfl⟩
  rw [HK3.out]
  go_wp2_with fail
  go_ret
  exact ⟨rfl, HG3.out.trans HB19.out⟩

set_option maxRecDepth 100000 in
theorem countup_lifted (os : Os) (started : os.Started) (H : Type) (enc : TypeId × Value → H) :
    ReturnsInHanded {} Try.checked os 8 .any (Rows.fnExactCountUpSpec.pre6 enc Try.prog Try.f8 Rows.fnExactCountUpRow.domain false) (Rows.fnExactCountUpSpec.post enc Try.prog Try.f8 false true false false) := by
  refine returnsInHanded_of_change (C := Try.checked) knob_own started (by kernel_rfl) Try.func8
    (ChangeSpec.witness6 (enc := enc) (C := Try.checked) false ⟨#[], #[.slice none 0 0], []⟩ 8 (by kernel_rfl) (by kernel_rfl) (by kernel_rfl) (by kernel_rfl)) ?_
  intro W base args ds gs before hval0 hW hcnd _
  have hval : ∀ (j : Nat) t v, Try.f8.params[j]? = some t → args[j]? = some v → Value.okWide Try.prog W .any base t v := hval0
  have hW' := hW
  obtain ⟨p, q, hA0, hV, rfl, hfz, hnd⟩ := hW
  have hA : DataW.TrodAll enc Try.prog W 0 (fun _ => true) true Try.f8.params.toList args.toList ds p := hA0
  rw [Try.params8] at hA hval
  obtain ⟨v0, d0, rfl, rfl, h0⟩ := trodAll_one hA
  obtain ⟨rfl, rfl⟩ := trodVars_none hV
  obtain ⟨A, c, L, rfl, a1, a3⟩ := open_ints1 (hval 0 22 v0 rfl rfl) h0
  clear hA0 hval0
  simp only [List.append_nil] at hW'
  have hlt : ∀ x ∈ p, x.block < W.heap.size := fun x hx => by simpa using hW'.lt x hx
  refine (law_countup A c L W a3 a1).mono fun e W' ⟨he, hg⟩ => ?_
  subst he
  refine ⟨_, rfl, _, _, _, [], p, [], hW', ?_, ?_, rfl, (below_of hg).frame _, fun h => by cases h⟩
  · exact trodAll_mk1 (shut_bool Try.underlying4 _)
  · exact trodAll_mk1 (Below.trod laid_out (by kernel_rfl) (of_decide_eq_true (by kernel_rfl)) h0 (below_of hg) hlt)

theorem countup_holds : Rows.FnExactCountUpSaid :=
  OpenClaim.holds_of_wide 8 Try.f8 rfl rfl rfl rfl rfl rfl rfl ⟨rfl, rfl, rfl, rfl, rfl⟩ rfl rfl rfl rfl rfl fcountup_name Try.func8 fcountup_all fcountup_inst fcountup_wrap
    (fun os started H enc _ => countup_lifted os started H enc)

#print axioms countup_holds

end Go.Proofs.Ytpakihjkjdanlab
