/- The law on TurnSegments: for all arguments both functions answer alike, the answer owns its memory, and the arguments read as they did. No condition. -/
import Derived.Test.YtpakihjkjdanlaaTurnS
import Derived.Test.YtpakihjkjdanlaaListArg
import Derived.Test.YtpakihjkjdanlaaOwnI
import Derived.Test.YtpakihjkjdanlaaGturn
namespace Go.Proofs.Ytpakihjkjdanlaa
open Go.ChangeShapes Go.WideShapes Go.ChangeAt Go.RowKit

set_option maxRecDepth 100000 in
set_option maxHeartbeats 8000000 in
theorem law_turn (A0 : Option Addr) (c0 : Nat) (L0 : List Int) (w : World) (hA0 : Ints w A0 L0) (hL0 : L0.length ≤ 9223372036854775807) :
    Calls Try.prog 7 #[.slice A0 L0.length c0] w fun e w' => e = .returned (.bool true) ∧ w.grownBy w' none := by
  have HA0 := Lib.hid hA0
  obtain ⟨n0, hn0⟩ : ∃ n, L0.length = n := ⟨_, rfl⟩
  have HN0 := Lib.hid hn0
  rw [hn0] at hL0 ⊢
  clear hA0 hn0
  by_cases h0 : 1048576 < n0
  · go_enter Try.func7, Try.ntmps7
    go_wp2_with fail
    go_ret
    exact ⟨rfl, gr_refl _ _⟩
  have HLL0 := Lib.hid (show L0.length ≤ 1048576 by have := HN0.out; omega)
  have HT0 := Lib.hid (fun u (hg : w.grownBy u none) => toi_any A0 c0 L0 u (HA0.out.grown hg (by simp)) HLL0.out)
  have HE0 := Lib.hid (fun A B c d w h h2 => eqi_draws A B c d L0 w h h2 HLL0.out)
  obtain ⟨zs0, R, hzl0, hw1, hw2⟩ := both_turn L0 HLL0.out
  have HW1 := Lib.hid hw1
  have HW2 := Lib.hid hw2
  have HEZ0 := Lib.hid (fun A B c d w h h2 => eqi_draws A B c d zs0 w h h2 hzl0)
  obtain ⟨z0, hz0⟩ : ∃ z, zs0.length = z := ⟨_, rfl⟩
  have HZ0 := Lib.hid hz0
  rw [hz0] at hzl0 HW1 HW2 HEZ0
  rw [HN0.out] at HT0 HE0
  have hnn0 : n0 ≤ 1048576 := by omega
  clear hw1 hw2 hz0
  have hRR : (R != R) = false := by simp
  go_enter Try.func7, Try.ntmps7
  go_wp2_with fail
  refine (HT0.out _ (gr_refl _ _)).mono ?_
  rintro e u1 ⟨rfl, hgu1, hou1⟩
  have HGu1 := Lib.hid hgu1
  have HI0 := Lib.hid (OwnI.of hou1 HN0.out)
  clear hgu1 hou1
  go_wp2_with fail
  refine (HW1.out _ _ HI0.out).mono ?_
  rintro e u2 ⟨S0, d0, rfl, hgu2, hi0⟩
  have HGS := Lib.hid (HGu1.out.trans hgu2)
  have HS0 := Lib.hid hi0
  clear HI0 hgu2 hi0
  go_wp2_with fail
  refine (HT0.out _ HGS.out).mono ?_
  rintro e u3 ⟨rfl, hgu3, hou3⟩
  have HBu3 := Lib.hid hgu3
  have HX0 := Lib.hid hou3
  have hs0 : u2.heap.size < u3.heap.size := (hou3.lt _ rfl).2
  clear hgu3 hou3
  go_wp2_with fail
  refine (HW2.out _ _ (OwnI.of HX0.out HN0.out)).mono ?_
  rintro e u4 ⟨G0, Gc0, rfl, hgu4, ho0⟩
  have HBu4 := Lib.hid (HBu3.out.trans hgu4)
  have HX0 := Lib.hid (own_keep HX0.out (fun g hg => hgu4.block g (HX0.out.lt g hg).2 (by simp)))
  have HO0 := Lib.hid ho0
  clear hgu4 ho0
  have HE := Lib.hid (HEZ0.out G0 S0 Gc0 d0 u4 (Ints.of_own (e := 3) (by rw [HZ0.out]; exact HO0.out)) (HS0.out.grown HBu4.out (by simp)))
  go_wp2_with fail
  refine HE.out.mono ?_
  rintro e u5r ⟨rfl, u5q, rfl⟩
  have HBu5 := Lib.hid (HBu4.out.trans (gr_drewN u4 u5q none))
  have HX0 := Lib.hid (own_keep (w' := u4.drewN u5q) HX0.out (fun g hg => rfl))
  have HO0 := Lib.hid (own_keep (w' := u4.drewN u5q) HO0.out (fun g hg => rfl))
  generalize u4.drewN u5q = u5 at HBu5 HX0 HO0  ⊢
  clear HE
  go_wp2_with fail
  refine (HT0.out _ (HGS.out.trans HBu5.out)).mono ?_
  rintro e u6 ⟨rfl, hgu6, hou6⟩
  have HBu6 := Lib.hid (HBu5.out.trans hgu6)
  have HX0 := Lib.hid (own_keep HX0.out (fun g hg => hgu6.block g (HX0.out.lt g hg).2 (by simp)))
  have HO0 := Lib.hid (own_keep HO0.out (fun g hg => hgu6.block g (HO0.out.lt g hg).2 (by simp)))
  have HE := Lib.hid (HE0.out _ _ n0 n0 _ (Ints.of_own (e := 3) (by rw [HN0.out]; exact HX0.out)) (Ints.of_own (e := 3) (by rw [HN0.out]; exact hou6)))
  clear hgu6 hou6
  go_wp2_with fail
  refine HE.out.mono ?_
  rintro e u7r ⟨rfl, u7q, rfl⟩
  have HBu7 := Lib.hid (HBu6.out.trans (gr_drewN u6 u7q none))
  have HX0 := Lib.hid (own_keep (w' := u6.drewN u7q) HX0.out (fun g hg => rfl))
  have HO0 := Lib.hid (own_keep (w' := u6.drewN u7q) HO0.out (fun g hg => rfl))
  generalize u6.drewN u7q = u7 at HBu7 HX0 HO0  ⊢
  clear HE
  go_wp2_with fail
  refine (mark_any _ u2.heap.size n0 1 n0 _ u7 HX0.out hnn0 (by omega)).mono ?_
  rintro e u8 ⟨rfl, hgu8, _⟩
  have HBu8 := Lib.hid (gr_own HBu7.out hgu8 (fun k hk => by cases hk; show u2.heap.size ≤ u2.heap.size; omega))
  have HO0 := Lib.hid (own_keep HO0.out (fun g hg => hgu8.block g (HO0.out.lt g hg).2 (by have := (HO0.out.lt g hg).1; simp [Value.ownBlock]; omega)))
  clear hgu8
  obtain ⟨k0, hk0⟩ : ∃ k : Nat, 1 + n0 = k := ⟨_, rfl⟩
  rw [hk0]
  have hkb0 : k0 ≤ 1048577 := by omega
  have hkn0 : ¬ ((k0 : Int) < 0) := by omega
  clear hk0
  have HE := Lib.hid (HEZ0.out G0 S0 Gc0 d0 u8 (Ints.of_own (e := 3) (by rw [HZ0.out]; exact HO0.out)) (HS0.out.grown HBu8.out (by simp)))
  go_wp2_with fail
  refine HE.out.mono ?_
  rintro e u9r ⟨rfl, u9q, rfl⟩
  have HBu9 := Lib.hid (HBu8.out.trans (gr_drewN u8 u9q none))
  have HO0 := Lib.hid (own_keep (w' := u8.drewN u9q) HO0.out (fun g hg => rfl))
  generalize u8.drewN u9q = u9 at HBu9 HO0  ⊢
  clear HE
  go_wp2_with fail
  refine (mark_any G0 u3.heap.size Gc0 1 z0 _ u9 HO0.out hzl0 (by omega)).mono ?_
  rintro e u10 ⟨rfl, hgu10, hou10⟩
  have HBu10 := Lib.hid (gr_own HBu9.out hgu10 (fun k hk => by have := (HO0.out.lt k hk).1; omega))
  have HM0 := Lib.hid hou10
  clear hgu10 hou10
  obtain ⟨m0, hm0⟩ : ∃ k : Nat, 1 + z0 = k := ⟨_, rfl⟩
  have HK0 := Lib.hid hm0
  rw [hm0]
  have hmb0 : m0 ≤ 1048577 := by omega
  have hmn0 : ¬ ((m0 : Int) < 0) := by omega
  clear hm0
  have hmm : ((m0 : Int) != (m0 : Int)) = false := by simp
  have HU0 := Lib.hid (show Ints u10 G0 (upFrom 1 z0) from Ints.of_own (e := 3) (by rw [upFrom_length]; exact HM0.out))
  go_wp2_with fail
  refine (held_any G0 Gc0 1 z0 _ HU0.out hzl0 (by omega)).mono ?_
  rintro e wq ⟨rfl, rfl⟩
  rw [HK0.out]
  go_wp2_with fail
  refine (HT0.out _ (HGS.out.trans HBu10.out)).mono ?_
  rintro e u11 ⟨rfl, hgu11, hou11⟩
  have HBu11 := Lib.hid (HBu10.out.trans hgu11)
  have HU0 := Lib.hid (HU0.out.grown hgu11 (by simp))
  have HY0 := Lib.hid (OwnI.of hou11 HN0.out)
  clear hgu11 hou11
  go_wp2_with fail
  refine (HW2.out _ _ HY0.out).mono ?_
  rintro e u12 ⟨H0, Hc0, rfl, hgu12, ho0⟩
  have HBu12 := Lib.hid (HBu11.out.trans hgu12)
  have HU0 := Lib.hid (HU0.out.grown hgu12 (by simp))
  have HV0 := Lib.hid ho0
  clear hgu12 ho0
  have HE := Lib.hid (HEZ0.out H0 S0 Hc0 d0 u12 (Ints.of_own (e := 3) (by rw [HZ0.out]; exact HV0.out)) (HS0.out.grown HBu12.out (by simp)))
  go_wp2_with fail
  refine HE.out.mono ?_
  rintro e u13r ⟨rfl, u13q, rfl⟩
  have HBu13 := Lib.hid (HBu12.out.trans (gr_drewN u12 u13q none))
  have HV0 := Lib.hid (own_keep (w' := u12.drewN u13q) HV0.out (fun g hg => rfl))
  have HU0 := Lib.hid (HU0.out.grown (gr_drewN u12 u13q none) (by simp))
  generalize u12.drewN u13q = u13 at HBu13 HV0 HU0 ⊢
  clear HE
  go_wp2_with fail
  refine (held_any G0 Gc0 1 z0 _ HU0.out hzl0 (by omega)).mono ?_
  rintro e wq ⟨rfl, rfl⟩
  rw [HK0.out]
  go_wp2_with fail
  go_ret
  exact ⟨rfl, HGS.out.trans HBu13.out⟩

set_option maxRecDepth 100000 in
theorem turn_lifted (os : Os) (started : os.Started) (H : Type) (enc : TypeId × Value → H) :
    ReturnsInHanded {} Try.checked os 7 .any (Rows.fnExactTurnSegmentsSpec.pre6 enc Try.prog Try.f7 Rows.fnExactTurnSegmentsRow.domain false) (Rows.fnExactTurnSegmentsSpec.post enc Try.prog Try.f7 false true false false) := by
  refine returnsInHanded_of_change (C := Try.checked) knob_own started (by kernel_rfl) Try.func7
    (ChangeSpec.witness6 (enc := enc) (C := Try.checked) false ⟨#[], #[.slice none 0 0], []⟩ 8 (by kernel_rfl) (by kernel_rfl) (by kernel_rfl) (by kernel_rfl)) ?_
  intro W base args ds gs before hval0 hW hcnd _
  have hval : ∀ (j : Nat) t v, Try.f7.params[j]? = some t → args[j]? = some v → Value.okWide Try.prog W .any base t v := hval0
  have hW' := hW
  obtain ⟨p, q, hA0, hV, rfl, hfz, hnd⟩ := hW
  have hA : DataW.TrodAll enc Try.prog W 0 (fun _ => true) true Try.f7.params.toList args.toList ds p := hA0
  rw [Try.params7] at hA hval
  obtain ⟨v0, d0, rfl, rfl, h0⟩ := trodAll_one hA
  obtain ⟨rfl, rfl⟩ := trodVars_none hV
  obtain ⟨A0, c0, L0, rfl, a0, b0⟩ := open_ints1 (hval 0 22 v0 rfl rfl) h0
  clear hA0 hval0
  simp only [List.append_nil] at hW'
  have hlt : ∀ x ∈ p, x.block < W.heap.size := fun x hx => by simpa using hW'.lt x hx
  refine (law_turn A0 c0 L0 W b0 a0).mono fun e W' ⟨he, hg⟩ => ?_
  subst he
  refine ⟨_, rfl, _, _, _, [], p, [], hW', ?_, ?_, rfl, (below_of hg).frame _, fun h => by cases h⟩
  · exact trodAll_mk1 (shut_bool Try.underlying4 _)
  · exact trodAll_mk1 (Below.trod laid_out (by kernel_rfl) (of_decide_eq_true (by kernel_rfl)) h0 (below_of hg) hlt)

theorem turn_holds : Rows.FnExactTurnSegmentsSaid :=
  OpenClaim.holds_of_wide 7 Try.f7 rfl rfl rfl rfl rfl rfl rfl ⟨rfl, rfl, rfl, rfl, rfl⟩ rfl rfl rfl rfl rfl fturn_name Try.func7 fturn_all fturn_inst fturn_wrap
    (fun os started H enc _ => turn_lifted os started H enc)

#print axioms turn_holds

end Go.Proofs.Ytpakihjkjdanlaa
