/- The law on IsPermutation: for all arguments both functions answer alike, and the arguments read as they did. No condition. -/
import Derived.Test.YtpakihjkjdanlaaInvI
import Derived.Test.YtpakihjkjdanlaaListArg
import Derived.Test.YtpakihjkjdanlaaOwnI
import Derived.Test.YtpakihjkjdanlaaGisperm
namespace Go.Proofs.Ytpakihjkjdanlaa
open Go.ChangeShapes Go.WideShapes Go.ChangeAt Go.RowKit

set_option maxRecDepth 100000 in
set_option maxHeartbeats 2000000 in
theorem law_isperm (A0 : Option Addr) (c0 : Nat) (L0 : List Int) (w : World) (hA : Ints w A0 L0) (hL : L0.length ≤ 9223372036854775807) :
    Calls Try.prog 4 #[.slice A0 L0.length c0] w fun e w' => e = .returned (.bool true) ∧ w.grownBy w' none := by
  have HA := Lib.hid hA
  obtain ⟨n, hn⟩ : ∃ n, L0.length = n := ⟨_, rfl⟩
  have HN := Lib.hid hn
  rw [hn] at hL ⊢
  clear hA hn
  by_cases h1 : 1048576 < n
  · go_enter Try.func4, Try.ntmps4
    go_wp2_with fail
    go_ret
    exact ⟨rfl, gr_refl _ _⟩
  have HLL := Lib.hid (show L0.length ≤ 1048576 by have := HN.out; omega)
  have HTA := Lib.hid (fun u (hg : w.grownBy u none) => toi_any A0 c0 L0 u (HA.out.grown hg (by simp)) HLL.out)
  have HEA := Lib.hid (fun A B c d w h h2 => eqi_draws A B c d L0 w h h2 HLL.out)
  have HW1 := Lib.hid (fun A c w h => sisperm_any A c L0 w h HLL.out)
  have HW2 := Lib.hid (fun A c w h => isperm_any A c L0 w h HLL.out)
  generalize permB L0 = R at HW1 HW2
  rw [HN.out] at HTA HEA HW1 HW2
  have hRR : (R != R) = false := by simp
  go_enter Try.func4, Try.ntmps4
  go_wp2_with fail
  refine (HTA.out _ (gr_refl _ _)).mono ?_
  rintro e w1 ⟨rfl, hg1, ho1⟩
  have HG1 := Lib.hid hg1
  have HI1 := Lib.hid (show Ints w1 (some ⟨w.heap.size, 0, none⟩) L0 from Ints.of_own (e := 3) (by rw [HN.out]; exact ho1))
  clear hg1 ho1
  go_wp2_with fail
  refine (HW1.out _ _ _ HI1.out).mono ?_
  rintro e w2 ⟨rfl, hg2⟩
  have HG2 := Lib.hid (HG1.out.trans hg2)
  clear hg2 HI1
  go_wp2_with fail
  refine (HTA.out _ HG2.out).mono ?_
  rintro e w3 ⟨rfl, hg3, ho3⟩
  have HG3 := Lib.hid (HG2.out.trans hg3)
  have HI3 := Lib.hid (show Ints w3 (some ⟨w2.heap.size, 0, none⟩) L0 from Ints.of_own (e := 3) (by rw [HN.out]; exact ho3))
  clear hg3 ho3
  go_wp2_with fail
  refine (HW2.out _ _ _ HI3.out).mono ?_
  rintro e w4 ⟨rfl, hg4⟩
  have HG4 := Lib.hid (HG3.out.trans hg4)
  have HI4 := Lib.hid (HI3.out.grown hg4 (by simp))
  clear hg4 HI3
  go_wp2_with fail
  refine (HTA.out _ HG4.out).mono ?_
  rintro e w5 ⟨rfl, hg5, ho5⟩
  have HG5 := Lib.hid (HG4.out.trans hg5)
  have HE := Lib.hid (HEA.out _ _ n n _ (HI4.out.grown hg5 (by simp)) (Ints.of_own (e := 3) (by rw [HN.out]; exact ho5)))
  clear hg5 ho5
  go_wp2_with fail
  refine HE.out.mono ?_
  rintro e w6 ⟨rfl, q6, rfl⟩
  have HG6 := Lib.hid (HG5.out.trans (gr_drewN w5 q6 none))
  clear HE
  go_wp2_with fail
  go_ret
  exact ⟨rfl, HG6.out⟩

set_option maxRecDepth 100000 in
theorem isperm_lifted (os : Os) (started : os.Started) (H : Type) (enc : TypeId × Value → H) :
    ReturnsInHanded {} Try.checked os 4 .any (Rows.fnExactIsPermutationSpec.pre6 enc Try.prog Try.f4 Rows.fnExactIsPermutationRow.domain false) (Rows.fnExactIsPermutationSpec.post enc Try.prog Try.f4 false true false false) := by
  refine returnsInHanded_of_change (C := Try.checked) knob_own started (by kernel_rfl) Try.func4
    (ChangeSpec.witness6 (enc := enc) (C := Try.checked) false ⟨#[], #[.slice none 0 0], []⟩ 8 (by kernel_rfl) (by kernel_rfl) (by kernel_rfl) (by kernel_rfl)) ?_
  intro W base args ds gs before hval0 hW hcnd _
  have hval : ∀ (j : Nat) t v, Try.f4.params[j]? = some t → args[j]? = some v → Value.okWide Try.prog W .any base t v := hval0
  have hW' := hW
  obtain ⟨p, q, hA0, hV, rfl, hfz, hnd⟩ := hW
  have hA : DataW.TrodAll enc Try.prog W 0 (fun _ => true) true Try.f4.params.toList args.toList ds p := hA0
  rw [Try.params4] at hA hval
  obtain ⟨v0, d0, rfl, rfl, h0⟩ := trodAll_one hA
  obtain ⟨rfl, rfl⟩ := trodVars_none hV
  obtain ⟨A0, c0, L0, rfl, a0, b0⟩ := open_ints1 (hval 0 22 v0 rfl rfl) h0
  clear hA0 hval0
  simp only [List.append_nil] at hW'
  have hlt : ∀ x ∈ p, x.block < W.heap.size := fun x hx => by simpa using hW'.lt x hx
  refine (law_isperm A0 c0 L0 W b0 a0).mono fun e W' ⟨he, hg⟩ => ?_
  subst he
  refine ⟨_, rfl, _, _, _, [], p, [], hW', ?_, ?_, rfl, (below_of hg).frame _, fun h => by cases h⟩
  · exact trodAll_mk1 (shut_bool Try.underlying4 _)
  · exact trodAll_mk1 (Below.trod laid_out (by kernel_rfl) (of_decide_eq_true (by kernel_rfl)) h0 (below_of hg) hlt)

theorem isperm_holds : Rows.FnExactIsPermutationSaid :=
  OpenClaim.holds_of_wide 4 Try.f4 rfl rfl rfl rfl rfl rfl rfl ⟨rfl, rfl, rfl, rfl, rfl⟩ rfl rfl rfl rfl rfl fisperm_name Try.func4 fisperm_all fisperm_inst fisperm_wrap
    (fun os started H enc _ => isperm_lifted os started H enc)

#print axioms isperm_holds

end Go.Proofs.Ytpakihjkjdanlaa
