/- The law on SegmentsValid: for all lengths and data both functions answer alike, and the arguments read as they did. No condition. -/
import Derived.Test.YtpakihjkjdanlabSegS
import Derived.Test.YtpakihjkjdanlabListArg
import Derived.Test.YtpakihjkjdanlabGsegv
namespace Go.Proofs.Ytpakihjkjdanlab
open Go.ChangeShapes Go.WideShapes Go.ChangeAt Go.RowKit

set_option maxHeartbeats 1000000 in
theorem law_segv (A B : Option Addr) (c d : Nat) (L D : List Int) (w : World) (hA : Ints w A L) (hB : Ints w B D) (hL : L.length ≤ 9223372036854775807) (hD : D.length ≤ 9223372036854775807) :
    Calls Try.prog 3 #[.slice A L.length c, .slice B D.length d] w fun e w' => e = .returned (.bool true) ∧ w.grownBy w' none := by
  have HA := Lib.hid hA
  have HB := Lib.hid hB
  obtain ⟨n, hn⟩ : ∃ n, L.length = n := ⟨_, rfl⟩
  obtain ⟨m, hm⟩ : ∃ m, D.length = m := ⟨_, rfl⟩
  have HN := Lib.hid hn
  have HM := Lib.hid hm
  rw [hn] at hL ⊢
  rw [hm] at hD ⊢
  clear hA hB hn hm
  by_cases h1 : 1048576 < n
  · go_enter Try.func3, Try.ntmps3
    go_wp2_with fail
    go_ret
    exact ⟨rfl, gr_refl _ _⟩
  by_cases h2 : 1048576 < m
  · go_enter Try.func3, Try.ntmps3
    go_wp2_with fail
    go_ret
    exact ⟨rfl, gr_refl _ _⟩
  have HLL := Lib.hid (show L.length ≤ 1048576 by have := HN.out; omega)
  have HDL := Lib.hid (show D.length ≤ 1048576 by have := HM.out; omega)
  have HTA := Lib.hid (fun u (hg : w.grownBy u none) => toi_any A c L u (HA.out.grown hg (by simp)) HLL.out)
  have HTB := Lib.hid (fun u (hg : w.grownBy u none) => toi_any B d D u (HB.out.grown hg (by simp)) HDL.out)
  have HEA := Lib.hid (fun A B c d w h h2 => eqi_draws A B c d L w h h2 HLL.out)
  have HEB := Lib.hid (fun A B c d w h h2 => eqi_draws A B c d D w h h2 HDL.out)
  have HW1 := Lib.hid (fun A B c d w h h2 => ssegv_any A B c d L D w h h2 HLL.out HDL.out)
  have HW2 := Lib.hid (fun A B c d w h h2 => segv_any A B c d L D w h h2 HLL.out HDL.out)
  generalize segsB L D = R at HW1 HW2
  rw [HN.out] at HTA HEA HW1 HW2
  rw [HM.out] at HTB HEB HW1 HW2
  have hRR : (R != R) = false := by simp
  go_enter Try.func3, Try.ntmps3
  go_wp2_with fail
  refine (HTA.out _ (gr_refl _ _)).mono ?_
  rintro e w1 ⟨rfl, hg1, ho1⟩
  have HG1 := Lib.hid hg1
  have HI1 := Lib.hid (show Ints w1 (some ⟨w.heap.size, 0, none⟩) L from Ints.of_own (e := 3) (by rw [HN.out]; exact ho1))
  clear hg1 ho1
  go_wp2_with fail
  refine (HTB.out _ HG1.out).mono ?_
  rintro e w2 ⟨rfl, hg2, ho2⟩
  have HG2 := Lib.hid (HG1.out.trans hg2)
  have HJ1 := Lib.hid (HI1.out.grown hg2 (by simp))
  have HJ2 := Lib.hid (show Ints w2 (some ⟨w1.heap.size, 0, none⟩) D from Ints.of_own (e := 3) (by rw [HM.out]; exact ho2))
  clear hg2 ho2
  go_wp2_with fail
  refine (HW1.out _ _ _ _ _ HJ1.out HJ2.out).mono ?_
  rintro e w2' ⟨rfl, rfl⟩
  go_wp2_with fail
  refine (HTA.out _ HG2.out).mono ?_
  rintro e w3 ⟨rfl, hg3, ho3⟩
  have HG3 := Lib.hid (HG2.out.trans hg3)
  have HI3 := Lib.hid (show Ints w3 (some ⟨w2.heap.size, 0, none⟩) L from Ints.of_own (e := 3) (by rw [HN.out]; exact ho3))
  clear hg3 ho3
  go_wp2_with fail
  refine (HTB.out _ HG3.out).mono ?_
  rintro e w4 ⟨rfl, hg4, ho4⟩
  have HG4 := Lib.hid (HG3.out.trans hg4)
  have HX1 := Lib.hid (HI3.out.grown hg4 (by simp))
  have HX2 := Lib.hid (show Ints w4 (some ⟨w3.heap.size, 0, none⟩) D from Ints.of_own (e := 3) (by rw [HM.out]; exact ho4))
  clear hg4 ho4
  go_wp2_with fail
  refine (HW2.out _ _ _ _ _ HX1.out HX2.out).mono ?_
  rintro e w4' ⟨rfl, rfl⟩
  go_wp2_with fail
  refine (HTA.out _ HG4.out).mono ?_
  rintro e w5 ⟨rfl, hg5, ho5⟩
  have HG5 := Lib.hid (HG4.out.trans hg5)
  have HX1 := Lib.hid (HX1.out.grown hg5 (by simp))
  have HX2 := Lib.hid (HX2.out.grown hg5 (by simp))
  have HE := Lib.hid (HEA.out _ _ n n _ HX1.out (show Ints w5 (some ⟨w4.heap.size, 0, none⟩) L from Ints.of_own (e := 3) (by rw [HN.out]; exact ho5)))
  clear hg5 ho5
  go_wp2_with fail
  refine HE.out.mono ?_
  rintro e w6 ⟨rfl, q, rfl⟩
  have HG6 := Lib.hid (HG5.out.trans (gr_drewN w5 q none))
  have HX2 := Lib.hid (HX2.out.grown (gr_drewN w5 q none) (by simp))
  clear HE
  go_wp2_with fail
  refine (HTB.out _ HG6.out).mono ?_
  rintro e w7 ⟨rfl, hg7, ho7⟩
  have HG7 := Lib.hid (HG6.out.trans hg7)
  have HX2 := Lib.hid (HX2.out.grown hg7 (by simp))
  have HE := Lib.hid (HEB.out _ _ m m _ HX2.out (show Ints w7 (some ⟨(w5.drewN q).heap.size, 0, none⟩) D from Ints.of_own (e := 3) (by rw [HM.out]; exact ho7)))
  clear hg7 ho7
  go_wp2_with fail
  refine HE.out.mono ?_
  rintro e w8 ⟨rfl, q2, rfl⟩
  have HG8 := Lib.hid (HG7.out.trans (gr_drewN w7 q2 none))
  clear HE
  go_wp2_with fail
  go_ret
  exact ⟨rfl, HG8.out⟩

set_option maxRecDepth 100000 in
theorem segv_lifted (os : Os) (started : os.Started) (H : Type) (enc : TypeId × Value → H) :
    ReturnsInHanded {} Try.checked os 3 .any (Rows.fnExactSegmentsValidSpec.pre6 enc Try.prog Try.f3 Rows.fnExactSegmentsValidRow.domain false) (Rows.fnExactSegmentsValidSpec.post enc Try.prog Try.f3 false true false false) := by
  refine returnsInHanded_of_change (C := Try.checked) knob_own started (by kernel_rfl) Try.func3
    (ChangeSpec.witness6 (enc := enc) (C := Try.checked) false ⟨#[], #[.slice none 0 0, .slice none 0 0], []⟩ 8 (by kernel_rfl) (by kernel_rfl) (by kernel_rfl) (by kernel_rfl)) ?_
  intro W base args ds gs before hval0 hW hcnd _
  have hval : ∀ (j : Nat) t v, Try.f3.params[j]? = some t → args[j]? = some v → Value.okWide Try.prog W .any base t v := hval0
  have hW' := hW
  obtain ⟨p, q, hA0, hV, rfl, hfz, hnd⟩ := hW
  have hA : DataW.TrodAll enc Try.prog W 0 (fun _ => true) true Try.f3.params.toList args.toList ds p := hA0
  rw [Try.params3] at hA hval
  obtain ⟨v0, v1, d0, d1, p0, p1, rfl, rfl, rfl, h0, h1⟩ := trodAll_two hA
  obtain ⟨rfl, rfl⟩ := trodVars_none hV
  obtain ⟨A, c, L, rfl, a1, a3⟩ := open_ints1 (hval 0 22 v0 rfl rfl) h0
  obtain ⟨B, d, D, rfl, b1, b3⟩ := open_ints1 (hval 1 22 v1 rfl rfl) h1
  clear hA0 hval0
  simp only [List.append_nil] at hW'
  have hlt : ∀ x ∈ p0 ++ p1, x.block < W.heap.size := fun x hx => by simpa using hW'.lt x hx
  refine (law_segv A B c d L D W a3 b3 a1 b1).mono fun e W' ⟨he, hg⟩ => ?_
  subst he
  refine ⟨_, rfl, _, _, _, [], p0 ++ p1, [], hW', ?_, ?_, rfl, (below_of hg).frame _, fun h => by cases h⟩
  · exact trodAll_mk1 (shut_bool Try.underlying4 _)
  · exact trodAll_mk2 (Below.trod laid_out (by kernel_rfl) (of_decide_eq_true (by kernel_rfl)) h0 (below_of hg) (fun x hx => hlt x (List.mem_append_left _ hx)))
      (Below.trod laid_out (by kernel_rfl) (of_decide_eq_true (by kernel_rfl)) h1 (below_of hg) (fun x hx => hlt x (List.mem_append_right _ hx)))

theorem segv_holds : Rows.FnExactSegmentsValidSaid :=
  OpenClaim.holds_of_wide 3 Try.f3 rfl rfl rfl rfl rfl rfl rfl ⟨rfl, rfl, rfl, rfl, rfl⟩ rfl rfl rfl rfl rfl fsegv_name Try.func3 fsegv_all fsegv_inst fsegv_wrap
    (fun os started H enc _ => segv_lifted os started H enc)

#print axioms segv_holds

end Go.Proofs.Ytpakihjkjdanlab
