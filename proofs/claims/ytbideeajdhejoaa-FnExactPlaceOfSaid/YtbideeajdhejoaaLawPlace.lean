/- The law on PlaceOf: for every layout and every path both functions answer alike, and the arguments read as they did. No condition. -/
import Derived.Test.YtbideeajdhejoaaLytL
import Derived.Test.YtbideeajdhejoaaPlace
import Derived.Test.YtbideeajdhejoaaLytArg
import Derived.Deep.AppendLies
namespace Go.Proofs.Ytbideeajdhejoaa
open Go.ChangeShapes Go.WideShapes Go.ChangeAt Go.RowKit

set_option maxHeartbeats 1000000 in
theorem law_place (v : Value) (E : Option Addr) (f : Nat) (LL : List (List Int)) (D path : List Int) (w : World) (h : Lyt w v LL D) (hp : Ints w E path) (hn : LL.length ≤ 9223372036854775807) (hsz : ∀ M ∈ LL, M.length ≤ 9223372036854775807) (hd : D.length ≤ 9223372036854775807) :
    Calls Try.prog 5 #[v, .slice E path.length f] w fun e w' => e = .returned (.bool true) ∧ w.grownBy w' none := by
  have HZ := Lib.hid (fun w h => szl_any v LL D w h hn hsz hd)
  have H := Lib.hid h
  have HPA := Lib.hid hp
  obtain ⟨A, c, B, d, rfl, _⟩ := h
  obtain ⟨n, hnn⟩ : ∃ n, LL.length = n := ⟨_, rfl⟩
  obtain ⟨m, hm⟩ : ∃ m, D.length = m := ⟨_, rfl⟩
  obtain ⟨k, hk⟩ : ∃ k, path.length = k := ⟨_, rfl⟩
  have HN := Lib.hid hnn
  have HM := Lib.hid hm
  have HK := Lib.hid hk
  have HW1 := Lib.hid (fun A B E c d e w h hp hn hpn => splace_any A B E c d e LL D path w h hp hn hpn)
  have HW2 := Lib.hid (fun A B E c d e w h hp hn hpn => place_any A B E c d e LL D path w h hp hn hpn)
  have HE := Lib.hid (fun u v w h h2 hn => eql_any u v LL D w h h2 hn)
  generalize placeR LL D path = R at HW1 HW2
  rw [hm, hnn] at HZ H HW1 HW2
  rw [hk] at HW1 HW2
  rw [hm, hnn, hk]
  clear hp hn hnn hm hsz hd hk
  have HG0 := Lib.hid (World.grownBy_alloc w (.cells #[.slice A n c, .slice B m d] 25) none)
  have HP0 := Lib.hid (Pr.new w 25 (.slice A n c) (.slice B m d))
  by_cases hbig : 1048576 < k
  · go_enter Try.func5, Try.ntmps5
    go_wp2_with fail
    go_ret
    exact ⟨rfl, HG0.out⟩
  · have hk1 : k ≤ 1048576 := by omega
    have HKL := Lib.hid (show path.length ≤ 1048576 by have := HK.out; omega)
    go_enter Try.func5, Try.ntmps5
    go_wp2_with fail
    refine (HZ.out _ (H.out.grown HG0.out)).mono ?_
    rintro e w1 ⟨⟨r, rfl, hr⟩, hg1⟩
    have HG1 := Lib.hid (HG0.out.trans hg1)
    have HP1 := Lib.hid (HP0.out.grown hg1 (by simp))
    have HR := Lib.hid hr
    clear hg1 hr
    by_cases hneg : r < 0
    · go_wp2_with fail
      go_ret
      exact ⟨rfl, HG1.out⟩
    · have hr0 : 0 ≤ r := by omega
      have hfit := HR.out hr0
      rw [← HN.out, ← HM.out] at hfit
      have HFIT := Lib.hid hfit
      have HFIT2 := Lib.hid (show n + totL LL + m ≤ 1048576 by have := HN.out; have := HM.out; omega)
      clear hfit
      have p0 := HP1.out.c0
      have p1 := HP1.out.c1
      have HT := Lib.hid (fun u (hg : w.grownBy u none) => tol_any _ LL D u (H.out.grown hg) HFIT.out)
      have HTI := Lib.hid (fun u (hg : w.grownBy u none) => toi_any E f path u (HPA.out.grown hg (by simp)) HKL.out)
      rw [HK.out] at HTI
      have HEI := Lib.hid (fun A B c d w h h2 => eqi_draws A B c d path w h h2 HKL.out)
      rw [HK.out] at HEI
      go_wp2_with fail
      refine (HT.out _ HG1.out).mono ?_
      rintro e w2 ⟨u2, rfl, hg2, ho2⟩
      have HG2 := Lib.hid (HG1.out.trans hg2)
      have HP2 := Lib.hid (HP1.out.grown hg2 (by simp))
      have hl2 := ho2.lyt
      obtain ⟨A2, c2, B2, d2, rfl, _⟩ := ho2.lyt
      have HO2 := Lib.hid hl2
      rw [HN.out, HM.out] at HO2 ⊢
      clear p0 p1 hg2 ho2 hl2
      go_wp2_with fail
      refine (HTI.out _ HG2.out).mono ?_
      rintro e w3 ⟨rfl, hg3, ho3⟩
      have HG3 := Lib.hid (HG2.out.trans hg3)
      have HP3 := Lib.hid (HP2.out.grown hg3 (by simp))
      have HO3 := Lib.hid (HO2.out.grown hg3)
      have HI3 := Lib.hid (show Ints w3 (some ⟨w2.heap.size, 0, none⟩) path from Ints.of_own (e := 3) (by rw [HK.out]; exact ho3))
      clear hg3 ho3
      go_wp2_with fail
      refine (HW1.out A2 B2 _ c2 d2 k w3 HO3.out HI3.out HFIT2.out hk1).mono ?_
      rintro e w4 ⟨rfl, hg4⟩
      have HG4 := Lib.hid (HG3.out.trans hg4)
      have HP4 := Lib.hid (HP3.out.grown hg4 (by simp))
      clear hg4
      have p0 := HP4.out.c0
      have p1 := HP4.out.c1
      go_wp2_with fail
      refine (HT.out _ HG4.out).mono ?_
      rintro e w5 ⟨u5, rfl, hg5, ho5⟩
      have HG5 := Lib.hid (HG4.out.trans hg5)
      have HP5 := Lib.hid (HP4.out.grown hg5 (by simp))
      have hl5 := ho5.lyt
      obtain ⟨A5, c5, B5, d5, rfl, _⟩ := ho5.lyt
      have HO5 := Lib.hid hl5
      rw [HN.out, HM.out] at HO5 ⊢
      clear p0 p1 hg5 ho5 hl5
      have HG6 := Lib.hid (HG5.out.trans (World.grownBy_alloc w5 (.cells #[.slice A5 n c5, .slice B5 m d5] 28) none))
      have HP6 := Lib.hid (HP5.out.alloc (.cells #[.slice A5 n c5, .slice B5 m d5] 28))
      have HX6 := Lib.hid (Pr.new w5 28 (.slice A5 n c5) (.slice B5 m d5))
      have HO6 := Lib.hid (HO5.out.grown (World.grownBy_alloc w5 (.cells #[.slice A5 n c5, .slice B5 m d5] 28) none))
      go_wp2_with fail
      generalize w5.alloc (.cells #[.slice A5 n c5, .slice B5 m d5] 28) = w6 at HG6 HP6 HX6 HO6 ⊢
      refine (HTI.out _ HG6.out).mono ?_
      rintro e w7 ⟨rfl, hg7, ho7⟩
      have HG7 := Lib.hid (HG6.out.trans hg7)
      have HP7 := Lib.hid (HP6.out.grown hg7 (by simp))
      have HX7 := Lib.hid (HX6.out.grown hg7 (by simp))
      have HO7 := Lib.hid (HO6.out.grown hg7)
      have HI7 := Lib.hid (show Ints w7 (some ⟨w6.heap.size, 0, none⟩) path from Ints.of_own (e := 3) (by rw [HK.out]; exact ho7))
      clear hg7 ho7
      have x0 := HX7.out.c0
      have x1 := HX7.out.c1
      go_wp2_with fail
      refine (HW2.out A5 B5 _ c5 d5 k w7 HO7.out HI7.out HFIT2.out hk1).mono ?_
      rintro e w8 ⟨rfl, hg8⟩
      have HG8 := Lib.hid (HG7.out.trans hg8)
      have HP8 := Lib.hid (HP7.out.grown hg8 (by simp))
      have HX8 := Lib.hid (HX7.out.grown hg8 (by simp))
      have HO8 := Lib.hid (HO7.out.grown hg8)
      have HI8 := Lib.hid (HI7.out.grown hg8 (by simp))
      clear hg8 x0 x1
      have p0 := HP8.out.c0
      have p1 := HP8.out.c1
      have p2 := HX8.out.c0
      have p3 := HX8.out.c1
      have hRR : (R != R) = false := by simp
      go_wp2_with fail
      go_region_law (first
        | (go_simp
           go_at_call 16
           refine (HT.out _ (HG8.out.trans (gr_drewN w8 _ none))).mono ?_
           rintro e w9 ⟨u9, rfl, hg9, ho9⟩
           have HG9 := Lib.hid (HG8.out.trans ((gr_drewN w8 _ none).trans hg9))
           have HI9 := Lib.hid ((HI8.out.grown (gr_drewN w8 _ none) (by simp)).grown hg9 (by simp))
           have q2 := ((HX8.out.grown (gr_drewN w8 _ none) (by simp)).grown hg9 (by simp)).c0
           have q3 := ((HX8.out.grown (gr_drewN w8 _ none) (by simp)).grown hg9 (by simp)).c1
           have HE9 := Lib.hid (HE.out _ _ w9 ((HO8.out.grown (gr_drewN w8 _ none)).grown hg9) ho9.lyt HFIT.out)
           clear hg9 ho9)
        | (go_simp
           go_at_call 18
           refine HE9.out.mono ?_
           rintro e w10 ⟨rfl, hg10⟩
           have HG10 := Lib.hid (HG9.out.trans hg10)
           have HI10 := Lib.hid (HI9.out.grown hg10 (by simp))
           clear hg10))
      all_goals
        go_wp2_with fail
        refine (HTI.out _ HG10.out).mono ?_
        rintro e w11 ⟨rfl, hg11, ho11⟩
        have HG11 := Lib.hid (HG10.out.trans hg11)
        have HE11 := Lib.hid (HEI.out (some ⟨w6.heap.size, 0, none⟩) (some ⟨w10.heap.size, 0, none⟩) k k w11 (HI10.out.grown hg11 (by simp)) (Ints.of_own (e := 3) (by rw [HK.out]; exact ho11)))
        clear hg11 ho11
        go_wp2_with fail
        refine HE11.out.mono ?_
        rintro e w12 ⟨rfl, n12, rfl⟩
        go_wp2_with fail
        go_ret
        exact ⟨rfl, HG11.out.trans (gr_drewN _ _ none)⟩

set_option maxRecDepth 100000 in
theorem place_lifted (os : Os) (started : os.Started) (H : Type) (enc : TypeId × Value → H) :
    ReturnsInHanded {} Try.checked os 5 .any (Rows.fnExactPlaceOfSpec.pre6 enc Try.prog Try.f5 Rows.fnExactPlaceOfRow.domain false) (Rows.fnExactPlaceOfSpec.post enc Try.prog Try.f5 false true false false) := by
  refine returnsInHanded_of_change (C := Try.checked) knob_own started (by kernel_rfl) Try.func5
    (ChangeSpec.witness6 (enc := enc) (C := Try.checked) false ⟨#[], #[.agg #[.slice none 0 0, .slice none 0 0], .slice none 0 0], []⟩ 8 (by kernel_rfl) (by kernel_rfl) (by kernel_rfl) (by kernel_rfl)) ?_
  intro W base args ds gs before hval0 hW hcnd _
  have hval : ∀ (j : Nat) t v, Try.f5.params[j]? = some t → args[j]? = some v → Value.okWide Try.prog W .any base t v := hval0
  have hW' := hW
  obtain ⟨p, q, hA0, hV, rfl, hfz, hnd⟩ := hW
  have hA : DataW.TrodAll enc Try.prog W 0 (fun _ => true) true Try.f5.params.toList args.toList ds p := hA0
  rw [Try.params5] at hA hval
  obtain ⟨v0, v1, d0, d1, p0, p1, rfl, rfl, rfl, h0, h1⟩ := trodAll_two hA
  obtain ⟨rfl, rfl⟩ := trodVars_none hV
  obtain ⟨LL, D, hl, hn, hsz, hd, _⟩ := open_layout (hval 0 25 v0 rfl rfl) h0
  obtain ⟨E0, len, cap, rfl⟩ := okWide_slice Try.underlying23 (hval 1 23 v1 rfl rfl)
  have h1' := h1
  obtain ⟨fuel, h1'⟩ := h1'
  simp only [Value.cells] at h1'
  obtain ⟨E, f, path, hv1, _, _, hp, _⟩ := open_listarg h1'
  cases hv1
  clear hA0 hval0
  simp only [List.append_nil] at hW'
  have hlt : ∀ x ∈ p0 ++ p1, x.block < W.heap.size := fun x hx => by simpa using hW'.lt x hx
  refine (law_place v0 E0 cap LL D path W hl hp hn hsz hd).mono fun e W' ⟨he, hg⟩ => ?_
  subst he
  refine ⟨_, rfl, _, _, _, [], p0 ++ p1, [], hW', ?_, ?_, rfl, (below_of hg).frame _, fun h => by cases h⟩
  · exact trodAll_mk1 (shut_bool Try.underlying4 _)
  · exact trodAll_mk2 (Below.trod laid_out (by kernel_rfl) (of_decide_eq_true (by kernel_rfl)) h0 (below_of hg) (fun x hx => hlt x (List.mem_append_left _ hx))) (Below.trod laid_out (by kernel_rfl) (of_decide_eq_true (by kernel_rfl)) h1 (below_of hg) (fun x hx => hlt x (List.mem_append_right _ hx)))

theorem place_holds : Rows.FnExactPlaceOfSaid :=
  OpenClaim.holds_of_wide 5 Try.f5 rfl rfl rfl rfl rfl rfl rfl ⟨rfl, rfl, rfl, rfl, rfl⟩ rfl rfl rfl rfl rfl (by kernel_rfl) Try.func5 (by kernel_rfl)
    (of_decide_eq_true (by kernel_rfl)) (by unfold Func.isWrapper; first | (rw [if_pos (by decide +kernel)]; kernel_rfl) | (rw [if_neg (by decide +kernel)]; exact ⟨rfl, rfl⟩))
    (fun os started H enc _ => place_lifted os started H enc)

#print axioms place_holds

end Go.Proofs.Ytbideeajdhejoaa
