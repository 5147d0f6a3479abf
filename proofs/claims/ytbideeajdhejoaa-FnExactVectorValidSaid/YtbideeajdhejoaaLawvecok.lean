/- The law on VectorValid: for every vector both functions answer alike, and the argument reads as it did. No condition. -/
import Derived.Test.YtbideeajdhejoaaVecArg
import Derived.Test.YtbideeajdhejoaaVecOk
import Derived.Deep.AppendLies
import Derived.Deep.RegionLaw
namespace Go.Proofs.Ytbideeajdhejoaa
open Go.ChangeShapes Go.WideShapes Go.ChangeAt Go.RowKit

set_option maxHeartbeats 1000000 in
theorem law_vecok (v : Value) (k : Int) (LL : List (List Int)) (D : List Int) (w : World) (h : Vct w v k LL D) (hn : LL.length ≤ 9223372036854775807) (hsz : ∀ M ∈ LL, M.length ≤ 9223372036854775807) (hd : D.length ≤ 9223372036854775807) :
    Calls Try.prog 6 #[v] w fun e w' => e = .returned (.bool true) ∧ w.grownBy w' none := by
  have HZ := Lib.hid (fun w h => szv_any v k LL D w h hn hsz hd)
  have H := Lib.hid h
  obtain ⟨A, c, B, d, rfl, _⟩ := h
  obtain ⟨n, hnn⟩ : ∃ n, LL.length = n := ⟨_, rfl⟩
  obtain ⟨m, hm⟩ : ∃ m, D.length = m := ⟨_, rfl⟩
  have HN := Lib.hid hnn
  have HM := Lib.hid hm
  have HW1 := Lib.hid (fun u w h hn => svecok_any u k LL D w h hn)
  have HW2 := Lib.hid (fun u w h hn => vecok_any u k LL D w h hn)
  have HE := Lib.hid (fun u v w h h2 hn => eqv_any u v k LL D w h h2 hn)
  generalize okV k LL D = R at HW1 HW2
  rw [hm, hnn] at HZ H ⊢
  clear hn hnn hm hsz hd
  go_enter Try.func6, Try.ntmps6
  go_wp2_with fail
  have HG0 := Lib.hid (World.grownBy_alloc w (.cells #[.int .i64 k, .slice A n c, .slice B m d] 38) none)
  have HP0 := Lib.hid (Tri.new w 38 (.int .i64 k) (.slice A n c) (.slice B m d))
  refine (HZ.out _ (H.out.grown HG0.out)).mono ?_
  rintro e w1 ⟨⟨r, rfl, hr⟩, hg1⟩
  have HG1 := Lib.hid (HG0.out.trans hg1)
  have HP1 := Lib.hid (HP0.out.grown hg1 (by simp))
  have HR := Lib.hid hr
  clear hg1 hr
  by_cases hneg : r < 0
  · go_wp2_with fail
    go_ret
    exact ⟨rfl, HG1.out⟩
  · have hr0 : 0 ≤ r := by omega
    have hfit := HR.out hr0
    rw [← HN.out, ← HM.out] at hfit
    have HFIT := Lib.hid hfit
    clear hfit
    have p0 := HP1.out.c0
    have p1 := HP1.out.c1
    have p2 := HP1.out.c2
    have HT := Lib.hid (fun u (hg : w.grownBy u none) => tov_any _ k LL D u (H.out.grown hg) HFIT.out)
    go_wp2_with fail
    refine (HT.out _ HG1.out).mono ?_
    rintro e w2 ⟨u2, rfl, hg2, ho2⟩
    have HG2 := Lib.hid (HG1.out.trans hg2)
    have HP2 := Lib.hid (HP1.out.grown hg2 (by simp))
    have HO2 := Lib.hid ho2.vct
    clear p0 p1 p2 hg2 ho2
    go_wp2_with fail
    refine (HW1.out _ _ HO2.out HFIT.out).mono ?_
    rintro e w3 ⟨rfl, hg3⟩
    have HG3 := Lib.hid (HG2.out.trans hg3)
    have HP3 := Lib.hid (HP2.out.grown hg3 (by simp))
    clear hg3
    have p0 := HP3.out.c0
    have p1 := HP3.out.c1
    have p2 := HP3.out.c2
    go_wp2_with fail
    refine (HT.out _ HG3.out).mono ?_
    rintro e w4 ⟨u4, rfl, hg4, ho4⟩
    have HG4 := Lib.hid (HG3.out.trans hg4)
    have HP4 := Lib.hid (HP3.out.grown hg4 (by simp))
    have hl4 := ho4.vct
    obtain ⟨A4, c4, B4, d4, rfl, _⟩ := ho4.vct
    have HO4 := Lib.hid hl4
    rw [HN.out, HM.out] at HO4 ⊢
    clear p0 p1 p2 hg4 ho4 hl4
    have HG5 := Lib.hid (HG4.out.trans (World.grownBy_alloc w4 (.cells #[.int .i64 k, .slice A4 n c4, .slice B4 m d4] 42) none))
    have HP5 := Lib.hid (HP4.out.alloc (.cells #[.int .i64 k, .slice A4 n c4, .slice B4 m d4] 42))
    have HX5 := Lib.hid (Tri.new w4 42 (.int .i64 k) (.slice A4 n c4) (.slice B4 m d4))
    have HO5 := Lib.hid (HO4.out.grown (World.grownBy_alloc w4 (.cells #[.int .i64 k, .slice A4 n c4, .slice B4 m d4] 42) none))
    go_wp2_with fail
    generalize w4.alloc (.cells #[.int .i64 k, .slice A4 n c4, .slice B4 m d4] 42) = w5 at HG5 HP5 HX5 HO5 ⊢
    refine (HW2.out _ _ HO5.out HFIT.out).mono ?_
    rintro e w6 ⟨rfl, hg6⟩
    have HG6 := Lib.hid (HG5.out.trans hg6)
    have HP6 := Lib.hid (HP5.out.grown hg6 (by simp))
    have HX6 := Lib.hid (HX5.out.grown hg6 (by simp))
    have HO6 := Lib.hid (HO5.out.grown hg6)
    clear hg6
    have p0 := HP6.out.c0
    have p1 := HP6.out.c1
    have p2 := HP6.out.c2
    have p3 := HX6.out.c0
    have p4 := HX6.out.c1
    have p5 := HX6.out.c2
    go_wp2_with fail
    go_region_law (first
      | (go_simp
         go_at_call 27
         refine (HT.out _ (HG6.out.trans (gr_drewN w6 _ none))).mono ?_
         rintro e w7 ⟨u7, rfl, hg7, ho7⟩
         have HG7 := Lib.hid (HG6.out.trans ((gr_drewN w6 _ none).trans hg7))
         have q3 := ((HX6.out.grown (gr_drewN w6 _ none) (by simp)).grown hg7 (by simp)).c0
         have q4 := ((HX6.out.grown (gr_drewN w6 _ none) (by simp)).grown hg7 (by simp)).c1
         have q5 := ((HX6.out.grown (gr_drewN w6 _ none) (by simp)).grown hg7 (by simp)).c2
         have HE7 := Lib.hid (HE.out _ _ w7 ((HO6.out.grown (gr_drewN w6 _ none)).grown hg7) ho7.vct HFIT.out)
         clear hg7 ho7)
      | (go_simp
         go_at_call 29
         refine HE7.out.mono ?_
         rintro e w8 ⟨rfl, hg8⟩
         have HG8 := Lib.hid (HG7.out.trans hg8)
         clear hg8))
    all_goals
      go_wp2_with fail
      go_ret
      exact ⟨rfl, HG8.out⟩

set_option maxRecDepth 100000 in
theorem vecok_lifted (os : Os) (started : os.Started) (H : Type) (enc : TypeId × Value → H) :
    ReturnsInHanded {} Try.checked os 6 .any (Rows.fnExactVectorValidSpec.pre6 enc Try.prog Try.f6 Rows.fnExactVectorValidRow.domain false) (Rows.fnExactVectorValidSpec.post enc Try.prog Try.f6 false true false false) := by
  refine returnsInHanded_of_change (C := Try.checked) knob_own started (by kernel_rfl) Try.func6
    (ChangeSpec.witness6 (enc := enc) (C := Try.checked) false ⟨#[], #[.agg #[.int .i64 0, .slice none 0 0, .slice none 0 0]], []⟩ 8 (by kernel_rfl) (by kernel_rfl) (by kernel_rfl) (by kernel_rfl)) ?_
  intro W base args ds gs before hval0 hW hcnd _
  have hval : ∀ (j : Nat) t v, Try.f6.params[j]? = some t → args[j]? = some v → Value.okWide Try.prog W .any base t v := hval0
  have hW' := hW
  obtain ⟨p, q, hA0, hV, rfl, hfz, hnd⟩ := hW
  have hA : DataW.TrodAll enc Try.prog W 0 (fun _ => true) true Try.f6.params.toList args.toList ds p := hA0
  rw [Try.params6] at hA hval
  obtain ⟨v0, d0, rfl, rfl, h0⟩ := trodAll_one hA
  obtain ⟨rfl, rfl⟩ := trodVars_none hV
  obtain ⟨k, LL, D, hl, -, hn, hsz, hd, _⟩ := open_vector (hval 0 38 v0 rfl rfl) h0
  clear hA0 hval0
  simp only [List.append_nil] at hW'
  have hlt : ∀ x ∈ p, x.block < W.heap.size := fun x hx => by simpa using hW'.lt x hx
  refine (law_vecok v0 k LL D W hl hn hsz hd).mono fun e W' ⟨he, hg⟩ => ?_
  subst he
  refine ⟨_, rfl, _, _, _, [], p, [], hW', ?_, ?_, rfl, (below_of hg).frame _, fun h => by cases h⟩
  · exact trodAll_mk1 (shut_bool Try.underlying4 _)
  · exact trodAll_mk1 (Below.trod laid_out (by kernel_rfl) (of_decide_eq_true (by kernel_rfl)) h0 (below_of hg) hlt)

theorem vecok_holds : Rows.FnExactVectorValidSaid :=
  OpenClaim.holds_of_wide 6 Try.f6 rfl rfl rfl rfl rfl rfl rfl ⟨rfl, rfl, rfl, rfl, rfl⟩ rfl rfl rfl rfl rfl (by kernel_rfl) Try.func6 (by kernel_rfl)
    (of_decide_eq_true (by kernel_rfl)) (by unfold Func.isWrapper; first | (rw [if_pos (by decide +kernel)]; kernel_rfl) | (rw [if_neg (by decide +kernel)]; exact ⟨rfl, rfl⟩))
    (fun os started H enc _ => vecok_lifted os started H enc)

#print axioms vecok_holds

end Go.Proofs.Ytbideeajdhejoaa
