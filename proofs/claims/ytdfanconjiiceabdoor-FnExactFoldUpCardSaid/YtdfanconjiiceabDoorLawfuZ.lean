/- 1 texts in one: Lawfu. -/
import Derived.Test.YtdfanconjiiceabDoorLytL
import Derived.Test.YtdfanconjiiceabDoorZFI
import Derived.Test.YtdfanconjiiceabDoorTabT
import Derived.Test.YtdfanconjiiceabDoorCards
import Derived.Deep.AppendLies
import Derived.Deep.RegionLaw
import Derived.OpenShut
import Derived.Stop.Joined
namespace Go.Proofs.YtdfanconjiiceabDoor
/- Lawfu -/
section
open Go.ChangeShapes Go.WideShapes Go.ChangeAt Go.RowKit

theorem door_met (os : Os) (args : Array Value) : laidMetH Tryd.prog Rows.fnExactFoldUpRow.laid ((World.doorLaid Tryd.prog 4000 os).forCall (fun _ _ => 0) ⟨#[], args, []⟩).memory := by
  rw [MakeChecks.laidMetH_plain _ _ _ (by kernel_rfl)]
  exact laidMet_of_run' 8 (by kernel_rfl) (by kernel_rfl)
theorem txt_eq {s t : ByteArray} {l : List UInt8} (h : s.data.toList = l) (h2 : t.data.toList = l) : s = t := by
  apply ByteArray.ext
  apply Array.toList_inj.1
  rw [h, h2]
theorem tab_at {w u : World} (h : Lib.TabIs Tryd.prog w "internal/strconv.uint64pow10" .u64 Lib.pow10Tab) (hg : w.grownBy u none) : Lib.TabIs Tryd.prog u "internal/strconv.uint64pow10" .u64 Lib.pow10Tab := (Lib.tabBelow_of_tabIs h) u (below_of hg)

set_option maxHeartbeats 1000000 in
theorem law_fu (v : Value) (LL : List (List Int)) (D : List Int) (w : World) (h : Lyt w v LL D) (hn : LL.length ≤ 9223372036854775807) (hsz : ∀ M ∈ LL, M.length ≤ 9223372036854775807) (hd : D.length ≤ 9223372036854775807) (htab : Lib.TabIs Tryd.prog w "internal/strconv.uint64pow10" .u64 Lib.pow10Tab) :
    Calls Tryd.prog 3 #[v] w fun e w' => e = .returned (.bool true) ∧ w.grownBy w' none := by
  have HZ := Lib.hid (fun w h => szl_any v LL D w h hn hsz hd)
  have H := Lib.hid h
  obtain ⟨A, c, B, d, rfl, _⟩ := h
  obtain ⟨n, hnn⟩ : ∃ n, LL.length = n := ⟨_, rfl⟩
  obtain ⟨m, hm⟩ : ∃ m, D.length = m := ⟨_, rfl⟩
  have HN := Lib.hid hnn
  have HM := Lib.hid hm
  have HW1 := Lib.hid (fun u w h hn => sfold_any u LL D w h hn)
  have HW2 := Lib.hid (fun u w1 h hn (hg : w.grownBy w1 none) => foldup_impl u LL D w1 h hn (tab_at htab hg))
  have HE := Lib.hid (fun u v w h h2 (hn : LL.length + totL LL + D.length ≤ 1048576) => eql_any u v LL D w h h2 (by omega))
  generalize foldText LL D = R at HW1 HW2
  rw [hm, hnn] at HZ H ⊢
  clear hn hnn hm hsz hd htab
  go_enter Tryd.func3, Tryd.ntmps3
  go_wp2_with fail
  have HG0 := Lib.hid (World.grownBy_alloc w (.cells #[.slice A n c, .slice B m d] 25) none)
  have HP0 := Lib.hid (Pr.new w 25 (.slice A n c) (.slice B m d))
  refine (HZ.out _ (H.out.grown HG0.out)).mono ?_
  rintro e w1 ⟨⟨r, rfl, hr⟩, hg1⟩
  have HG1 := Lib.hid (HG0.out.trans hg1)
  have HP1 := Lib.hid (HP0.out.grown hg1 (by simp))
  have HR := Lib.hid hr
  clear hg1 hr
  by_cases hneg : r < 0
  · go_wp2_with fail
    go_ret
    exact ⟨rfl, HG1.out⟩
  · have hr0 : 0 ≤ r := by omega
    have hfit := HR.out hr0
    rw [← HN.out, ← HM.out] at hfit
    have HFIT := Lib.hid hfit
    clear hfit
    have p0 := HP1.out.c0
    have p1 := HP1.out.c1
    have HT := Lib.hid (fun u (hg : w.grownBy u none) => tol_any _ LL D u (H.out.grown hg) HFIT.out)
    go_wp2_with fail
    refine (HT.out _ HG1.out).mono ?_
    rintro e w2 ⟨u2, rfl, hg2, ho2⟩
    have HG2 := Lib.hid (HG1.out.trans hg2)
    have HP2 := Lib.hid (HP1.out.grown hg2 (by simp))
    have HO2 := Lib.hid ho2
    clear p0 p1 hg2 ho2
    go_wp2_with fail
    refine (HW1.out _ _ HO2.out.lyt HFIT.out).mono ?_
    rintro e w3 ⟨⟨s3, rfl, hs3⟩, hg3⟩
    have HG3 := Lib.hid (HG2.out.trans hg3)
    have HP3 := Lib.hid (HP2.out.grown hg3 (by simp))
    have HS3 := Lib.hid hs3
    clear hg3 hs3
    have p0 := HP3.out.c0
    have p1 := HP3.out.c1
    go_wp2_with fail
    refine (HT.out _ HG3.out).mono ?_
    rintro e w4 ⟨u4, rfl, hg4, ho4⟩
    have HG4 := Lib.hid (HG3.out.trans hg4)
    have HP4 := Lib.hid (HP3.out.grown hg4 (by simp))
    have hl4 := ho4.lyt
    obtain ⟨A4, c4, B4, d4, rfl, _⟩ := ho4.lyt
    have HO4 := Lib.hid hl4
    rw [HN.out, HM.out] at HO4 ⊢
    clear p0 p1 hg4 ho4 hl4
    have HG5 := Lib.hid (HG4.out.trans (World.grownBy_alloc w4 (.cells #[.slice A4 n c4, .slice B4 m d4] 29) none))
    have HP5 := Lib.hid (HP4.out.alloc (.cells #[.slice A4 n c4, .slice B4 m d4] 29))
    have HX5 := Lib.hid (Pr.new w4 29 (.slice A4 n c4) (.slice B4 m d4))
    have HO5 := Lib.hid (HO4.out.grown (World.grownBy_alloc w4 (.cells #[.slice A4 n c4, .slice B4 m d4] 29) none))
    go_wp2_with fail
    generalize w4.alloc (.cells #[.slice A4 n c4, .slice B4 m d4] 29) = w5 at HG5 HP5 HX5 HO5 ⊢
    refine (HW2.out _ _ HO5.out HFIT.out HG5.out).mono ?_
    rintro e w6 ⟨⟨s6, rfl, hs6⟩, hg6⟩
    obtain rfl : s6 = s3 := txt_eq hs6 HS3.out
    have HG6 := Lib.hid (HG5.out.trans hg6)
    have HP6 := Lib.hid (HP5.out.grown hg6 (by simp))
    have HX6 := Lib.hid (HX5.out.grown hg6 (by simp))
    have HO6 := Lib.hid (HO5.out.grown hg6)
    clear hg6 hs6
    have p0 := HP6.out.c0
    have p1 := HP6.out.c1
    have p2 := HX6.out.c0
    have p3 := HX6.out.c1
    have hRR : (s6.toList == s6.toList) = true := by simp
    go_wp2_with fail
    go_region_law (first
      | (go_simp
         go_at_call 10
         refine (HT.out _ (HG6.out.trans (gr_drewN w6 _ none))).mono ?_
         rintro e w7 ⟨u7, rfl, hg7, ho7⟩
         have HG7 := Lib.hid (HG6.out.trans ((gr_drewN w6 _ none).trans hg7))
         have q2 := ((HX6.out.grown (gr_drewN w6 _ none) (by simp)).grown hg7 (by simp)).c0
         have q3 := ((HX6.out.grown (gr_drewN w6 _ none) (by simp)).grown hg7 (by simp)).c1
         have HE7 := Lib.hid (HE.out _ _ w7 ((HO6.out.grown (gr_drewN w6 _ none)).grown hg7) ho7.lyt HFIT.out)
         clear hg7 ho7)
      | (go_simp
         go_at_call 12
         refine HE7.out.mono ?_
         rintro e w8 ⟨rfl, hg8⟩
         have HG8 := Lib.hid (HG7.out.trans hg8)
         clear hg8))
    all_goals
      go_wp2_with fail
      go_ret
      exact ⟨rfl, HG8.out⟩

set_option maxRecDepth 100000 in
theorem fu_lifted (os : Os) (started : os.Started) (H : Type) (enc : TypeId × Value → H) :
    ReturnsInHanded {} Tryd.checked os 3 .any (fun w args => (Rows.fnExactFoldUpSpec.pre enc Tryd.prog Tryd.f3 [] false w args ∧ laidMetH Tryd.prog Rows.fnExactFoldUpRow.laid w) ∧ sizedMet enc Tryd.prog Tryd.f3 (OpenSpec.ofChange Rows.fnExactFoldUpSpec) false w args) (Rows.fnExactFoldUpSpec.post enc Tryd.prog Tryd.f3 false true false false) := by
  refine returnsInHanded_of_change_and (C := Tryd.checked) (X := fun w _ => laidMetH Tryd.prog Rows.fnExactFoldUpRow.laid w) (fun _ _ _ hh h => h.of_heap hh) knob_own started (by kernel_rfl) Tryd.func3
    (ChangeSpec.witness_shaped (enc := enc) (C := Tryd.checked) (os := os) (X := fun w _ => laidMetH Tryd.prog Rows.fnExactFoldUpRow.laid w) false (World.doorLaid Tryd.prog 4000 os) #[.agg #[.slice none 0 0, .slice none 0 0]] 8 rfl (World.shaped_of_RefB (by kernel_rfl) (by kernel_rfl)) (by kernel_rfl) (by kernel_rfl) (by kernel_rfl) (door_met os _)) ?_
  intro W base args ds gs before hval0 hW _ _ hL _
  have hval : ∀ (j : Nat) t v, Tryd.f3.params[j]? = some t → args[j]? = some v → Value.okWide Tryd.prog W .any base t v := hval0
  have hW' := hW
  obtain ⟨p, q, hA0, hV, rfl, hfz, hnd⟩ := hW
  have hA : DataW.TrodAll enc Tryd.prog W 0 (fun _ => true) true Tryd.f3.params.toList args.toList ds p := hA0
  rw [Tryd.params3] at hA hval
  obtain ⟨v0, d0, rfl, rfl, h0⟩ := trodAll_one hA
  obtain ⟨rfl, rfl⟩ := trodVars_none hV
  obtain ⟨LL, D, hl, hn, hsz, hd, _, _⟩ := open_layout (hval 0 25 v0 rfl rfl) h0
  rw [MakeChecks.laidMetH_plain _ _ _ (by kernel_rfl)] at hL
  have htab := pow_of hL
  clear hA0 hval0
  simp only [List.append_nil] at hW'
  have hlt : ∀ x ∈ p, x.block < W.heap.size := fun x hx => by simpa using hW'.lt x hx
  refine (law_fu v0 LL D W hl hn hsz hd htab).mono fun e W' ⟨he, hg⟩ => ?_
  subst he
  refine ⟨_, rfl, _, _, _, [], p, [], hW', ?_, ?_, rfl, (below_of hg).frame _, fun h => by cases h⟩
  · exact trodAll_mk1 (shut_bool Tryd.underlying4 _)
  · exact trodAll_mk1 (Below.trod laid_out (by kernel_rfl) (of_decide_eq_true (by kernel_rfl)) h0 (below_of hg) hlt)

theorem fu_row : Rows.FnExactFoldUpSaid :=
  OpenClaim.holds_of_wide 3 Tryd.f3 rfl rfl rfl rfl rfl rfl rfl ⟨rfl, rfl, rfl, rfl, rfl⟩ rfl rfl rfl rfl rfl (by kernel_rfl) Tryd.func3 (by kernel_rfl)
    (of_decide_eq_true (by kernel_rfl)) (by unfold Func.isWrapper; first | (rw [if_pos (by decide +kernel)]; kernel_rfl) | (rw [if_neg (by decide +kernel)]; exact ⟨rfl, rfl⟩))
    (fun os started H enc _ => fu_lifted os started H enc)

theorem fu_holds : Rows.FnExactFoldUpCardSaid :=
  Claim7.holds_tied_plain_at .later [] [.data, .data, .data] true (true, "e4c131f8e0be2f551910049f8c1a74ae708d6cb432420b0932ce20b57810c390") true
    fu_row (fun _ h => by cases h) (by kernel_rfl) (fun _ h => by cases h) fnExactFoldUp_row_tie rfl ⟨rfl, rfl⟩ (by kernel_rfl) rfl
    (fun f fn hf hfn => by
      obtain rfl : f = 3 := Option.some.inj ((show Tryd.prog.funcNamed "loop.example/flatarrays/laws.FnExactFoldUp" = some 3 by kernel_rfl).symm.trans hf) |>.symm
      obtain rfl : fn = Tryd.f3 := (Option.some.inj (Tryd.func3.symm.trans hfn)).symm
      exact ⟨by kernel_rfl, fun j t ht => by
        rw [Tryd.params3] at ht
        have hm : t ∈ [25] := by simpa using Array.mem_of_getElem? ht
        have hall : ([25].all fun u => !Tryd.prog.wantsStandIn u) = true := by kernel_rfl
        exact (show Tryd.prog.wantsStandIn t = false by simpa using List.all_eq_true.1 hall t hm)⟩)
    (by kernel_rfl)

#print axioms fu_holds
end

end Go.Proofs.YtdfanconjiiceabDoor
