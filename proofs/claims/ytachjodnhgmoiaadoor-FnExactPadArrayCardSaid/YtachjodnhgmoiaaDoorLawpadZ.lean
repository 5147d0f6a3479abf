/- The law FnExactPadArray: for all arguments both functions answer alike, and the arguments read as they did. No condition but the library's own tables. -/
import Derived.Test.YtachjodnhgmoiaaDoorZUE
import Derived.Test.YtachjodnhgmoiaaDoorZUB
import Derived.Test.YtachjodnhgmoiaaDoorTabU
import Derived.ProofKit
import Derived.Test.YtachjodnhgmoiaaDoorTie
import Derived.Test.YtachjodnhgmoiaaDoorCards
import Derived.Lay
import Derived.Deep.AppendLies
import Derived.Deep.RegionLaw
import Derived.OpenShut
import Derived.Stop.Joined
namespace Go.Proofs.YtachjodnhgmoiaaDoor
/- Lawpad -/
section
open Go.ChangeShapes Go.WideShapes Go.ChangeAt Go.RowKit
open Go.ChangeMaps (open_string shut_string)

theorem door_met_pad (os : Os) (args : Array Value) : laidMetH Tryd.prog Rows.fnExactPadArrayRow.laid ((World.doorLaid Tryd.prog 4000 os).forCall (fun _ _ => 0) ⟨#[], args, []⟩).memory := by
  rw [MakeChecks.laidMetH_plain _ _ _ (by kernel_rfl)]
  exact laidMet_of_run' 8 (by kernel_rfl) (by kernel_rfl)
theorem tab_at {w u : World} (h : Lib.TabIs Tryd.prog w "internal/strconv.uint64pow10" .u64 Lib.pow10Tab) (hg : w.grownBy u none) : Lib.TabIs Tryd.prog u "internal/strconv.uint64pow10" .u64 Lib.pow10Tab := (Lib.tabBelow_of_tabIs h) u (below_of hg)

theorem txt_eq {s t : ByteArray} {l : List UInt8} (h : s.data.toList = l) (h2 : t.data.toList = l) : s = t := by
  apply ByteArray.ext
  apply Array.toList_inj.1
  rw [h, h2]

set_option maxRecDepth 100000 in
set_option maxHeartbeats 4000000 in
theorem law_pad_in (s0 : ByteArray) (w : World)  (hs0 : s0.size ≤ 1048576)  (htab : Lib.TabIs Tryd.prog w "internal/strconv.uint64pow10" .u64 Lib.pow10Tab) :
    Calls Tryd.prog 5 #[.string s0] w fun e w' => e = .returned (.bool true) ∧ w.grownBy w' none := by
  have HW1 := Lib.hid (fun u  => pad_spec s0 u)
  have HW2 := Lib.hid (fun u (hg : w.grownBy u none)  => pad_impl s0 u (tab_at htab hg))
  generalize padX s0 = X at HW1 HW2
  clear htab
  go_enter Tryd.func5, Tryd.ntmps5
  go_wp2_with fail
  refine (HW1.out _ ).mono ?_
  rintro e w1 ⟨⟨sr, rfl, hsr⟩, hg1⟩
  have HG1 := Lib.hid ((gr_refl _ _).trans hg1)
  have HSR := Lib.hid hsr
  clear hsr
  go_wp2_with fail
  refine (HW2.out _ (HG1.out) ).mono ?_
  rintro e w2 ⟨⟨sg, rfl, hsg⟩, hg2⟩
  have HG2 := Lib.hid ((HG1.out).trans hg2)
  obtain rfl : sg = sr := txt_eq hsg HSR.out
  clear hsg
  have hRR : (sg.toList == sg.toList) = true := by simp
  have hRN : (sg.toList != sg.toList) = false := by simp
  go_wp2_with fail
  go_ret
  exact ⟨rfl, HG2.out⟩

theorem law_pad (s0 : ByteArray) (w : World)   (htab : Lib.TabIs Tryd.prog w "internal/strconv.uint64pow10" .u64 Lib.pow10Tab) :
    Calls Tryd.prog 5 #[.string s0] w fun e w' => e = .returned (.bool true) ∧ w.grownBy w' none := by
  rcases Nat.lt_or_ge 1048576 s0.size with hb0 | hb0
  · go_enter Tryd.func5, Tryd.ntmps5
    go_wp2_with fail
    go_ret
    exact ⟨rfl, gr_refl _ _⟩
  exact law_pad_in s0 w  hb0  htab

set_option maxRecDepth 100000 in
theorem pad_lifted (os : Os) (started : os.Started) (H : Type) (enc : TypeId × Value → H) :
    ReturnsInHanded {} Tryd.checked os 5 .any (fun w args => (Rows.fnExactPadArraySpec.pre enc Tryd.prog Tryd.f5 [] false w args ∧ laidMetH Tryd.prog Rows.fnExactPadArrayRow.laid w) ∧ sizedMet enc Tryd.prog Tryd.f5 (OpenSpec.ofChange Rows.fnExactPadArraySpec) false w args) (Rows.fnExactPadArraySpec.post enc Tryd.prog Tryd.f5 false true false false) := by
  refine returnsInHanded_of_change_and (C := Tryd.checked) (X := fun w _ => laidMetH Tryd.prog Rows.fnExactPadArrayRow.laid w) (fun _ _ _ hh h => h.of_heap hh) knob_own started (by kernel_rfl) Tryd.func5
    (ChangeSpec.witness_shaped (enc := enc) (C := Tryd.checked) (os := os) (X := fun w _ => laidMetH Tryd.prog Rows.fnExactPadArrayRow.laid w) false (World.doorLaid Tryd.prog 4000 os) #[.string .empty] 8 rfl (World.shaped_of_RefB (by kernel_rfl) (by kernel_rfl)) (by kernel_rfl) (by kernel_rfl) (by kernel_rfl) (door_met_pad os _)) ?_
  intro W base args ds gs before hval0 hW _ _ hL _
  have hval : ∀ (j : Nat) t v, Tryd.f5.params[j]? = some t → args[j]? = some v → Value.okWide Tryd.prog W .any base t v := hval0
  have hW' := hW
  obtain ⟨p, q, hA0, hV, rfl, hfz, hnd⟩ := hW
  have hA : DataW.TrodAll enc Tryd.prog W 0 (fun _ => true) true Tryd.f5.params.toList args.toList ds p := hA0
  rw [Tryd.params5] at hA hval
  obtain ⟨v0, d0, rfl, rfl, h0⟩ := trodAll_one hA
  obtain ⟨rfl, rfl⟩ := trodVars_none hV
  obtain ⟨s0, rfl, rfl, rfl, hmax0⟩ := open_string Tryd.underlying9 (hval 0 9 v0 rfl rfl) h0
  rw [MakeChecks.laidMetH_plain _ _ _ (by kernel_rfl)] at hL
  have htab := pow_of hL
  clear hA0 hval0
  simp only [List.append_nil] at hW'
  refine (law_pad s0 W   htab).mono fun e W' ⟨he, hg⟩ => ?_
  subst he
  refine ⟨_, rfl, _, _, _, [], [], [], hW', ?_, ?_, rfl, (below_of hg).frame _, fun h => by cases h⟩
  · exact trodAll_mk1 (shut_bool Tryd.underlying4 _)
  · exact trodAll_mk1 (shut_string Tryd.underlying9 hmax0)

theorem pad_row : Rows.FnExactPadArraySaid :=
  OpenClaim.holds_of_wide 5 Tryd.f5 rfl rfl rfl rfl rfl rfl rfl ⟨rfl, rfl, rfl, rfl, rfl⟩ rfl rfl rfl rfl rfl (by kernel_rfl) Tryd.func5 (by kernel_rfl)
    (of_decide_eq_true (by kernel_rfl)) (by unfold Func.isWrapper; first | (rw [if_pos (by decide +kernel)]; kernel_rfl) | (rw [if_neg (by decide +kernel)]; exact ⟨rfl, rfl⟩))
    (fun os started H enc _ => pad_lifted os started H enc)

theorem pad_holds : Rows.FnExactPadArrayCardSaid :=
  Claim7.holds_tied_plain_at .later [] [.data, .data, .data] true (true, "fec2c6006f76103cc5ef256cee5b1e115a21903d3e14752a11cfbec660d7657b") true
    pad_row (fun _ h => by cases h) (by kernel_rfl) (fun _ h => by cases h) fnExactPadArray_row_tie rfl ⟨rfl, rfl⟩ (by kernel_rfl) rfl
    (fun f fn hf hfn => by
      obtain rfl : f = 5 := Option.some.inj ((show Tryd.prog.funcNamed "loop.example/flatarrays/laws.FnExactPadArray" = some 5 by kernel_rfl).symm.trans hf) |>.symm
      obtain rfl : fn = Tryd.f5 := (Option.some.inj (Tryd.func5.symm.trans hfn)).symm
      exact ⟨by kernel_rfl, fun j t ht => by
        rw [Tryd.params5] at ht
        have hm : t ∈ [9] := by simpa using Array.mem_of_getElem? ht
        have hall : ([9].all fun u => !Tryd.prog.wantsStandIn u) = true := by kernel_rfl
        exact (show Tryd.prog.wantsStandIn t = false by simpa using List.all_eq_true.1 hall t hm)⟩)
    (by kernel_rfl)

#print axioms pad_holds
end

end Go.Proofs.YtachjodnhgmoiaaDoor
