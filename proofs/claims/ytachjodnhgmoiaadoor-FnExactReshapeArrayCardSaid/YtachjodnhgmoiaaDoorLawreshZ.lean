/- The law FnExactReshapeArray: for all arguments both functions answer alike, and the arguments read as they did. No condition but the library's own tables. -/
import Derived.Test.YtachjodnhgmoiaaDoorZQE
import Derived.Test.YtachjodnhgmoiaaDoorListArg
import Derived.Test.YtachjodnhgmoiaaDoorZQC
import Derived.Test.YtachjodnhgmoiaaDoorTabU
import Derived.ProofKit
import Derived.Test.YtachjodnhgmoiaaDoorTie
import Derived.Test.YtachjodnhgmoiaaDoorCards
import Derived.Lay
import Derived.Deep.AppendLies
import Derived.Deep.RegionLaw
import Derived.OpenShut
import Derived.Stop.Joined
namespace Go.Proofs.YtachjodnhgmoiaaDoor
/- Lawresh -/
section
open Go.ChangeShapes Go.WideShapes Go.ChangeAt Go.RowKit
open Go.ChangeMaps (open_string shut_string)

theorem door_met_resh (os : Os) (args : Array Value) : laidMetH Tryd.prog Rows.fnExactReshapeArrayRow.laid ((World.doorLaid Tryd.prog 4000 os).forCall (fun _ _ => 0) ⟨#[], args, []⟩).memory := by
  rw [MakeChecks.laidMetH_plain _ _ _ (by kernel_rfl)]
  exact laidMet_of_run' 8 (by kernel_rfl) (by kernel_rfl)
theorem tab_at {w u : World} (h : Lib.TabIs Tryd.prog w "internal/strconv.uint64pow10" .u64 Lib.pow10Tab) (hg : w.grownBy u none) : Lib.TabIs Tryd.prog u "internal/strconv.uint64pow10" .u64 Lib.pow10Tab := (Lib.tabBelow_of_tabIs h) u (below_of hg)

theorem txt_eq {s t : ByteArray} {l : List UInt8} (h : s.data.toList = l) (h2 : t.data.toList = l) : s = t := by
  apply ByteArray.ext
  apply Array.toList_inj.1
  rw [h, h2]

set_option maxRecDepth 100000 in
set_option maxHeartbeats 4000000 in
theorem law_resh_in (s0 : ByteArray) (i1 : Int) (A2 : Option Addr) (c2 : Nat) (L2 : List Int) (w : World) (hA2 : Ints w A2 L2) (hs0 : s0.size ≤ 1048576) (hL2 : L2.length ≤ 1048576) (htab : Lib.TabIs Tryd.prog w "internal/strconv.uint64pow10" .u64 Lib.pow10Tab) :
    Calls Tryd.prog 4 #[.string s0, .int .i64 i1, .slice A2 L2.length c2] w fun e w' => e = .returned (.bool true) ∧ w.grownBy w' none := by
  have HT2 := Lib.hid (fun u (hg : w.grownBy u none) => toi_any A2 c2 L2 u (hA2.grown hg (by simp)) hL2)
  have HE2 := Lib.hid (fun A B c d w h h2 => eqi_any A B c d L2 w h h2 (show L2.length ≤ 1099511627776 by omega))
  have HW1 := Lib.hid (fun u g2 (h2 : Ints u (some ⟨g2, 0, none⟩) L2) => resh_spec s0 i1 (some ⟨g2, 0, none⟩) L2.length L2 u h2 ⟨Nat.le_refl _, .inr ⟨g2, 0, rfl⟩⟩ hL2)
  have HW2 := Lib.hid (fun u (hg : w.grownBy u none) g2 (h2 : Ints u (some ⟨g2, 0, none⟩) L2) => resh_impl s0 i1 (some ⟨g2, 0, none⟩) L2.length L2 u h2 ⟨Nat.le_refl _, .inr ⟨g2, 0, rfl⟩⟩ hL2 (tab_at htab hg))
  generalize reshX s0 i1 L2 = X at HW1 HW2
  obtain ⟨n2, hn2⟩ : ∃ n, L2.length = n := ⟨_, rfl⟩
  have HN2 := Lib.hid hn2
  rw [hn2] at HW1 HW2 HT2 HE2 hL2 ⊢
  clear hA2 hn2
  clear htab
  go_enter Tryd.func4, Tryd.ntmps4
  go_wp2_with fail
  refine (HT2.out _ (gr_refl _ _)).mono ?_
  rintro e w1 ⟨rfl, hg1, ho1⟩
  have HG1 := Lib.hid ((gr_refl _ _).trans hg1)
  have HY2 := Lib.hid (Ints.of_own (e := 3) (by rw [HN2.out]; exact ho1))
  clear ho1
  go_wp2_with fail
  refine (HW1.out _ _ HY2.out).mono ?_
  rintro e w2 ⟨⟨sr, rfl, hsr⟩, hg2⟩
  have HG2 := Lib.hid ((HG1.out).trans hg2)
  have HY2 := Lib.hid (HY2.out.grown hg2 (by simp))
  have HSR := Lib.hid hsr
  clear hsr
  go_wp2_with fail
  refine (HT2.out _ (HG2.out)).mono ?_
  rintro e w3 ⟨rfl, hg3, ho3⟩
  have HG3 := Lib.hid ((HG2.out).trans hg3)
  have HX2 := Lib.hid (Ints.of_own (e := 3) (by rw [HN2.out]; exact ho3))
  clear ho3
  go_wp2_with fail
  refine (HW2.out _ (HG3.out) _ HX2.out).mono ?_
  rintro e w4 ⟨⟨sg, rfl, hsg⟩, hg4⟩
  have HG4 := Lib.hid ((HG3.out).trans hg4)
  have HX2 := Lib.hid (HX2.out.grown hg4 (by simp))
  obtain rfl : sg = sr := txt_eq hsg HSR.out
  clear hsg
  have hRR : (sg.toList == sg.toList) = true := by simp
  have hRN : (sg.toList != sg.toList) = false := by simp
  go_wp2_with fail
  refine (HT2.out _ (HG4.out)).mono ?_
  rintro e w5 ⟨rfl, hg5, ho5⟩
  have HG5 := Lib.hid ((HG4.out).trans hg5)
  have HX2 := Lib.hid (HX2.out.grown hg5 (by simp))
  have HZ2 := Lib.hid (Ints.of_own (e := 3) (by rw [HN2.out]; exact ho5))
  clear ho5
  go_wp2_with fail
  refine (HE2.out _ _ _ _ _ HX2.out HZ2.out).mono ?_
  rintro e w6 ⟨rfl, hg6⟩
  have HG6 := Lib.hid ((HG5.out).trans hg6)
  have HX2 := Lib.hid (HX2.out.grown hg6 (by simp))
  have HZ2 := Lib.hid (HZ2.out.grown hg6 (by simp))
  go_wp2_with fail
  go_ret
  exact ⟨rfl, HG6.out⟩

theorem law_resh (s0 : ByteArray) (i1 : Int) (A2 : Option Addr) (c2 : Nat) (L2 : List Int) (w : World) (hA2 : Ints w A2 L2) (hL2 : L2.length ≤ 9223372036854775807) (htab : Lib.TabIs Tryd.prog w "internal/strconv.uint64pow10" .u64 Lib.pow10Tab) :
    Calls Tryd.prog 4 #[.string s0, .int .i64 i1, .slice A2 L2.length c2] w fun e w' => e = .returned (.bool true) ∧ w.grownBy w' none := by
  rcases Nat.lt_or_ge 1048576 s0.size with hb0 | hb0
  · go_enter Tryd.func4, Tryd.ntmps4
    go_wp2_with fail
    go_ret
    exact ⟨rfl, gr_refl _ _⟩
  rcases Nat.lt_or_ge 1048576 L2.length with hb2 | hb2
  · clear hA2
    generalize L2.length = n2 at *
    go_enter Tryd.func4, Tryd.ntmps4
    go_wp2_with fail
    go_ret
    exact ⟨rfl, gr_refl _ _⟩
  exact law_resh_in s0 i1 A2 c2 L2 w hA2 hb0 hb2 htab

set_option maxRecDepth 100000 in
theorem resh_lifted (os : Os) (started : os.Started) (H : Type) (enc : TypeId × Value → H) :
    ReturnsInHanded {} Tryd.checked os 4 .any (fun w args => (Rows.fnExactReshapeArraySpec.pre enc Tryd.prog Tryd.f4 [] false w args ∧ laidMetH Tryd.prog Rows.fnExactReshapeArrayRow.laid w) ∧ sizedMet enc Tryd.prog Tryd.f4 (OpenSpec.ofChange Rows.fnExactReshapeArraySpec) false w args) (Rows.fnExactReshapeArraySpec.post enc Tryd.prog Tryd.f4 false true false false) := by
  refine returnsInHanded_of_change_and (C := Tryd.checked) (X := fun w _ => laidMetH Tryd.prog Rows.fnExactReshapeArrayRow.laid w) (fun _ _ _ hh h => h.of_heap hh) knob_own started (by kernel_rfl) Tryd.func4
    (ChangeSpec.witness_shaped (enc := enc) (C := Tryd.checked) (os := os) (X := fun w _ => laidMetH Tryd.prog Rows.fnExactReshapeArrayRow.laid w) false (World.doorLaid Tryd.prog 4000 os) #[.string .empty, .int .i64 0, .slice none 0 0] 8 rfl (World.shaped_of_RefB (by kernel_rfl) (by kernel_rfl)) (by kernel_rfl) (by kernel_rfl) (by kernel_rfl) (door_met_resh os _)) ?_
  intro W base args ds gs before hval0 hW _ _ hL _
  have hval : ∀ (j : Nat) t v, Tryd.f4.params[j]? = some t → args[j]? = some v → Value.okWide Tryd.prog W .any base t v := hval0
  have hW' := hW
  obtain ⟨p, q, hA0, hV, rfl, hfz, hnd⟩ := hW
  have hA : DataW.TrodAll enc Tryd.prog W 0 (fun _ => true) true Tryd.f4.params.toList args.toList ds p := hA0
  rw [Tryd.params4] at hA hval
  obtain ⟨v0, v1, v2, d0, d1, d2, p0, p1, p2, rfl, rfl, rfl, h0, h1, h2⟩ := trodAll_three hA
  obtain ⟨rfl, rfl⟩ := trodVars_none hV
  obtain ⟨s0, rfl, rfl, rfl, hmax0⟩ := open_string Tryd.underlying9 (hval 0 9 v0 rfl rfl) h0
  obtain ⟨i1, rfl, rfl, rfl, wn1⟩ := open_int Tryd.underlying3 (hval 1 3 v1 rfl rfl) h1
  obtain ⟨A2, c2, L2, rfl, a2, b2⟩ := open_ints1 (hval 2 22 v2 rfl rfl) h2
  rw [MakeChecks.laidMetH_plain _ _ _ (by kernel_rfl)] at hL
  have htab := pow_of hL
  clear hA0 hval0
  simp only [List.append_nil, List.nil_append] at hW'
  have hlt : ∀ x ∈ p2, x.block < W.heap.size := fun x hx => by simpa using hW'.lt x hx
  refine (law_resh s0 i1 A2 c2 L2 W b2 a2 htab).mono fun e W' ⟨he, hg⟩ => ?_
  subst he
  refine ⟨_, rfl, _, _, _, [], p2, [], hW', ?_, ?_, rfl, (below_of hg).frame _, fun h => by cases h⟩
  · exact trodAll_mk1 (shut_bool Tryd.underlying4 _)
  · exact trodAll_mk3 (shut_string Tryd.underlying9 hmax0) (shut_int Tryd.underlying3 wn1) (Below.trod laid_out (by kernel_rfl) (of_decide_eq_true (by kernel_rfl)) h2 (below_of hg) (fun x hx => hlt x hx))

theorem resh_row : Rows.FnExactReshapeArraySaid :=
  OpenClaim.holds_of_wide 4 Tryd.f4 rfl rfl rfl rfl rfl rfl rfl ⟨rfl, rfl, rfl, rfl, rfl⟩ rfl rfl rfl rfl rfl (by kernel_rfl) Tryd.func4 (by kernel_rfl)
    (of_decide_eq_true (by kernel_rfl)) (by unfold Func.isWrapper; first | (rw [if_pos (by decide +kernel)]; kernel_rfl) | (rw [if_neg (by decide +kernel)]; exact ⟨rfl, rfl⟩))
    (fun os started H enc _ => resh_lifted os started H enc)

theorem resh_holds : Rows.FnExactReshapeArrayCardSaid :=
  Claim7.holds_tied_plain_at .later [] [.data, .data, .data] true (true, "fec2c6006f76103cc5ef256cee5b1e115a21903d3e14752a11cfbec660d7657b") true
    resh_row (fun _ h => by cases h) (by kernel_rfl) (fun _ h => by cases h) fnExactReshapeArray_row_tie rfl ⟨rfl, rfl⟩ (by kernel_rfl) rfl
    (fun f fn hf hfn => by
      obtain rfl : f = 4 := Option.some.inj ((show Tryd.prog.funcNamed "loop.example/flatarrays/laws.FnExactReshapeArray" = some 4 by kernel_rfl).symm.trans hf) |>.symm
      obtain rfl : fn = Tryd.f4 := (Option.some.inj (Tryd.func4.symm.trans hfn)).symm
      exact ⟨by kernel_rfl, fun j t ht => by
        rw [Tryd.params4] at ht
        have hm : t ∈ [9, 3, 22] := by simpa using Array.mem_of_getElem? ht
        have hall : ([9, 3, 22].all fun u => !Tryd.prog.wantsStandIn u) = true := by kernel_rfl
        exact (show Tryd.prog.wantsStandIn t = false by simpa using List.all_eq_true.1 hall t hm)⟩)
    (by kernel_rfl)

#print axioms resh_holds
end

end Go.Proofs.YtachjodnhgmoiaaDoor
