/- The law FnExactCutArray: for all arguments both functions answer alike, and the arguments read as they did. No condition but the library's own tables. -/
import Derived.Test.YtachjodnhgmoiaaGreatDoorZCE
import Derived.Test.YtachjodnhgmoiaaGreatDoorLeav
import Derived.Test.YtachjodnhgmoiaaGreatDoorListArg
import Derived.Test.YtachjodnhgmoiaaGreatDoorZCB
import Derived.Test.YtachjodnhgmoiaaGreatDoorTabU
import Derived.ProofKit
import Derived.Test.YtachjodnhgmoiaaGreatDoorTie
import Derived.Test.YtachjodnhgmoiaaGreatDoorCards
import Derived.Lay
import Derived.Deep.AppendLies
import Derived.Deep.RegionLaw
import Derived.OpenShut
import Derived.Stop.Joined
namespace Go.Proofs.YtachjodnhgmoiaaGreatDoor
/- Lawcut -/
section
open Go.ChangeShapes Go.WideShapes Go.ChangeAt Go.RowKit
open Go.ChangeMaps (open_string shut_string)

theorem door_met_cut (os : Os) (args : Array Value) : laidMetH Tryz.prog Rows.fnExactCutArrayRow.laid ((World.doorLaid Tryz.prog 4000 os).forCall (fun _ _ => 0) ⟨#[], args, []⟩).memory := by
  rw [MakeChecks.laidMetH_plain _ _ _ (by kernel_rfl)]
  exact laidMet_of_run' 8 (by kernel_rfl) (by kernel_rfl)
theorem tab_at {w u : World} (h : Lib.TabIs Tryz.prog w "internal/strconv.uint64pow10" .u64 Lib.pow10Tab) (hg : w.grownBy u none) : Lib.TabIs Tryz.prog u "internal/strconv.uint64pow10" .u64 Lib.pow10Tab := (Lib.tabBelow_of_tabIs h) u (below_of hg)

theorem txt_eq {s t : ByteArray} {l : List UInt8} (h : s.data.toList = l) (h2 : t.data.toList = l) : s = t := by
  apply ByteArray.ext
  apply Array.toList_inj.1
  rw [h, h2]

set_option maxRecDepth 100000 in
set_option maxHeartbeats 4000000 in
theorem law_cut_in (s0 : ByteArray) (A1 : Option Addr) (c1 : Nat) (L1 : List Int) (w : World) (hA1 : Ints w A1 L1) (hs0 : s0.size ≤ 1048576) (hL1 : L1.length ≤ 1048576) (htab : Lib.TabIs Tryz.prog w "internal/strconv.uint64pow10" .u64 Lib.pow10Tab) :
    Calls Tryz.prog 4 #[.string s0, .slice A1 L1.length c1] w fun e w' => e = .returned (.bool true) ∧ w.grownBy w' none := by
  have HT1 := Lib.hid (fun u (hg : w.grownBy u none) => toi_any A1 c1 L1 u (hA1.grown hg (by simp)) hL1)
  have HE1 := Lib.hid (fun A B c d w h h2 => eqi_any A B c d L1 w h h2 (show L1.length ≤ 1099511627776 by omega))
  have HW1 := Lib.hid (fun u g1 (h1 : Ints u (some ⟨g1, 0, none⟩) L1) => cut_spec s0 (some ⟨g1, 0, none⟩) L1.length L1 u h1 hL1)
  have HW2 := Lib.hid (fun u (hg : w.grownBy u none) g1 (h1 : Ints u (some ⟨g1, 0, none⟩) L1) => cut_impl s0 (some ⟨g1, 0, none⟩) L1.length L1 u h1 hL1 (tab_at htab hg))
  generalize cutX s0 L1 = X at HW1 HW2
  obtain ⟨n1, hn1⟩ : ∃ n, L1.length = n := ⟨_, rfl⟩
  have HN1 := Lib.hid hn1
  rw [hn1] at HW1 HW2 HT1 HE1 hL1 ⊢
  clear hA1 hn1
  clear htab
  go_enter Tryz.func4, Tryz.ntmps4
  go_wp2_with fail
  refine (HT1.out _ (gr_refl _ _)).mono ?_
  rintro e w1 ⟨rfl, hg1, ho1⟩
  have HG1 := Lib.hid ((gr_refl _ _).trans hg1)
  have HY1 := Lib.hid (Ints.of_own (e := 3) (by rw [HN1.out]; exact ho1))
  clear ho1
  go_wp2_with fail
  refine (HW1.out _ _ HY1.out).mono ?_
  rintro e w2 ⟨⟨sr, rfl, hsr⟩, hg2⟩
  have HG2 := Lib.hid ((HG1.out).trans hg2)
  have HY1 := Lib.hid (HY1.out.grown hg2 (by simp))
  have HSR := Lib.hid hsr
  clear hsr
  go_wp2_with fail
  refine (HT1.out _ (HG2.out)).mono ?_
  rintro e w3 ⟨rfl, hg3, ho3⟩
  have HG3 := Lib.hid ((HG2.out).trans hg3)
  have HX1 := Lib.hid (Ints.of_own (e := 3) (by rw [HN1.out]; exact ho3))
  clear ho3
  go_wp2_with fail
  refine (HW2.out _ (HG3.out) _ HX1.out).mono ?_
  rintro e w4 ⟨⟨sg, rfl, hsg⟩, hg4⟩
  have HG4 := Lib.hid ((HG3.out).trans hg4)
  have HX1 := Lib.hid (HX1.out.grown hg4 (by simp))
  obtain rfl : sg = sr := txt_eq hsg HSR.out
  clear hsg
  have hRR : (sg.toList == sg.toList) = true := by simp
  have hRN : (sg.toList != sg.toList) = false := by simp
  go_wp2_with fail
  refine (HT1.out _ (HG4.out)).mono ?_
  rintro e w5 ⟨rfl, hg5, ho5⟩
  have HG5 := Lib.hid ((HG4.out).trans hg5)
  have HX1 := Lib.hid (HX1.out.grown hg5 (by simp))
  have HZ1 := Lib.hid (Ints.of_own (e := 3) (by rw [HN1.out]; exact ho5))
  clear ho5
  go_wp2_with fail
  refine (HE1.out _ _ _ _ _ HX1.out HZ1.out).mono ?_
  rintro e w6 ⟨rfl, hg6⟩
  have HG6 := Lib.hid ((HG5.out).trans hg6)
  have HX1 := Lib.hid (HX1.out.grown hg6 (by simp))
  have HZ1 := Lib.hid (HZ1.out.grown hg6 (by simp))
  go_wp2_with fail
  go_ret
  exact ⟨rfl, HG6.out⟩

theorem law_cut (s0 : ByteArray) (A1 : Option Addr) (c1 : Nat) (L1 : List Int) (w : World) (hA1 : Ints w A1 L1) (hL1 : L1.length ≤ 9223372036854775807) (htab : Lib.TabIs Tryz.prog w "internal/strconv.uint64pow10" .u64 Lib.pow10Tab) :
    Calls Tryz.prog 4 #[.string s0, .slice A1 L1.length c1] w fun e w' => e = .returned (.bool true) ∧ w.grownBy w' none := by
  rcases Nat.lt_or_ge 1048576 s0.size with hb0 | hb0
  · go_enter Tryz.func4, Tryz.ntmps4
    go_wp2_with fail
    go_ret
    exact ⟨rfl, gr_refl _ _⟩
  rcases Nat.lt_or_ge 1048576 L1.length with hb1 | hb1
  · clear hA1
    generalize L1.length = n1 at *
    go_enter Tryz.func4, Tryz.ntmps4
    go_wp2_with fail
    go_ret
    exact ⟨rfl, gr_refl _ _⟩
  exact law_cut_in s0 A1 c1 L1 w hA1 hb0 hb1 htab

set_option maxRecDepth 100000 in
theorem cut_lifted (os : Os) (started : os.Started) (H : Type) (enc : TypeId × Value → H) :
    ReturnsInHanded {} Tryz.checked os 4 .any (fun w args => (Rows.fnExactCutArraySpec.pre enc Tryz.prog Tryz.f4 [] false w args ∧ laidMetH Tryz.prog Rows.fnExactCutArrayRow.laid w) ∧ sizedMet enc Tryz.prog Tryz.f4 (OpenSpec.ofChange Rows.fnExactCutArraySpec) false w args) (Rows.fnExactCutArraySpec.post enc Tryz.prog Tryz.f4 false true false false) := by
  refine returnsInHanded_of_change_and (C := Tryz.checked) (X := fun w _ => laidMetH Tryz.prog Rows.fnExactCutArrayRow.laid w) (fun _ _ _ hh h => h.of_heap hh) knob_own started (by kernel_rfl) Tryz.func4
    (ChangeSpec.witness_shaped (enc := enc) (C := Tryz.checked) (os := os) (X := fun w _ => laidMetH Tryz.prog Rows.fnExactCutArrayRow.laid w) false (World.doorLaid Tryz.prog 4000 os) #[.string .empty, .slice none 0 0] 8 rfl (World.shaped_of_RefB (by kernel_rfl) (by kernel_rfl)) (by kernel_rfl) (by kernel_rfl) (by kernel_rfl) (door_met_cut os _)) ?_
  intro W base args ds gs before hval0 hW _ _ hL _
  have hval : ∀ (j : Nat) t v, Tryz.f4.params[j]? = some t → args[j]? = some v → Value.okWide Tryz.prog W .any base t v := hval0
  have hW' := hW
  obtain ⟨p, q, hA0, hV, rfl, hfz, hnd⟩ := hW
  have hA : DataW.TrodAll enc Tryz.prog W 0 (fun _ => true) true Tryz.f4.params.toList args.toList ds p := hA0
  rw [Tryz.params4] at hA hval
  obtain ⟨v0, v1, d0, d1, p0, p1, rfl, rfl, rfl, h0, h1⟩ := trodAll_two hA
  obtain ⟨rfl, rfl⟩ := trodVars_none hV
  obtain ⟨s0, rfl, rfl, rfl, hmax0⟩ := open_string Tryz.underlying9 (hval 0 9 v0 rfl rfl) h0
  obtain ⟨A1, c1, L1, rfl, a1, b1⟩ := open_ints1 (hval 1 25 v1 rfl rfl) h1
  rw [MakeChecks.laidMetH_plain _ _ _ (by kernel_rfl)] at hL
  have htab := pow_of hL
  clear hA0 hval0
  simp only [List.append_nil, List.nil_append] at hW'
  have hlt : ∀ x ∈ p1, x.block < W.heap.size := fun x hx => by simpa using hW'.lt x hx
  refine (law_cut s0 A1 c1 L1 W b1 a1 htab).mono fun e W' ⟨he, hg⟩ => ?_
  subst he
  refine ⟨_, rfl, _, _, _, [], p1, [], hW', ?_, ?_, rfl, (below_of hg).frame _, fun h => by cases h⟩
  · exact trodAll_mk1 (shut_bool Tryz.underlying4 _)
  · exact trodAll_mk2 (shut_string Tryz.underlying9 hmax0) (Below.trod laid_out (by kernel_rfl) (of_decide_eq_true (by kernel_rfl)) h1 (below_of hg) (fun x hx => hlt x hx))

/-- A tied card without a companion, of a row that holds a go statement. -/
theorem tied_goes {p : Pinned} {s : OpenSpec} {c : OpenClaim} (kinds : List LaidKind) (har : Bool × String) (lk : Bool)
    (hc : c.holds p s) (hw : c.wfByText s = true) (htie : c.laidByTextAt .later p kinds true)
    (hst : c.start = .entering) (hnb : c.noBlocks = false ∧ c.again = false) (hm : p.checked.prog.mainIs = some (har.1, har.2.toList)) (hn : (!har.1 && har.2.isEmpty && !lk) = false)
    (hl : ∀ f fn, p.checked.prog.funcNamed c.func = some f → p.checked.prog.funcs[f]? = some fn → lk = p.checked.prog.looks [] ∧ ∀ (j : Nat) t, fn.params[j]? = some t → p.checked.prog.wantsStandIn t = false)
    (hg : true = c.goesBy p.checked.prog) :
    Claim7.holds p (.plain s) { stood := { row := c, standIns := [], harness := har, looks := lk }, kinds := [], alts := [], goes := true, laidByText := true, laidKinds := kinds, laidTests := true, laidLooks := .later } := by
  have h6 : Claim7.isSixth { stood := { row := c, standIns := [], harness := har, looks := lk }, kinds := [] } = false := by simpa [Claim7.isSixth] using hn
  refine ⟨?_, fun D hD => ?_, htie, (fun h => by cases h), hg⟩
  · exact Claim7.tied_new_at .later kinds true (Claim7.new_of_sixth hc har lk hst hnb hm h6 hl) hw
  · cases hD

theorem cut_row : Rows.FnExactCutArraySaid :=
  OpenClaim.holds_of_wide_leaving 4 Tryz.f4 rfl rfl rfl rfl rfl rfl rfl ⟨rfl, rfl, rfl, rfl, rfl⟩ rfl rfl rfl rfl rfl (by kernel_rfl) Tryz.func4 (by kernel_rfl)
    (of_decide_eq_true (by kernel_rfl)) (by unfold Func.isWrapper; first | (rw [if_pos (by decide +kernel)]; kernel_rfl) | (rw [if_neg (by decide +kernel)]; exact ⟨rfl, rfl⟩))
    (fun os started H enc _ => leaving_of_handed (cut_lifted os started H enc))

theorem cut_holds : Rows.FnExactCutArrayCardSaid :=
  tied_goes [.data, .data, .data] (true, "e687b6d062c924fd9494f2cceddeff613f8f3ecf222e85c2f509bef3a10512ce") true
    cut_row (by kernel_rfl) fnExactCutArray_row_tie rfl ⟨rfl, rfl⟩ (by kernel_rfl) rfl
    (fun f fn hf hfn => by
      obtain rfl : f = 4 := Option.some.inj ((show Tryz.prog.funcNamed "loop.example/flatarrays/laws.FnExactCutArray" = some 4 by kernel_rfl).symm.trans hf) |>.symm
      obtain rfl : fn = Tryz.f4 := (Option.some.inj (Tryz.func4.symm.trans hfn)).symm
      exact ⟨by kernel_rfl, fun j t ht => by
        rw [Tryz.params4] at ht
        have hm : t ∈ [9, 25] := by simpa using Array.mem_of_getElem? ht
        have hall : ([9, 25].all fun u => !Tryz.prog.wantsStandIn u) = true := by kernel_rfl
        exact (show Tryz.prog.wantsStandIn t = false by simpa using List.all_eq_true.1 hall t hm)⟩)
    (by kernel_rfl)

#print axioms cut_holds
end

end Go.Proofs.YtachjodnhgmoiaaGreatDoor
