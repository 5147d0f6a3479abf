/- The law FnExactFillShape: for all arguments both functions answer alike, and the arguments read as they did. No condition but the library's own tables. -/
import Derived.Test.YtachjodnhgmoiaaDoorZQD
import Derived.Test.YtachjodnhgmoiaaDoorListArg
import Derived.Test.YtachjodnhgmoiaaDoorZQC
import Derived.Test.YtachjodnhgmoiaaDoorTabU
import Derived.ProofKit
import Derived.Test.YtachjodnhgmoiaaDoorTie
import Derived.Test.YtachjodnhgmoiaaDoorCards
import Derived.Lay
import Derived.Deep.AppendLies
import Derived.Deep.RegionLaw
import Derived.OpenShut
import Derived.Stop.Joined
namespace Go.Proofs.YtachjodnhgmoiaaDoor
/- Lawfill -/
section
open Go.ChangeShapes Go.WideShapes Go.ChangeAt Go.RowKit
open Go.ChangeMaps (open_string shut_string)

theorem door_met_fill (os : Os) (args : Array Value) : laidMetH Tryd.prog Rows.fnExactFillShapeRow.laid ((World.doorLaid Tryd.prog 4000 os).forCall (fun _ _ => 0) ⟨#[], args, []⟩).memory := by
  rw [MakeChecks.laidMetH_plain _ _ _ (by kernel_rfl)]
  exact laidMet_of_run' 8 (by kernel_rfl) (by kernel_rfl)
theorem tab_at {w u : World} (h : Lib.TabIs Tryd.prog w "internal/strconv.uint64pow10" .u64 Lib.pow10Tab) (hg : w.grownBy u none) : Lib.TabIs Tryd.prog u "internal/strconv.uint64pow10" .u64 Lib.pow10Tab := (Lib.tabBelow_of_tabIs h) u (below_of hg)

theorem txt_eq {s t : ByteArray} {l : List UInt8} (h : s.data.toList = l) (h2 : t.data.toList = l) : s = t := by
  apply ByteArray.ext
  apply Array.toList_inj.1
  rw [h, h2]

set_option maxRecDepth 100000 in
set_option maxHeartbeats 4000000 in
theorem law_fill_in (A0 : Option Addr) (c0 : Nat) (L0 : List Int) (A1 : Option Addr) (c1 : Nat) (L1 : List Int) (w : World) (hA0 : Ints w A0 L0) (hA1 : Ints w A1 L1)  (hL0 : L0.length ≤ 1048576) (hL1 : L1.length ≤ 1048576) (htab : Lib.TabIs Tryd.prog w "internal/strconv.uint64pow10" .u64 Lib.pow10Tab) :
    Calls Tryd.prog 3 #[.slice A0 L0.length c0, .slice A1 L1.length c1] w fun e w' => e = .returned (.bool true) ∧ w.grownBy w' none := by
  have HT0 := Lib.hid (fun u (hg : w.grownBy u none) => toi_any A0 c0 L0 u (hA0.grown hg (by simp)) hL0)
  have HE0 := Lib.hid (fun A B c d w h h2 => eqi_any A B c d L0 w h h2 (show L0.length ≤ 1099511627776 by omega))
  have HT1 := Lib.hid (fun u (hg : w.grownBy u none) => toi_any A1 c1 L1 u (hA1.grown hg (by simp)) hL1)
  have HE1 := Lib.hid (fun A B c d w h h2 => eqi_any A B c d L1 w h h2 (show L1.length ≤ 1099511627776 by omega))
  have HW1 := Lib.hid (fun u g0 (h0 : Ints u (some ⟨g0, 0, none⟩) L0) g1 (h1 : Ints u (some ⟨g1, 0, none⟩) L1) => fill_spec (some ⟨g0, 0, none⟩) L0.length L0 (some ⟨g1, 0, none⟩) L1.length L1 u h0 h1 ⟨Nat.le_refl _, .inr ⟨g0, 0, rfl⟩⟩ ⟨Nat.le_refl _, .inr ⟨g1, 0, rfl⟩⟩ hL0 hL1)
  have HW2 := Lib.hid (fun u (hg : w.grownBy u none) g0 (h0 : Ints u (some ⟨g0, 0, none⟩) L0) g1 (h1 : Ints u (some ⟨g1, 0, none⟩) L1) => fill_impl (some ⟨g0, 0, none⟩) L0.length L0 (some ⟨g1, 0, none⟩) L1.length L1 u h0 h1 ⟨Nat.le_refl _, .inr ⟨g0, 0, rfl⟩⟩ ⟨Nat.le_refl _, .inr ⟨g1, 0, rfl⟩⟩ hL0 hL1 (tab_at htab hg))
  generalize fillX L0 L1 = X at HW1 HW2
  obtain ⟨n0, hn0⟩ : ∃ n, L0.length = n := ⟨_, rfl⟩
  have HN0 := Lib.hid hn0
  rw [hn0] at HW1 HW2 HT0 HE0 hL0 ⊢
  obtain ⟨n1, hn1⟩ : ∃ n, L1.length = n := ⟨_, rfl⟩
  have HN1 := Lib.hid hn1
  rw [hn1] at HW1 HW2 HT1 HE1 hL1 ⊢
  clear hA0 hA1 hn0 hn1
  clear htab
  go_enter Tryd.func3, Tryd.ntmps3
  go_wp2_with fail
  refine (HT0.out _ (gr_refl _ _)).mono ?_
  rintro e w1 ⟨rfl, hg1, ho1⟩
  have HG1 := Lib.hid ((gr_refl _ _).trans hg1)
  have HY0 := Lib.hid (Ints.of_own (e := 3) (by rw [HN0.out]; exact ho1))
  clear ho1
  go_wp2_with fail
  refine (HT1.out _ (HG1.out)).mono ?_
  rintro e w2 ⟨rfl, hg2, ho2⟩
  have HG2 := Lib.hid ((HG1.out).trans hg2)
  have HY0 := Lib.hid (HY0.out.grown hg2 (by simp))
  have HY1 := Lib.hid (Ints.of_own (e := 3) (by rw [HN1.out]; exact ho2))
  clear ho2
  go_wp2_with fail
  refine (HW1.out _ _ HY0.out _ HY1.out).mono ?_
  rintro e w3 ⟨⟨sr, rfl, hsr⟩, hg3⟩
  have HG3 := Lib.hid ((HG2.out).trans hg3)
  have HY0 := Lib.hid (HY0.out.grown hg3 (by simp))
  have HY1 := Lib.hid (HY1.out.grown hg3 (by simp))
  have HSR := Lib.hid hsr
  clear hsr
  go_wp2_with fail
  refine (HT0.out _ (HG3.out)).mono ?_
  rintro e w4 ⟨rfl, hg4, ho4⟩
  have HG4 := Lib.hid ((HG3.out).trans hg4)
  have HX0 := Lib.hid (Ints.of_own (e := 3) (by rw [HN0.out]; exact ho4))
  clear ho4
  go_wp2_with fail
  refine (HT1.out _ (HG4.out)).mono ?_
  rintro e w5 ⟨rfl, hg5, ho5⟩
  have HG5 := Lib.hid ((HG4.out).trans hg5)
  have HX0 := Lib.hid (HX0.out.grown hg5 (by simp))
  have HX1 := Lib.hid (Ints.of_own (e := 3) (by rw [HN1.out]; exact ho5))
  clear ho5
  go_wp2_with fail
  refine (HW2.out _ (HG5.out) _ HX0.out _ HX1.out).mono ?_
  rintro e w6 ⟨⟨sg, rfl, hsg⟩, hg6⟩
  have HG6 := Lib.hid ((HG5.out).trans hg6)
  have HX0 := Lib.hid (HX0.out.grown hg6 (by simp))
  have HX1 := Lib.hid (HX1.out.grown hg6 (by simp))
  obtain rfl : sg = sr := txt_eq hsg HSR.out
  clear hsg
  have hRR : (sg.toList == sg.toList) = true := by simp
  have hRN : (sg.toList != sg.toList) = false := by simp
  go_wp2_with fail
  refine (HT0.out _ (HG6.out)).mono ?_
  rintro e w7 ⟨rfl, hg7, ho7⟩
  have HG7 := Lib.hid ((HG6.out).trans hg7)
  have HX0 := Lib.hid (HX0.out.grown hg7 (by simp))
  have HX1 := Lib.hid (HX1.out.grown hg7 (by simp))
  have HZ0 := Lib.hid (Ints.of_own (e := 3) (by rw [HN0.out]; exact ho7))
  clear ho7
  go_wp2_with fail
  refine (HE0.out _ _ _ _ _ HX0.out HZ0.out).mono ?_
  rintro e w8 ⟨rfl, hg8⟩
  have HG8 := Lib.hid ((HG7.out).trans hg8)
  have HX0 := Lib.hid (HX0.out.grown hg8 (by simp))
  have HX1 := Lib.hid (HX1.out.grown hg8 (by simp))
  have HZ0 := Lib.hid (HZ0.out.grown hg8 (by simp))
  go_wp2_with fail
  refine (HT1.out _ (HG8.out)).mono ?_
  rintro e w9 ⟨rfl, hg9, ho9⟩
  have HG9 := Lib.hid ((HG8.out).trans hg9)
  have HX0 := Lib.hid (HX0.out.grown hg9 (by simp))
  have HX1 := Lib.hid (HX1.out.grown hg9 (by simp))
  have HZ0 := Lib.hid (HZ0.out.grown hg9 (by simp))
  have HZ1 := Lib.hid (Ints.of_own (e := 3) (by rw [HN1.out]; exact ho9))
  clear ho9
  go_wp2_with fail
  refine (HE1.out _ _ _ _ _ HX1.out HZ1.out).mono ?_
  rintro e w10 ⟨rfl, hg10⟩
  have HG10 := Lib.hid ((HG9.out).trans hg10)
  have HX0 := Lib.hid (HX0.out.grown hg10 (by simp))
  have HX1 := Lib.hid (HX1.out.grown hg10 (by simp))
  have HZ0 := Lib.hid (HZ0.out.grown hg10 (by simp))
  have HZ1 := Lib.hid (HZ1.out.grown hg10 (by simp))
  go_wp2_with fail
  go_ret
  exact ⟨rfl, HG10.out⟩

theorem law_fill (A0 : Option Addr) (c0 : Nat) (L0 : List Int) (A1 : Option Addr) (c1 : Nat) (L1 : List Int) (w : World) (hA0 : Ints w A0 L0) (hA1 : Ints w A1 L1) (hL0 : L0.length ≤ 9223372036854775807) (hL1 : L1.length ≤ 9223372036854775807) (htab : Lib.TabIs Tryd.prog w "internal/strconv.uint64pow10" .u64 Lib.pow10Tab) :
    Calls Tryd.prog 3 #[.slice A0 L0.length c0, .slice A1 L1.length c1] w fun e w' => e = .returned (.bool true) ∧ w.grownBy w' none := by
  rcases Nat.lt_or_ge 1048576 L0.length with hb0 | hb0
  · clear hA0 hA1
    generalize L0.length = n0 at *
    generalize L1.length = n1 at *
    go_enter Tryd.func3, Tryd.ntmps3
    go_wp2_with fail
    go_ret
    exact ⟨rfl, gr_refl _ _⟩
  rcases Nat.lt_or_ge 1048576 L1.length with hb1 | hb1
  · clear hA0 hA1
    generalize L0.length = n0 at *
    generalize L1.length = n1 at *
    go_enter Tryd.func3, Tryd.ntmps3
    go_wp2_with fail
    go_ret
    exact ⟨rfl, gr_refl _ _⟩
  exact law_fill_in A0 c0 L0 A1 c1 L1 w hA0 hA1  hb0 hb1 htab

set_option maxRecDepth 100000 in
theorem fill_lifted (os : Os) (started : os.Started) (H : Type) (enc : TypeId × Value → H) :
    ReturnsInHanded {} Tryd.checked os 3 .any (fun w args => (Rows.fnExactFillShapeSpec.pre enc Tryd.prog Tryd.f3 [] false w args ∧ laidMetH Tryd.prog Rows.fnExactFillShapeRow.laid w) ∧ sizedMet enc Tryd.prog Tryd.f3 (OpenSpec.ofChange Rows.fnExactFillShapeSpec) false w args) (Rows.fnExactFillShapeSpec.post enc Tryd.prog Tryd.f3 false true false false) := by
  refine returnsInHanded_of_change_and (C := Tryd.checked) (X := fun w _ => laidMetH Tryd.prog Rows.fnExactFillShapeRow.laid w) (fun _ _ _ hh h => h.of_heap hh) knob_own started (by kernel_rfl) Tryd.func3
    (ChangeSpec.witness_shaped (enc := enc) (C := Tryd.checked) (os := os) (X := fun w _ => laidMetH Tryd.prog Rows.fnExactFillShapeRow.laid w) false (World.doorLaid Tryd.prog 4000 os) #[.slice none 0 0, .slice none 0 0] 8 rfl (World.shaped_of_RefB (by kernel_rfl) (by kernel_rfl)) (by kernel_rfl) (by kernel_rfl) (by kernel_rfl) (door_met_fill os _)) ?_
  intro W base args ds gs before hval0 hW _ _ hL _
  have hval : ∀ (j : Nat) t v, Tryd.f3.params[j]? = some t → args[j]? = some v → Value.okWide Tryd.prog W .any base t v := hval0
  have hW' := hW
  obtain ⟨p, q, hA0, hV, rfl, hfz, hnd⟩ := hW
  have hA : DataW.TrodAll enc Tryd.prog W 0 (fun _ => true) true Tryd.f3.params.toList args.toList ds p := hA0
  rw [Tryd.params3] at hA hval
  obtain ⟨v0, v1, d0, d1, p0, p1, rfl, rfl, rfl, h0, h1⟩ := trodAll_two hA
  obtain ⟨rfl, rfl⟩ := trodVars_none hV
  obtain ⟨A0, c0, L0, rfl, a0, b0⟩ := open_ints1 (hval 0 22 v0 rfl rfl) h0
  obtain ⟨A1, c1, L1, rfl, a1, b1⟩ := open_ints1 (hval 1 22 v1 rfl rfl) h1
  rw [MakeChecks.laidMetH_plain _ _ _ (by kernel_rfl)] at hL
  have htab := pow_of hL
  clear hA0 hval0
  simp only [List.append_nil] at hW'
  have hlt : ∀ x ∈ p0 ++ p1, x.block < W.heap.size := fun x hx => by simpa using hW'.lt x hx
  refine (law_fill A0 c0 L0 A1 c1 L1 W b0 b1 a0 a1 htab).mono fun e W' ⟨he, hg⟩ => ?_
  subst he
  refine ⟨_, rfl, _, _, _, [], p0 ++ p1, [], hW', ?_, ?_, rfl, (below_of hg).frame _, fun h => by cases h⟩
  · exact trodAll_mk1 (shut_bool Tryd.underlying4 _)
  · exact trodAll_mk2 (Below.trod laid_out (by kernel_rfl) (of_decide_eq_true (by kernel_rfl)) h0 (below_of hg) (fun x hx => hlt x (List.mem_append_left _ hx))) (Below.trod laid_out (by kernel_rfl) (of_decide_eq_true (by kernel_rfl)) h1 (below_of hg) (fun x hx => hlt x (List.mem_append_right _ hx)))

theorem fill_row : Rows.FnExactFillShapeSaid :=
  OpenClaim.holds_of_wide 3 Tryd.f3 rfl rfl rfl rfl rfl rfl rfl ⟨rfl, rfl, rfl, rfl, rfl⟩ rfl rfl rfl rfl rfl (by kernel_rfl) Tryd.func3 (by kernel_rfl)
    (of_decide_eq_true (by kernel_rfl)) (by unfold Func.isWrapper; first | (rw [if_pos (by decide +kernel)]; kernel_rfl) | (rw [if_neg (by decide +kernel)]; exact ⟨rfl, rfl⟩))
    (fun os started H enc _ => fill_lifted os started H enc)

theorem fill_holds : Rows.FnExactFillShapeCardSaid :=
  Claim7.holds_tied_plain_at .later [] [.data, .data, .data] true (true, "fec2c6006f76103cc5ef256cee5b1e115a21903d3e14752a11cfbec660d7657b") true
    fill_row (fun _ h => by cases h) (by kernel_rfl) (fun _ h => by cases h) fnExactFillShape_row_tie rfl ⟨rfl, rfl⟩ (by kernel_rfl) rfl
    (fun f fn hf hfn => by
      obtain rfl : f = 3 := Option.some.inj ((show Tryd.prog.funcNamed "loop.example/flatarrays/laws.FnExactFillShape" = some 3 by kernel_rfl).symm.trans hf) |>.symm
      obtain rfl : fn = Tryd.f3 := (Option.some.inj (Tryd.func3.symm.trans hfn)).symm
      exact ⟨by kernel_rfl, fun j t ht => by
        rw [Tryd.params3] at ht
        have hm : t ∈ [22, 22] := by simpa using Array.mem_of_getElem? ht
        have hall : ([22, 22].all fun u => !Tryd.prog.wantsStandIn u) = true := by kernel_rfl
        exact (show Tryd.prog.wantsStandIn t = false by simpa using List.all_eq_true.1 hall t hm)⟩)
    (by kernel_rfl)

#print axioms fill_holds
end

end Go.Proofs.YtachjodnhgmoiaaDoor
