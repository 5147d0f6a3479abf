/- 1 texts in one: Lawdcode. -/
import Derived.Test.YtohdlnkkchijnaaGreatDoorZB
import Derived.ProofKit
import Derived.Test.YtohdlnkkchijnaaGreatDoorTie
import Derived.Test.YtohdlnkkchijnaaGreatDoorCards
import Derived.Lay
import Derived.OpenShut
import Derived.Stop.Joined
namespace Go.Proofs.YtohdlnkkchijnaaGreatDoor
/-! Lawdcode -/
section
open Go.ChangeShapes Go.WideShapes Go.ChangeAt Go.RowKit

theorem knob_own : ownKnob Tryz.prog.godebug = none := by kernel_rfl
theorem below_of {w w' : World} (h : w.grownBy w' none) : Below w.heap.size w w' := ⟨h.os, h.tape, h.output, h.size, fun k hk => h.block k hk (by simp)⟩

theorem cnt_step (xs : List (List UInt8)) (j : Nat) (x : List UInt8) (h : xs[j]? = some x) : (xs.take (j + 1)).countP (fun x => decide (x.length = 2)) = (xs.take j).countP (fun x => decide (x.length = 2)) + (if x.length = 2 then 1 else 0) := by
  rw [List.take_add_one, h, Option.toList_some, List.countP_append]
  by_cases h2 : x.length = 2 <;> simp [h2]

set_option maxRecDepth 100000 in
set_option maxHeartbeats 8000000 in
theorem law_dcode (A : Option Addr) (n c : Nat) (w : World) (h : Byts w A n) (hc : n ≤ c) (hn : n ≤ 9223372036854775807) :
    Calls Tryz.prog 3 #[.slice A n c] w fun e w' => e = .returned (.bool true) ∧ w.grownBy w' none := by
  have HD := Lib.hid (drawcode_any A n c w h hc hn)
  clear h
  by_cases hbig : 1048576 < n
  · go_enter Tryz.func3, Tryz.ntmps3
    go_wp2_with fail
    go_ret
    exact ⟨rfl, gr_refl _ _⟩
  go_enter Tryz.func3, Tryz.ntmps3
  go_wp2_with fail
  refine HD.out.mono ?_
  rintro e w1 ⟨s, rfl, hs, hg1⟩
  have HG1 := Lib.hid hg1
  have H1 := Lib.hid (fun w => cod_impl s w)
  have H2 := Lib.hid (fun w => cod_spec s (by omega) w)
  have H3 := Lib.hid (fun w => tvalidI_any s w)
  unfold CodP at H1 H2
  clear hg1
  cases hr : readT s with
  | none =>
    have e1 : codeV s = (⟨#[]⟩, false) := by unfold codeV; rw [hr]
    have e2 : tvalidA s = false := by unfold tvalidA; rw [hr]; rfl
    rw [e1] at H1 H2
    rw [e2] at H3
    simp only at H1 H2
    clear hr e1 e2
    go_wp2_with fail
    refine (H1.out _).mono ?_
    rintro e w2 ⟨rfl, hg2⟩
    have HG2 := Lib.hid (HG1.out.trans hg2)
    clear hg2
    go_wp2_with fail
    refine (H2.out _).mono ?_
    rintro e w3 ⟨rfl, hg3⟩
    have HG3 := Lib.hid (HG2.out.trans hg3)
    clear hg3
    go_wp2_with fail
    refine (H3.out _).mono ?_
    rintro e w4 ⟨rfl, hg4⟩
    have HG4 := Lib.hid (HG3.out.trans hg4)
    clear hg4
    go_wp2_with fail
    refine (H3.out _).mono ?_
    rintro e w5 ⟨rfl, hg5⟩
    have HG5 := Lib.hid (HG4.out.trans hg5)
    clear hg5
    go_wp2_with fail
    go_ret
    exact ⟨rfl, HG5.out⟩
  | some t =>
    have hF := codF hr
    have hsz := readT_some hr
    have hcn := ins_count t
    have hil := (ins_len t).1
    have HSZ := Lib.hid (fun w => tsizeI_any s t hr w)
    obtain ⟨z, hz⟩ : ∃ z, mkB (codeL t) = z := ⟨_, rfl⟩
    rw [hz] at hF
    have hzs := hF.short
    rw [hF.code] at H1 H2
    rw [hF.valid] at H3
    simp only at H1 H2
    have H4 := Lib.hid (fun w => tof_impl z w)
    unfold TofP at H4
    rw [hF.term] at H4
    simp only at H4
    have H5 := Lib.hid (fun w => inst_impl z w)
    rw [hF.inst] at H5
    have H6 := Lib.hid (fun w => cval_impl z w)
    rw [hF.cval] at H6
    have H7 := Lib.hid (fun w => depc_impl z w)
    rw [hF.depth] at H7
    have H8 := Lib.hid (fun w => tdepth_impl s w)
    obtain ⟨r, hr8⟩ : ∃ r, depthA s = r := ⟨_, rfl⟩
    rw [hr8] at H7 H8
    obtain ⟨xs, hxs⟩ : ∃ xs, t.ins = xs := ⟨_, rfl⟩
    rw [hxs] at H5 hcn hil
    obtain ⟨q, hq⟩ : ∃ q, t.size = q := ⟨_, rfl⟩
    rw [hq] at HSZ hcn hil
    obtain ⟨nz, hnz⟩ : ∃ k, z.size = k := ⟨_, rfl⟩
    have HNZ := Lib.hid hnz
    rw [hnz] at hzs
    have HCN := Lib.hid hcn
    have hxl : xs.length ≤ 160 := by have := hsz.2.2.2; omega
    clear hF hsz hcn hil hr hr8 hxs hq hz hnz
    go_wp2_with fail
    refine (H1.out _).mono ?_
    rintro e w2 ⟨rfl, hg2⟩
    have HG2 := Lib.hid (HG1.out.trans hg2)
    clear hg2
    go_wp2_with fail
    refine (H2.out _).mono ?_
    rintro e w3 ⟨rfl, hg3⟩
    have HG3 := Lib.hid (HG2.out.trans hg3)
    clear hg3
    go_wp2_with fail
    refine (H3.out _).mono ?_
    rintro e w4 ⟨rfl, hg4⟩
    have HG4 := Lib.hid (HG3.out.trans hg4)
    clear hg4
    go_wp2_with fail
    refine (H4.out _).mono ?_
    rintro e w5 ⟨rfl, hg5⟩
    have HG5 := Lib.hid (HG4.out.trans hg5)
    clear hg5
    go_wp2_with fail
    refine (H5.out _).mono ?_
    rintro e w6 ⟨u, rfl, hg6, ho6⟩
    have HG6 := Lib.hid (HG5.out.trans hg6)
    obtain ⟨A6, c6, rfl⟩ := ho6.form
    obtain ⟨hk6, hcl6⟩ := ho6.cells
    have HCL := Lib.hid hcl6
    have hml : (xs.map mkB).length = xs.length := by simp
    rw [hml] at hk6 ⊢
    obtain ⟨m, hm⟩ : ∃ m, xs.length = m := ⟨_, rfl⟩
    have HM := Lib.hid hm
    rw [hm] at hk6 hxl ⊢
    clear hg6 ho6 hcl6 hml hm
    go_wp2_with fail
    go_loopw [11, 70] (fun l i wr => ∃ j k : Nat, j ≤ m ∧ i = .int .i64 j ∧ l = .int .i64 k ∧ k ≤ j ∧ Hid (k = (xs.take j).countP (fun x => decide (x.length = 2))) ∧ Hid (w6.grownBy wr none)) (fun _ i _ => m - (intOf i).toNat)
    case atStart => exact ⟨0, 0, Nat.zero_le _, rfl, rfl, Nat.le_refl _, Lib.hid (by simp), Lib.hid (gr_refl _ _)⟩
    case round =>
      obtain ⟨j, k, hj, rfl, rfl, hkj, hk, hgr⟩ := hrel
      by_cases hlt : j < m
      · obtain ⟨x, hx⟩ : ∃ x, xs[j]? = some x := ⟨_, List.getElem?_eq_getElem (by have := HM.out; omega)⟩
        obtain ⟨g, rfl, _, hcg, _⟩ := HCL.out j (mkB x) (by simp [hx])
        have hc := hgr.out.cell hcg (by simp)
        have HST := Lib.hid (cnt_step xs j x hx)
        have hxz := mkB_size x
        obtain ⟨b, hb⟩ : ∃ b, mkB x = b := ⟨_, rfl⟩
        rw [hb] at hc hxz
        obtain ⟨y, hy⟩ : ∃ y, x.length = y := ⟨_, rfl⟩
        rw [hy] at hxz HST
        by_cases h2 : y = 2
        · subst h2
          have e2 : (((b.size : Nat) : Int) == 2) = true := by rw [hxz]; rfl
          have HB2 : Hid (k + 1 = (xs.take (j + 1)).countP (fun x => decide (x.length = 2))) := Lib.hid (by rw [HST.out, ← hk.out, if_pos rfl])
          clear hxz hy hb hcg hx
          go_wp2_with fail
          go_roundw
          case rel => exact ⟨j + 1, k + 1, by omega, by go_num, by go_num, by omega, HB2, hgr⟩
          case measure => simp [intOf]; omega
        · have e2 : (((b.size : Nat) : Int) == 2) = false := by rw [hxz]; simp; omega
          have HB2 : Hid (k = (xs.take (j + 1)).countP (fun x => decide (x.length = 2))) := Lib.hid (by rw [HST.out, ← hk.out, if_neg h2]; rfl)
          clear hxz hy hb hcg hx
          go_wp2_with fail
          go_roundw
          case rel => exact ⟨j + 1, k, by omega, by go_num, rfl, by omega, HB2, hgr⟩
          case measure => simp [intOf]; omega
      · have hjm : j = m := by omega
        have HJ := Lib.hid hjm
        have e5 : (((m : Nat) : Int) == ((q : Nat) : Int) + ((k : Nat) : Int)) = true := by
          have h1 := HCN.out
          have h2 := hk.out
          rw [HJ.out, ← HM.out, List.take_length] at h2
          rw [HM.out, ← h2] at h1
          simp only [beq_iff_eq]
          omega
        have ew : wrap64 (((q : Nat) : Int) + ((k : Nat) : Int)) = ((q : Nat) : Int) + ((k : Nat) : Int) := by
          have h1 := HCN.out
          have h2 := hk.out
          rw [HJ.out, ← HM.out, List.take_length] at h2
          rw [HM.out, ← h2] at h1
          unfold wrap64; omega
        have hzz : ¬ (((z.size : Nat) : Int) > 200) := by rw [HNZ.out]; omega
        clear hjm
        go_wp2_with fail
        refine (H6.out _).mono ?_
        rintro e w7 ⟨rfl, hg7⟩
        have HG7 := Lib.hid (HG6.out.trans (hgr.out.trans hg7))
        clear hg7
        go_wp2_with fail
        refine (HSZ.out _).mono ?_
        rintro e w8 ⟨rfl, hg8⟩
        have HG8 := Lib.hid (HG7.out.trans hg8)
        clear hg8
        go_wp2_with fail
        refine (H7.out _).mono ?_
        rintro e w9 ⟨rfl, hg9⟩
        have HG9 := Lib.hid (HG8.out.trans hg9)
        clear hg9
        go_wp2_with fail
        refine (H8.out _).mono ?_
        rintro e wa ⟨rfl, hga⟩
        have HGA := Lib.hid (HG9.out.trans hga)
        clear hga
        go_wp2_with fail
        go_ret
        exact ⟨rfl, HGA.out⟩

theorem door_met_dcode (os : Os) (args : Array Value) : laidMetH Tryz.prog Rows.fnCodeOfRow.laid ((World.laidAll Tryz.prog os Rows.fnCodeOfRow.laid).forCall (fun _ _ => 0) ⟨#[], args, []⟩).memory := by
  rw [MakeChecks.laidMetH_plain _ _ _ (by kernel_rfl)]
  exact laidMet_laidAll _ (by kernel_rfl) (by kernel_rfl)

set_option maxRecDepth 100000 in
theorem dcode_lifted (os : Os) (started : os.Started) (H : Type) (enc : TypeId × Value → H) :
    ReturnsInHanded {} Tryz.checked os 3 .any (fun w args => (Rows.fnCodeOfSpec.pre enc Tryz.prog Tryz.f3 [] false w args ∧ laidMetH Tryz.prog Rows.fnCodeOfRow.laid w) ∧ sizedMet enc Tryz.prog Tryz.f3 (OpenSpec.ofChange Rows.fnCodeOfSpec) false w args) (Rows.fnCodeOfSpec.post enc Tryz.prog Tryz.f3 false true false false) := by
  refine returnsInHanded_of_change_and (C := Tryz.checked) (X := fun w _ => laidMetH Tryz.prog Rows.fnCodeOfRow.laid w) (fun _ _ _ hh h => h.of_heap hh) knob_own started (by kernel_rfl) Tryz.func3
    (ChangeSpec.witness_shaped (enc := enc) (C := Tryz.checked) (os := os) (X := fun w _ => laidMetH Tryz.prog Rows.fnCodeOfRow.laid w) false (World.laidAll Tryz.prog os Rows.fnCodeOfRow.laid) #[.slice none 0 0] 8 (World.laidAll_os _ _ _) (World.shaped_of_ZipB (by kernel_rfl) (by kernel_rfl)) (by kernel_rfl) (by kernel_rfl) (by kernel_rfl) (door_met_dcode os _)) ?_
  intro W base args ds gs before hval0 hW _ _ hL _
  have hval : ∀ (j : Nat) t v, Tryz.f3.params[j]? = some t → args[j]? = some v → Value.okWide Tryz.prog W .any base t v := hval0
  have hW' := hW
  obtain ⟨p, q, hA0, hV, rfl, hfz, hnd⟩ := hW
  have hA : DataW.TrodAll enc Tryz.prog W 0 (fun _ => true) true Tryz.f3.params.toList args.toList ds p := hA0
  rw [Tryz.params3] at hA hval
  obtain ⟨v0, d0, rfl, rfl, h0⟩ := trodAll_one hA
  obtain ⟨rfl, rfl⟩ := trodVars_none hV
  obtain ⟨A, n, c, rfl, a1, a2, a3⟩ := open_bytsT (hval 0 22 v0 rfl rfl) h0
  clear hA0 hval0
  simp only [List.append_nil] at hW'
  have hlt : ∀ x ∈ p, x.block < W.heap.size := fun x hx => by simpa using hW'.lt x hx
  refine (law_dcode A n c W a3 a1 a2).mono fun e W' ⟨he, hg⟩ => ?_
  subst he
  refine ⟨_, rfl, _, _, _, [], p, [], hW', ?_, ?_, rfl, (below_of hg).frame _, fun h => by cases h⟩
  · exact trodAll_mk1 (shut_bool Tryz.underlying4 _)
  · exact trodAll_mk1 (Below.trod laid_out_p (by kernel_rfl) (of_decide_eq_true (by kernel_rfl)) h0 (below_of hg) hlt)

theorem dcode_row : Rows.FnCodeOfSaid :=
  OpenClaim.holds_of_wide 3 Tryz.f3 rfl rfl rfl rfl rfl rfl rfl ⟨rfl, rfl, rfl, rfl, rfl⟩ rfl rfl rfl rfl rfl (by kernel_rfl) Tryz.func3 (by kernel_rfl)
    (of_decide_eq_true (by kernel_rfl)) (by unfold Func.isWrapper; first | (rw [if_pos (by decide +kernel)]; kernel_rfl) | (rw [if_neg (by decide +kernel)]; exact ⟨rfl, rfl⟩))
    (fun os started H enc _ => dcode_lifted os started H enc)

theorem dcode_holds : Rows.FnCodeOfCardSaid :=
  Claim7.holds_tied_plain_at .later [] [.data, .pinned] true (true, "999fc285215b73e06408df5e1375aa887be9e4118474698f1ad7a5ae6367b45e") true
    dcode_row (fun _ h => by cases h) (by kernel_rfl) (fun _ h => by cases h) fnCodeOf_row_tie rfl ⟨rfl, rfl⟩ (by kernel_rfl) rfl
    (fun f fn hf hfn => by
      obtain rfl : f = 3 := Option.some.inj ((show Tryz.prog.funcNamed "loop.example/flatarrays/laws.FnCodeOf" = some 3 by kernel_rfl).symm.trans hf) |>.symm
      obtain rfl : fn = Tryz.f3 := (Option.some.inj (Tryz.func3.symm.trans hfn)).symm
      exact ⟨by kernel_rfl, fun j t ht => by
        rw [Tryz.params3] at ht
        have hm : t ∈ [22] := by simpa using Array.mem_of_getElem? ht
        have hall : ([22].all fun u => !Tryz.prog.wantsStandIn u) = true := by kernel_rfl
        exact (show Tryz.prog.wantsStandIn t = false by simpa using List.all_eq_true.1 hall t hm)⟩)
    (by kernel_rfl)

#print axioms dcode_holds
end

end Go.Proofs.YtohdlnkkchijnaaGreatDoor
