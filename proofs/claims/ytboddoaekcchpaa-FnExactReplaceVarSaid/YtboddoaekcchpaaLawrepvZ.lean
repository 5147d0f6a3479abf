/- The law FnExactReplaceVar: for all texts both functions answer alike, and the arguments read as they did. No condition. -/
import Derived.Test.YtboddoaekcchpaaZU2
import Derived.Test.YtboddoaekcchpaaLawKit
import Derived.Test.YtboddoaekcchpaaGrepv
namespace Go.Proofs.Ytboddoaekcchpaa
/- Lawrepv -/
section
open Go.ChangeShapes Go.WideShapes Go.ChangeAt Go.RowKit
open Go.ChangeMaps (open_string shut_string)

set_option maxHeartbeats 400000 in
theorem law_repv_in (t : ByteArray) (v : ByteArray) (u : ByteArray) (ht : t.size ≤ 1048576) (hv : v.size ≤ 1048576) (hu : u.size ≤ 1048576) (w : World) :
    Calls Try.prog 8 #[.string t, .string v, .string u] w fun e w' => e = .returned (.bool true) ∧ w.grownBy w' none := by
  have H1 := Lib.hid (fun w => repv_spec t v u ht hv hu w)
  have H2 := Lib.hid (fun w => repv_impl t v u w)
  unfold RVP at H1 H2
  obtain ⟨z, hz⟩ : ∃ z, (replA t v u).getD ⟨#[]⟩ = z := ⟨_, rfl⟩
  obtain ⟨b, hb⟩ : ∃ b, (replA t v u).isSome = b := ⟨_, rfl⟩
  rw [hz, hb] at H1 H2
  clear hz hb
  cases b
  all_goals
    go_enter Try.func8, Try.ntmps8
    go_wp2_with fail
    refine (H1.out _).mono ?_
    rintro e w1 ⟨rfl, hg1⟩
    have HG1 := Lib.hid hg1
    clear hg1
    go_wp2_with fail
    refine (H2.out _).mono ?_
    rintro e w2 ⟨rfl, hg2⟩
    have HG2 := Lib.hid hg2
    clear hg2
    go_wp2_with fail
    go_ret
    exact ⟨rfl, HG1.out.trans HG2.out⟩

theorem law_repv_out0 (t : ByteArray) (v : ByteArray) (u : ByteArray)  (ht : 1048576 < t.size) (w : World) :
    Calls Try.prog 8 #[.string t, .string v, .string u] w fun e w' => e = .returned (.bool true) ∧ w.grownBy w' none := by
  go_enter Try.func8, Try.ntmps8
  go_wp2_with fail
  go_ret
  exact ⟨rfl, gr_refl _ _⟩

theorem law_repv_out1 (t : ByteArray) (v : ByteArray) (u : ByteArray) (ht : t.size ≤ 1048576) (hv : 1048576 < v.size) (w : World) :
    Calls Try.prog 8 #[.string t, .string v, .string u] w fun e w' => e = .returned (.bool true) ∧ w.grownBy w' none := by
  go_enter Try.func8, Try.ntmps8
  go_wp2_with fail
  go_ret
  exact ⟨rfl, gr_refl _ _⟩

theorem law_repv_out2 (t : ByteArray) (v : ByteArray) (u : ByteArray) (ht : t.size ≤ 1048576) (hv : v.size ≤ 1048576) (hu : 1048576 < u.size) (w : World) :
    Calls Try.prog 8 #[.string t, .string v, .string u] w fun e w' => e = .returned (.bool true) ∧ w.grownBy w' none := by
  go_enter Try.func8, Try.ntmps8
  go_wp2_with fail
  go_ret
  exact ⟨rfl, gr_refl _ _⟩

theorem law_repv (t : ByteArray) (v : ByteArray) (u : ByteArray) (w : World) :
    Calls Try.prog 8 #[.string t, .string v, .string u] w fun e w' => e = .returned (.bool true) ∧ w.grownBy w' none := by
  rcases Nat.lt_or_ge 1048576 t.size with ht | ht
  · exact law_repv_out0 t v u ht w
  rcases Nat.lt_or_ge 1048576 v.size with hv | hv
  · exact law_repv_out1 t v u ht hv w
  rcases Nat.lt_or_ge 1048576 u.size with hu | hu
  · exact law_repv_out2 t v u ht hv hu w
  exact law_repv_in t v u ht hv hu w

set_option maxRecDepth 100000 in
theorem repv_lifted (os : Os) (started : os.Started) (H : Type) (enc : TypeId × Value → H) :
    ReturnsInHanded {} Try.checked os 8 .any (Rows.fnExactReplaceVarSpec.pre6 enc Try.prog Try.f8 Rows.fnExactReplaceVarRow.domain false) (Rows.fnExactReplaceVarSpec.post enc Try.prog Try.f8 false true false false) := by
  refine returnsInHanded_of_change (C := Try.checked) knob_own started (by kernel_rfl) Try.func8
    (ChangeSpec.witness6 (enc := enc) (C := Try.checked) false ⟨#[], #[.string .empty, .string .empty, .string .empty], []⟩ 8 (by kernel_rfl) (by kernel_rfl) (by kernel_rfl) (by kernel_rfl)) ?_
  intro W base args ds gs before hval0 hW hcnd _
  have hval : ∀ (j : Nat) t v, Try.f8.params[j]? = some t → args[j]? = some v → Value.okWide Try.prog W .any base t v := hval0
  have hW' := hW
  obtain ⟨p, q, hA0, hV, rfl, hfz, hnd⟩ := hW
  have hA : DataW.TrodAll enc Try.prog W 0 (fun _ => true) true Try.f8.params.toList args.toList ds p := hA0
  rw [Try.params8] at hA hval
  obtain ⟨v0, v1, v2, d0, d1, d2, p0, p1, p2, rfl, rfl, rfl, h0, h1, h2⟩ := trodAll_three hA
  obtain ⟨rfl, rfl⟩ := trodVars_none hV
  obtain ⟨t, rfl, rfl, rfl, hmax0⟩ := open_string Try.underlying9 (hval 0 9 v0 rfl rfl) h0
  obtain ⟨v, rfl, rfl, rfl, hmax1⟩ := open_string Try.underlying9 (hval 1 9 v1 rfl rfl) h1
  obtain ⟨u, rfl, rfl, rfl, hmax2⟩ := open_string Try.underlying9 (hval 2 9 v2 rfl rfl) h2
  clear hA0 hval0
  simp only [List.append_nil] at hW'
  refine (law_repv t v u W).mono fun e W' ⟨he, hg⟩ => ?_
  subst he
  refine ⟨_, rfl, _, _, _, [], [], [], hW', ?_, ?_, rfl, (below_of hg).frame _, fun h => by cases h⟩
  · exact trodAll_mk1 (shut_bool Try.underlying4 _)
  · exact trodAll_mk3 (shut_string Try.underlying9 hmax0) (shut_string Try.underlying9 hmax1) (shut_string Try.underlying9 hmax2)

theorem repv_holds : Rows.FnExactReplaceVarSaid :=
  OpenClaim.holds_of_wide 8 Try.f8 rfl rfl rfl rfl rfl rfl rfl ⟨rfl, rfl, rfl, rfl, rfl⟩ rfl rfl rfl rfl rfl frepv_name Try.func8 frepv_all frepv_inst frepv_wrap
    (fun os started H enc _ => repv_lifted os started H enc)

#print axioms repv_holds
end

end Go.Proofs.Ytboddoaekcchpaa
