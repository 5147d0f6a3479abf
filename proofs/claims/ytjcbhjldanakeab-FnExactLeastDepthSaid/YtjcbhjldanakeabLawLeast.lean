/- The law on LeastDepth: for every text both functions answer alike, and the argument reads as it did. No condition. -/
import Derived.Test.YtjcbhjldanakeabLawValid
namespace Go.Proofs.Ytjcbhjldanakeab
open Go.ChangeShapes Go.WideShapes Go.ChangeAt Go.RowKit
open Go.ChangeMaps (open_string shut_string)

/-- The least depth of which the text is an array. -/
def least (s : ByteArray) : Int := if isArr s 0 = true then 0 else if isArr s 1 = true then 1 else if isArr s 2 = true then 2 else if isArr s 3 = true then 3 else -1
theorem least_at {s : ByteArray} {k : Nat} (hk : k < 4) (h : ∀ j : Nat, j < k → isArr s j = false) (hy : isArr s k = true) : least s = k := by
  unfold least
  have h0 := h 0
  have h1 := h 1
  have h2 := h 2
  match k, hk with
  | 0, _ => simp at hy; simp [hy]
  | 1, _ => simp at hy h0; simp [hy, h0]
  | 2, _ => simp at hy h0 h1; simp [hy, h0, h1]
  | 3, _ => simp at hy h0 h1 h2; simp [hy, h0, h1, h2]
theorem least_no {s : ByteArray} (h : ∀ j : Nat, j < 4 → isArr s j = false) : least s = -1 := by
  unfold least
  have h0 := h 0 (by omega)
  have h1 := h 1 (by omega)
  have h2 := h 2 (by omega)
  have h3 := h 3 (by omega)
  simp at h0 h1 h2 h3
  simp [h0, h1, h2, h3]

set_option maxHeartbeats 400000 in
theorem least_impl (s : ByteArray) (w : World) :
    Calls Try.prog 24 #[.string s] w fun e w' => e = .returned (.int .i64 (least s)) ∧ w.grownBy w' none := by
  go_enter Try.func24, Try.ntmps24
  go_wp2_with fail
  go_loopw [4] (fun u wr => ∃ k : Nat, k ≤ 4 ∧ u = .int .i64 k ∧ Hid (∀ j : Nat, j < k → isArr s j = false) ∧ Hid (w.grownBy wr none)) (fun u _ => 4 - (intOf u).toNat)
  case atStart => exact ⟨0, by omega, rfl, Lib.hid (fun j hj => by omega), Lib.hid (gr_refl _ _)⟩
  case round =>
    obtain ⟨k, hk, rfl, hno, hgr⟩ := hrel
    by_cases hlt : k < 4
    · have H := Lib.hid (fun w => valid_impl s k w)
      obtain ⟨b, hb⟩ : ∃ b : Bool, isArr s k = b := ⟨_, rfl⟩
      rw [hb] at H
      have HB := Lib.hid hb
      clear hb
      cases b
      all_goals
        go_wp2_with fail
        refine (H.out _).mono ?_
        rintro e w1 ⟨rfl, hg1⟩
        have HG := Lib.hid (hgr.out.trans hg1)
        clear hg1
        go_wp2_with fail
      · go_roundw
        case rel =>
          refine ⟨k + 1, by omega, by go_num, Lib.hid (fun j hj => ?_), HG⟩
          rcases Nat.lt_or_ge j k with h | h
          · exact hno.out j h
          · obtain rfl : j = k := by omega
            exact HB.out
        case measure => simp [intOf]; omega
      · go_ret
        exact ⟨by rw [least_at hlt hno.out HB.out]; rfl, HG.out⟩
    · obtain rfl : k = 4 := by omega
      go_wp2_with fail
      go_ret
      exact ⟨by rw [least_no hno.out]; rfl, hgr.out⟩

set_option maxHeartbeats 400000 in
theorem least_spec (s : ByteArray) (w : World) :
    Calls Try.prog 23 #[.string s] w fun e w' => e = .returned (.int .i64 (least s)) ∧ w.grownBy w' none := by
  go_enter Try.func23, Try.ntmps23
  go_wp2_with fail
  go_loopw [4] (fun u wr => ∃ k : Nat, k ≤ 4 ∧ u = .int .i64 k ∧ Hid (∀ j : Nat, j < k → isArr s j = false) ∧ Hid (w.grownBy wr none)) (fun u _ => 4 - (intOf u).toNat)
  case atStart => exact ⟨0, by omega, rfl, Lib.hid (fun j hj => by omega), Lib.hid (gr_refl _ _)⟩
  case round =>
    obtain ⟨k, hk, rfl, hno, hgr⟩ := hrel
    by_cases hlt : k < 4
    · have H := Lib.hid (fun w => valid_spec s k w)
      obtain ⟨b, hb⟩ : ∃ b : Bool, isArr s k = b := ⟨_, rfl⟩
      rw [hb] at H
      have HB := Lib.hid hb
      clear hb
      cases b
      all_goals
        go_wp2_with fail
        refine (H.out _).mono ?_
        rintro e w1 ⟨rfl, hg1⟩
        have HG := Lib.hid (hgr.out.trans hg1)
        clear hg1
        go_wp2_with fail
      · go_roundw
        case rel =>
          refine ⟨k + 1, by omega, by go_num, Lib.hid (fun j hj => ?_), HG⟩
          rcases Nat.lt_or_ge j k with h | h
          · exact hno.out j h
          · obtain rfl : j = k := by omega
            exact HB.out
        case measure => simp [intOf]; omega
      · go_ret
        exact ⟨by rw [least_at hlt hno.out HB.out]; rfl, HG.out⟩
    · obtain rfl : k = 4 := by omega
      go_wp2_with fail
      go_ret
      exact ⟨by rw [least_no hno.out]; rfl, hgr.out⟩

theorem law_least (s : ByteArray) (w : World) :
    Calls Try.prog 6 #[.string s] w fun e w' => e = .returned (.bool true) ∧ w.grownBy w' none := by
  have H1 := Lib.hid (fun w => least_spec s w)
  have H2 := Lib.hid (fun w => least_impl s w)
  generalize least s = b at H1 H2
  go_enter Try.func6, Try.ntmps6
  go_wp2_with fail
  · go_ret
    exact ⟨rfl, gr_refl _ _⟩
  · refine (H1.out _).mono ?_
    rintro e w1 ⟨rfl, hg1⟩
    have HG1 := Lib.hid hg1
    clear hg1
    go_wp2_with fail
    refine (H2.out _).mono ?_
    rintro e w2 ⟨rfl, hg2⟩
    have HG2 := Lib.hid hg2
    clear hg2
    have hne : (b != b) = false := by simp
    go_wp2_with fail
    go_ret
    exact ⟨rfl, HG1.out.trans HG2.out⟩

set_option maxRecDepth 100000 in
theorem least_lifted (os : Os) (started : os.Started) (H : Type) (enc : TypeId × Value → H) :
    ReturnsInHanded {} Try.checked os 6 .any (Rows.fnExactLeastDepthSpec.pre6 enc Try.prog Try.f6 Rows.fnExactLeastDepthRow.domain false) (Rows.fnExactLeastDepthSpec.post enc Try.prog Try.f6 false true false false) := by
  refine returnsInHanded_of_change (C := Try.checked) knob_own started (by kernel_rfl) Try.func6
    (ChangeSpec.witness6 (enc := enc) (C := Try.checked) false ⟨#[], #[.string .empty], []⟩ 8 (by kernel_rfl) (by kernel_rfl) (by kernel_rfl) (by kernel_rfl)) ?_
  intro W base args ds gs before hval0 hW hcnd _
  have hval : ∀ (j : Nat) t v, Try.f6.params[j]? = some t → args[j]? = some v → Value.okWide Try.prog W .any base t v := hval0
  have hW' := hW
  obtain ⟨p, q, hA0, hV, rfl, hfz, hnd⟩ := hW
  have hA : DataW.TrodAll enc Try.prog W 0 (fun _ => true) true Try.f6.params.toList args.toList ds p := hA0
  rw [Try.params6] at hA hval
  obtain ⟨v0, d0, rfl, rfl, h0⟩ := trodAll_one hA
  obtain ⟨rfl, rfl⟩ := trodVars_none hV
  obtain ⟨s, rfl, rfl, rfl, hmax⟩ := open_string Try.underlying9 (hval 0 9 v0 rfl rfl) h0
  clear hA0 hval0
  simp only [List.append_nil] at hW'
  refine (law_least s W).mono fun e W' ⟨he, hg⟩ => ?_
  subst he
  refine ⟨_, rfl, _, _, _, [], [], [], hW', ?_, ?_, rfl, (below_of hg).frame _, fun h => by cases h⟩
  · exact trodAll_mk1 (shut_bool Try.underlying4 _)
  · exact trodAll_mk1 (shut_string Try.underlying9 hmax)

theorem least_holds : Rows.FnExactLeastDepthSaid :=
  OpenClaim.holds_of_wide 6 Try.f6 rfl rfl rfl rfl rfl rfl rfl ⟨rfl, rfl, rfl, rfl, rfl⟩ rfl rfl rfl rfl rfl (by kernel_rfl) Try.func6 (by kernel_rfl)
    (of_decide_eq_true (by kernel_rfl)) (by unfold Func.isWrapper; first | (rw [if_pos (by decide +kernel)]; kernel_rfl) | (rw [if_neg (by decide +kernel)]; exact ⟨rfl, rfl⟩))
    (fun os started H enc _ => least_lifted os started H enc)

#print axioms least_holds
end Go.Proofs.Ytjcbhjldanakeab
