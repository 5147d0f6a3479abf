/- The law on ShapeOf: for every text and every depth both functions answer alike, the answer owns its memory, and the arguments read as they did. No condition. -/
import Derived.Test.YtachjodnhgmoiaaCrlM
import Derived.Test.YtachjodnhgmoiaaLawKit
import Derived.Test.YtachjodnhgmoiaaBothShp
namespace Go.Proofs.Ytachjodnhgmoiaa
open Go.ChangeShapes Go.WideShapes Go.ChangeAt Go.RowKit
open Go.ChangeMaps (open_string shut_string)

theorem Ints.under {w w1 w2 : World} {A : Option Addr} {zs : List Int} {row : Option Nat} (h : Ints w A zs) (h1 : w.grownBy w1 none) (h2 : w1.grownBy w2 row) (hr : ∀ k, row = some k → w.heap.size ≤ k) : Ints w2 A zs := fun hl => by
  obtain ⟨b, off, rfl, hb, hc⟩ := h hl
  have hb1 : b < w1.heap.size := Nat.lt_of_lt_of_le hb h1.size
  exact ⟨b, off, rfl, Nat.lt_of_lt_of_le hb1 h2.size, fun j z hj => h2.cell (h1.cell (hc j z hj) (by simp)) (fun e => by have := hr b e.symm; omega)⟩

theorem base_le {w w' : World} (h : w.grownBy w' none) : w.grownBy w' none := h

set_option maxHeartbeats 1000000 in
theorem law_shape (s : ByteArray) (n : Int) (w : World) :
    Calls Try.prog 3 #[.string s, .int .i64 n] w fun e w' => e = .returned (.bool true) ∧ w.grownBy w' none := by
  obtain ⟨zs, b, hzl, H1, H2⟩ := both_shape s n
  obtain ⟨k, hk⟩ : ∃ k, zs.length = k := ⟨_, rfl⟩
  have HK := Lib.hid hk
  rw [hk] at H1 H2 hzl
  have H1 := Lib.hid H1
  have H2 := Lib.hid H2
  clear hk
  cases b
  all_goals
    go_enter Try.func3, Try.ntmps3
    go_wp2_with fail
    · go_ret
      exact ⟨rfl, gr_refl _ _⟩
    · refine (H1.out _).mono ?_
      rintro e w1 ⟨A1, c1, rfl, hg1, hi1⟩
      have HG1 := Lib.hid hg1
      have HI1 := Lib.hid hi1
      clear hg1 hi1
      go_wp2_with fail
      refine (H2.out _).mono ?_
      rintro e w2 ⟨A2, c2, rfl, hg2, ho2⟩
      have HG2 := Lib.hid hg2
      have HO2 := Lib.hid ho2
      have HE := Lib.hid (eqi_any A2 A1 c2 c1 zs w2 (Ints.of_own (e := TSh) (by rw [HK.out]; exact ho2)) (HI1.out.grown hg2 (by simp)) (by have := HK.out; omega))
      rw [HK.out] at HE
      clear hg2 ho2
      go_wp2_with fail
      refine HE.out.mono ?_
      rintro e w3 ⟨rfl, hg3⟩
      have HG3 := Lib.hid hg3
      have HO3 := Lib.hid (own_keep HO2.out (fun g hg => hg3.block g (HO2.out.lt g hg).2 (by simp)))
      clear hg3
      go_wp2_with fail
      refine (mark_anyE TSh A2 w1.heap.size c2 1 k _ w3 HO3.out (by omega) (by omega)).mono ?_
      rintro e w4 ⟨rfl, hg4, ho4⟩
      have HG4 := Lib.hid hg4
      have HO4 := Lib.hid ho4
      obtain ⟨m, hm⟩ : ∃ m : Nat, 1 + k = m := ⟨_, rfl⟩
      have HM := Lib.hid hm
      have hm2 : m ≤ 1000 := by omega
      rw [hm]
      clear hg4 ho4 hm
      have HU4 := Lib.hid (show Ints w4 A2 (upFrom 1 k) from Ints.of_own (e := TSh) (by rw [upFrom_length]; exact HO4.out))
      have HI4 := Lib.hid (HI1.out.under ((HG2.out.trans HG3.out)) HG4.out (fun j hj => (HO3.out.lt j hj).1))
      have HG5 := Lib.hid (gr_ownF (base_le (HG1.out.trans (HG2.out.trans HG3.out))) HG4.out (fun j hj => Nat.le_trans HG1.out.size (HO3.out.lt j hj).1))
      have hmneg : ¬ ((m : Int) < 0) := by omega
      have hmm : ((m : Int) != (m : Int)) = false := by simp
      go_wp2_with fail
      refine (held_any A2 c2 1 k w4 HU4.out (by omega) (by omega)).mono ?_
      rintro e w5 ⟨rfl, rfl⟩
      rw [HM.out]
      go_wp2_with fail
      refine (H2.out _).mono ?_
      rintro e w6 ⟨A6, c6, rfl, hg6, ho6⟩
      have HG6 := Lib.hid (HG5.out.trans hg6)
      have HU6 := Lib.hid (HU4.out.grown hg6 (by simp))
      have HE6 := Lib.hid (eqi_any A6 A1 c6 c1 zs w6 (Ints.of_own (e := TSh) (by rw [HK.out]; exact ho6)) (HI4.out.grown hg6 (by simp)) (by have := HK.out; omega))
      rw [HK.out] at HE6
      clear hg6 ho6
      go_wp2_with fail
      refine HE6.out.mono ?_
      rintro e w7 ⟨rfl, hg7⟩
      have HG7 := Lib.hid (HG6.out.trans hg7)
      have HU7 := Lib.hid (HU6.out.grown hg7 (by simp))
      clear hg7
      go_wp2_with fail
      refine (held_any A2 c2 1 k w7 HU7.out (by omega) (by omega)).mono ?_
      rintro e w8 ⟨rfl, rfl⟩
      rw [HM.out]
      go_wp2_with fail
      go_ret
      exact ⟨rfl, HG7.out⟩

set_option maxRecDepth 100000 in
theorem shape_lifted (os : Os) (started : os.Started) (H : Type) (enc : TypeId × Value → H) :
    ReturnsInHanded {} Try.checked os 3 .any (Rows.fnExactShapeOfSpec.pre6 enc Try.prog Try.f3 Rows.fnExactShapeOfRow.domain false) (Rows.fnExactShapeOfSpec.post enc Try.prog Try.f3 false true false false) := by
  refine returnsInHanded_of_change (C := Try.checked) knob_own started (by kernel_rfl) Try.func3
    (ChangeSpec.witness6 (enc := enc) (C := Try.checked) false ⟨#[], #[.string .empty, .int .i64 0], []⟩ 8 (by kernel_rfl) (by kernel_rfl) (by kernel_rfl) (by kernel_rfl)) ?_
  intro W base args ds gs before hval0 hW hcnd _
  have hval : ∀ (j : Nat) t v, Try.f3.params[j]? = some t → args[j]? = some v → Value.okWide Try.prog W .any base t v := hval0
  have hW' := hW
  obtain ⟨p, q, hA0, hV, rfl, hfz, hnd⟩ := hW
  have hA : DataW.TrodAll enc Try.prog W 0 (fun _ => true) true Try.f3.params.toList args.toList ds p := hA0
  rw [Try.params3] at hA hval
  obtain ⟨v0, v1, d0, d1, p0, p1, rfl, rfl, rfl, h0, h1⟩ := trodAll_two hA
  obtain ⟨rfl, rfl⟩ := trodVars_none hV
  obtain ⟨s, rfl, rfl, rfl, hmax⟩ := open_string Try.underlying9 (hval 0 9 v0 rfl rfl) h0
  obtain ⟨n, rfl, rfl, rfl, wn⟩ := open_int Try.underlying3 (hval 1 3 v1 rfl rfl) h1
  clear hA0 hval0
  simp only [List.append_nil] at hW'
  refine (law_shape s n W).mono fun e W' ⟨he, hg⟩ => ?_
  subst he
  refine ⟨_, rfl, _, _, _, [], [], [], hW', ?_, ?_, rfl, (below_of hg).frame _, fun h => by cases h⟩
  · exact trodAll_mk1 (shut_bool Try.underlying4 _)
  · exact trodAll_mk2 (shut_string Try.underlying9 hmax) (shut_int Try.underlying3 wn)

theorem shape_holds : Rows.FnExactShapeOfSaid :=
  OpenClaim.holds_of_wide 3 Try.f3 rfl rfl rfl rfl rfl rfl rfl ⟨rfl, rfl, rfl, rfl, rfl⟩ rfl rfl rfl rfl rfl (by kernel_rfl) Try.func3 (by kernel_rfl)
    (of_decide_eq_true (by kernel_rfl)) (by unfold Func.isWrapper; first | (rw [if_pos (by decide +kernel)]; kernel_rfl) | (rw [if_neg (by decide +kernel)]; exact ⟨rfl, rfl⟩))
    (fun os started H enc _ => shape_lifted os started H enc)

#print axioms shape_holds

end Go.Proofs.Ytachjodnhgmoiaa
