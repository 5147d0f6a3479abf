/- The law FnExactPartsOfTerm: for every text both functions answer alike, and the argument reads as it did. No condition. -/
import Derived.Test.YtjcbhjldanakeaaMarkS
import Derived.Test.YtjcbhjldanakeaaLawKit
namespace Go.Proofs.Ytjcbhjldanakeaa
open Go.ChangeShapes Go.WideShapes Go.ChangeAt Go.RowKit
open Go.ChangeMaps (open_string shut_string)

theorem gr_own5 {w w1 w2 : World} {row : Option Nat} (h : w.grownBy w1 none) (h2 : w1.grownBy w2 row) (hr : ∀ k, row = some k → w.heap.size ≤ k) : w.grownBy w2 none :=
  ⟨h2.os.trans h.os, h2.tape.trans h.tape, h2.output.trans h.output, Nat.le_trans h.size h2.size, fun k hk hne => (h2.block k (Nat.lt_of_lt_of_le hk h.size) (fun e => by have := hr k e.symm; omega)).trans (h.block k hk hne)⟩
/-- A row that lies below stands when another one grows. -/
theorem OwnS.under {w w1 w2 : World} {B : Nat} {v : Value} {ss : List ByteArray} {row : Option Nat} (h : OwnS w B v ss) (h1 : w.grownBy w1 none) (h2 : w1.grownBy w2 row) (hr : ∀ k, row = some k → w.heap.size ≤ k) : OwnS w2 B v ss :=
  h.keep (gr_own5 h1 h2 hr)

set_option maxHeartbeats 1000000 in
theorem law_tpts_in (s : ByteArray) (hs : s.size ≤ 1048576) (w : World) :
    Calls Try.prog 6 #[.string s] w fun e w' => e = .returned (.bool true) ∧ w.grownBy w' none := by
  obtain ⟨ss, n, hn, hnn, H1, H2⟩ : ∃ (ss : List ByteArray) (n : Nat), ss.length = n ∧ n ≤ 2 ∧ (∀ w, Calls Try.prog 21 #[.string s] w (PtsPost ss w)) ∧ (∀ w, Calls Try.prog 22 #[.string s] w (PtsPost ss w)) :=
    ⟨partsA s, _, rfl, partsA_len s, fun w => tpts_spec s hs w, fun w => tpts_impl s w⟩
  have HN := Lib.hid hn
  have H1 := Lib.hid H1
  have H2 := Lib.hid H2
  clear hn
  go_enter Try.func6, Try.ntmps6
  go_wp2_with fail
  refine (H1.out _).mono ?_
  rintro e w1 ⟨u1, rfl, hg1, ho1⟩
  have HG1 := Lib.hid hg1
  have HO1 := Lib.hid (show OwnS w1 w.heap.size u1 ss from ho1)
  clear hg1 ho1
  go_wp2_with fail
  refine (H2.out _).mono ?_
  rintro e w2 ⟨u2, rfl, hg2, ho2⟩
  have HG2 := Lib.hid hg2
  have HO2 := Lib.hid (show OwnS w2 w1.heap.size u2 ss from ho2)
  have HE := Lib.hid (eqstr_any _ _ u2 u1 ss w2 HO2.out (HO1.out.keep hg2) (by have := HN.out; omega))
  clear hg2 ho2
  go_wp2_with fail
  refine HE.out.mono ?_
  rintro e w3 ⟨rfl, hg3⟩
  have HG3 := Lib.hid hg3
  have HO3 := Lib.hid (HO2.out.keep hg3)
  clear hg3
  go_wp2_with fail
  refine (markstr_any _ 1 u2 ss w3 HO3.out (by omega) (by have := HN.out; omega)).mono ?_
  rintro e w4 ⟨rfl, ho4, hg4⟩
  have HG4 := Lib.hid hg4
  have HO4 := Lib.hid (show OwnS w4 w1.heap.size u2 (marks 1 n) by rw [HN.out] at ho4; exact ho4)
  obtain ⟨m, hm⟩ : ∃ m : Int, ((1 : Nat) : Int) + (ss.length : Int) = m := ⟨_, rfl⟩
  have HM : Hid (((1 : Nat) : Int) + (n : Int) = m) := Lib.hid (by rw [← HN.out]; exact hm)
  have hm0 : ¬ (m < 0) := by omega
  have hmm : (m != m) = false := by simp
  rw [hm]
  have HW4 := Lib.hid (HO1.out.under (HG2.out.trans HG3.out) HG4.out (fun j hj => (HO3.out.lt j hj).1))
  have HG5 := Lib.hid (gr_own5 (HG1.out.trans (HG2.out.trans HG3.out)) HG4.out (fun j hj => Nat.le_trans HG1.out.size (HO3.out.lt j hj).1))
  clear hg4 ho4 hm
  go_wp2_with fail
  refine (heldstr_any _ 1 n u2 w4 HO4.out (by omega) (by omega)).mono ?_
  rintro e w5 ⟨rfl, hg5⟩
  rw [HM.out]
  have HG6 := Lib.hid (HG5.out.trans hg5)
  have HO5 := Lib.hid (HO4.out.keep hg5)
  have HW5 := Lib.hid (HW4.out.keep hg5)
  clear hg5
  go_wp2_with fail
  refine (H2.out _).mono ?_
  rintro e w6 ⟨u6, rfl, hg6, ho6⟩
  have HG7 := Lib.hid (HG6.out.trans hg6)
  have HO6 := Lib.hid (HO5.out.keep hg6)
  have HE6 := Lib.hid (eqstr_any w5.heap.size _ u6 u1 ss w6 ho6 (HW5.out.keep hg6) (by have := HN.out; omega))
  clear hg6 ho6
  go_wp2_with fail
  refine HE6.out.mono ?_
  rintro e w7 ⟨rfl, hg7⟩
  have HG8 := Lib.hid (HG7.out.trans hg7)
  have HO7 := Lib.hid (HO6.out.keep hg7)
  clear hg7
  go_wp2_with fail
  refine (heldstr_any _ 1 n u2 w7 HO7.out (by omega) (by omega)).mono ?_
  rintro e w8 ⟨rfl, hg8⟩
  rw [HM.out]
  have HG9 := Lib.hid (HG8.out.trans hg8)
  clear hg8
  go_wp2_with fail
  go_ret
  exact ⟨rfl, HG9.out⟩

theorem law_tpts_out (s : ByteArray) (hs : 1048576 < s.size) (w : World) :
    Calls Try.prog 6 #[.string s] w fun e w' => e = .returned (.bool true) ∧ w.grownBy w' none := by
  go_enter Try.func6, Try.ntmps6
  go_wp2_with fail
  go_ret
  exact ⟨rfl, gr_refl _ _⟩

theorem law_tpts (s : ByteArray) (w : World) :
    Calls Try.prog 6 #[.string s] w fun e w' => e = .returned (.bool true) ∧ w.grownBy w' none := by
  rcases Nat.lt_or_ge 1048576 s.size with h | h
  · exact law_tpts_out s h w
  · exact law_tpts_in s h w

set_option maxRecDepth 100000 in
theorem tpts_lifted (os : Os) (started : os.Started) (H : Type) (enc : TypeId × Value → H) :
    ReturnsInHanded {} Try.checked os 6 .any (Rows.fnExactPartsOfTermSpec.pre6 enc Try.prog Try.f6 Rows.fnExactPartsOfTermRow.domain false) (Rows.fnExactPartsOfTermSpec.post enc Try.prog Try.f6 false true false false) := by
  refine returnsInHanded_of_change (C := Try.checked) knob_own started (by kernel_rfl) Try.func6
    (ChangeSpec.witness6 (enc := enc) (C := Try.checked) false ⟨#[], #[.string .empty], []⟩ 8 (by kernel_rfl) (by kernel_rfl) (by kernel_rfl) (by kernel_rfl)) ?_
  intro W base args ds gs before hval0 hW hcnd _
  have hval : ∀ (j : Nat) t v, Try.f6.params[j]? = some t → args[j]? = some v → Value.okWide Try.prog W .any base t v := hval0
  have hW' := hW
  obtain ⟨p, q, hA0, hV, rfl, hfz, hnd⟩ := hW
  have hA : DataW.TrodAll enc Try.prog W 0 (fun _ => true) true Try.f6.params.toList args.toList ds p := hA0
  rw [Try.params6] at hA hval
  obtain ⟨v0, d0, rfl, rfl, h0⟩ := trodAll_one hA
  obtain ⟨rfl, rfl⟩ := trodVars_none hV
  obtain ⟨s, rfl, rfl, rfl, hmax⟩ := open_string Try.underlying9 (hval 0 9 v0 rfl rfl) h0
  clear hA0 hval0
  simp only [List.append_nil] at hW'
  refine (law_tpts s W).mono fun e W' ⟨he, hg⟩ => ?_
  subst he
  refine ⟨_, rfl, _, _, _, [], [], [], hW', ?_, ?_, rfl, (below_of hg).frame _, fun h => by cases h⟩
  · exact trodAll_mk1 (shut_bool Try.underlying4 _)
  · exact trodAll_mk1 (shut_string Try.underlying9 hmax)

theorem tpts_holds : Rows.FnExactPartsOfTermSaid :=
  OpenClaim.holds_of_wide 6 Try.f6 rfl rfl rfl rfl rfl rfl rfl ⟨rfl, rfl, rfl, rfl, rfl⟩ rfl rfl rfl rfl rfl (by kernel_rfl) Try.func6 (by kernel_rfl)
    (of_decide_eq_true (by kernel_rfl)) (by unfold Func.isWrapper; first | (rw [if_pos (by decide +kernel)]; kernel_rfl) | (rw [if_neg (by decide +kernel)]; exact ⟨rfl, rfl⟩))
    (fun os started H enc _ => tpts_lifted os started H enc)

#print axioms tpts_holds
end Go.Proofs.Ytjcbhjldanakeaa
