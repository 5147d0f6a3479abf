/- InputsValid of both sides: two arrays, of the depths 1 and 2. -/
import Derived.Test.YtmofoeljajdhmaaValid
namespace Go.Proofs.Ytmofoeljajdhmaa
open Go.RowKit

def inokA (a b : ByteArray) : Bool := isArr a 1 && isArr b 2

theorem inok_spec (a b : ByteArray) (w : World) :
    Calls Try.prog 38 #[.string a, .string b] w fun e w' => e = .returned (.bool (inokA a b)) ∧ w.grownBy w' none := by
  have H1 := Lib.hid (fun w => valid_spec a 1 w)
  have H2 := Lib.hid (fun w => valid_spec b 2 w)
  unfold inokA
  generalize isArr a 1 = x at H1 ⊢
  generalize isArr b 2 = y at H2 ⊢
  cases x
  all_goals
    go_enter Try.func38, Try.ntmps38
    go_wp2_with fail
    refine (H1.out _).mono ?_
    rintro e w1 ⟨rfl, hg1⟩
    have HG1 := Lib.hid hg1
    clear hg1
    go_wp2_with fail
  · go_ret
    exact ⟨rfl, HG1.out⟩
  · refine (H2.out _).mono ?_
    rintro e w2 ⟨rfl, hg2⟩
    have HG2 := Lib.hid hg2
    clear hg2
    go_wp2_with fail
    go_ret
    exact ⟨rfl, HG1.out.trans HG2.out⟩

theorem inok_impl (a b : ByteArray) (w : World) :
    Calls Try.prog 39 #[.string a, .string b] w fun e w' => e = .returned (.bool (inokA a b)) ∧ w.grownBy w' none := by
  have H1 := Lib.hid (fun w => valid_impl a 1 w)
  have H2 := Lib.hid (fun w => valid_impl b 2 w)
  unfold inokA
  generalize isArr a 1 = x at H1 ⊢
  generalize isArr b 2 = y at H2 ⊢
  cases x
  all_goals
    go_enter Try.func39, Try.ntmps39
    go_wp2_with fail
    refine (H1.out _).mono ?_
    rintro e w1 ⟨rfl, hg1⟩
    have HG1 := Lib.hid hg1
    clear hg1
    go_wp2_with fail
  · go_ret
    exact ⟨rfl, HG1.out⟩
  · refine (H2.out _).mono ?_
    rintro e w2 ⟨rfl, hg2⟩
    have HG2 := Lib.hid hg2
    clear hg2
    go_wp2_with fail
    go_ret
    exact ⟨rfl, HG1.out.trans HG2.out⟩

end Go.Proofs.Ytmofoeljajdhmaa
