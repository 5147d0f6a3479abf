/- DepthOfTerm and IsFunction, both sides, as the laws want them. -/
import Derived.Test.YtjcbhjldanakeaaSDepA
namespace Go.Proofs.Ytjcbhjldanakeaa
open Go.RowKit

def tdepA (s : ByteArray) : Int := depthA s
def tfunA (s : ByteArray) : Bool := decide (0 ≤ depthA s)
theorem tdep_spec (s : ByteArray) (hs : s.size ≤ 1048576) (w : World) : Calls Try.prog 17 #[.string s] w fun e w' => e = .returned (.int .i64 (tdepA s)) ∧ w.grownBy w' none := tdepth_spec s hs w
theorem tdep_impl (s : ByteArray) (_ : s.size ≤ 1048576) (w : World) : Calls Try.prog 18 #[.string s] w fun e w' => e = .returned (.int .i64 (tdepA s)) ∧ w.grownBy w' none := tdepth_impl s w
theorem tfun_impl (s : ByteArray) (_ : s.size ≤ 1048576) (w : World) : Calls Try.prog 20 #[.string s] w fun e w' => e = .returned (.bool (tfunA s)) ∧ w.grownBy w' none := tisfun_impl s w

set_option maxRecDepth 100000 in
set_option maxHeartbeats 1000000 in
theorem tfun_spec (s : ByteArray) (hs : s.size ≤ 1048576) (w : World) : Calls Try.prog 19 #[.string s] w fun e w' => e = .returned (.bool (tfunA s)) ∧ w.grownBy w' none := by
  have H := Lib.hid (tdep_spec s hs w)
  unfold tfunA
  unfold tdepA at H
  generalize depthA s = r at H ⊢
  go_enter Try.func19, Try.ntmps19
  go_wp2_with fail
  refine H.out.mono ?_
  rintro e w1 ⟨rfl, hg1⟩
  have HG1 := Lib.hid hg1
  clear hg1
  go_wp2_with fail
  go_ret
  exact ⟨rfl, HG1.out⟩

end Go.Proofs.Ytjcbhjldanakeaa
