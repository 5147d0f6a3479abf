/- ShapeOf and IsRegular of both sides. -/
import Derived.Test.YtachjodnhgmoiaaShS
namespace Go.Proofs.Ytachjodnhgmoiaa
open Go.RowKit

theorem shZ_len (s : ByteArray) (n : Int) : (shZ s n).length ≤ 3 := by
  unfold shZ
  split
  · simpa using shLL_len s n
  · simp
/-- Both answers at once. -/
theorem both_shape (s : ByteArray) (n : Int) : ∃ (zs : List Int) (b : Bool), zs.length ≤ 400 ∧
    (∀ w, Calls Try.prog 5 #[.string s, .int .i64 n] w fun e w' => ∃ A c, e = .returned (.tuple #[.slice A zs.length c, .bool b]) ∧ w.grownBy w' none ∧ Ints w' A zs) ∧
    (∀ w, Calls Try.prog 6 #[.string s, .int .i64 n] w fun e w' => ∃ A c, e = .returned (.tuple #[.slice A zs.length c, .bool b]) ∧ w.grownBy w' none ∧
      w'.ownsRow w.heap.size TSh 1 (.slice A zs.length c) zs.length (zs.map (Value.int .i64))) :=
  ⟨shZ s n, shB s n, Nat.le_trans (shZ_len s n) (by omega), fun w => shape_spec s n w, fun w => shape_impl s n w⟩

set_option maxHeartbeats 400000 in
theorem isreg_impl (s : ByteArray) (n : Int) (w : World) : Calls Try.prog 11 #[.string s, .int .i64 n] w fun e w' => e = .returned (.bool (shB s n)) ∧ w.grownBy w' none := by
  have H := Lib.hid (shape_impl s n w)
  unfold ShIP at H
  generalize shB s n = b at H ⊢
  generalize (shZ s n) = zs at H
  go_enter Try.func11, Try.ntmps11
  go_wp2_with fail
  refine H.out.mono ?_
  rintro e w1 ⟨A, c, rfl, hg, _⟩
  have HG := Lib.hid hg
  clear hg
  go_wp2_with fail
  go_ret
  exact ⟨rfl, HG.out⟩
set_option maxHeartbeats 400000 in
theorem isreg_spec (s : ByteArray) (n : Int) (w : World) : Calls Try.prog 10 #[.string s, .int .i64 n] w fun e w' => e = .returned (.bool (shB s n)) ∧ w.grownBy w' none := by
  have H := Lib.hid (shape_spec s n w)
  unfold ShSP at H
  generalize shB s n = b at H ⊢
  generalize (shZ s n) = zs at H
  go_enter Try.func10, Try.ntmps10
  go_wp2_with fail
  refine H.out.mono ?_
  rintro e w1 ⟨A, c, rfl, hg, _⟩
  have HG := Lib.hid hg
  clear hg
  go_wp2_with fail
  go_ret
  exact ⟨rfl, HG.out⟩

end Go.Proofs.Ytachjodnhgmoiaa
