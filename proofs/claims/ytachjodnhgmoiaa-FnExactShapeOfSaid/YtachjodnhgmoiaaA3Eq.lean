/- Arrays of three ints compared. -/
import Derived.Laws.StructEq
import Derived.Test.YtachjodnhgmoiaaGr
namespace Go.Proofs.Ytachjodnhgmoiaa
open Go.RowKit

theorem underSh : Try.prog.underlying 34 = some (.array 3 3) := by kernel_rfl
theorem eq3 (a b c a' b' c' : Int) (u : World) : (Op.equalIn 10000 34 (.agg #[.int .i64 a, .int .i64 b, .int .i64 c]) (.agg #[.int .i64 a', .int .i64 b', .int .i64 c'])).run Try.prog u = .ok (a == a' && (b == b' && c == c')) u := by
  have hs : (sizeOf 3).run Try.prog u = .ok 1 u := by kernel_rfl
  have he : ∀ x y, (Op.equalIn 9999 3 (.int .i64 x) (.int .i64 y)).run Try.prog u = .ok (x == y) u := fun x y => run_equalIn_int u 9998 3 .i64 .i64 x y Try.underlying3
  have hp0 : ∀ (x y z : Value), (part 3 #[x, y, z] 0).run Try.prog u = .ok x u := fun x y z => by kernel_rfl
  have hp1 : ∀ (x y z : Value), (part 3 #[x, y, z] 1).run Try.prog u = .ok y u := fun x y z => by kernel_rfl
  have hp2 : ∀ (x y z : Value), (part 3 #[x, y, z] 2).run Try.prog u = .ok z u := fun x y z => by kernel_rfl
  have hi : (a == a' && (b == b' && c == c')) = decide (a = a' ∧ b = b' ∧ c = c') := by
    by_cases hx : a = a' <;> by_cases hy : b = b' <;> by_cases hz : c = c' <;> simp [hx, hy, hz]
  rw [Op.equalIn, hi]
  set_option linter.unusedSimpArgs false in
  by_cases hx : a = a' <;> by_cases hy : b = b' <;> by_cases hz : c = c' <;> simp [run_underlying underSh, hs, Std.Legacy.Range.forIn_eq_forIn_range', List.range', hp0, hp1, hp2, he, Result.andThen, hx, hy, hz]

end Go.Proofs.Ytachjodnhgmoiaa
