/- What assertions of a term's dynamic type give, one by one. -/
import Derived.Test.YtfaeolnmkdjhaaaGr
namespace Go.Proofs.Ytfaeolnmkdjhaaa
open Go.RowKit

theorem ta_dig_dig (v : Value) (xT : TypeId) (w : World) : (Instr.typeAssert (.iface 73 v) xT 73 true).run Try.prog w = .ok (.tuple #[v, .bool true]) w := by
  simp [Instr.typeAssert, run_underlying Try.underlying73, go_sem, Result.andThen]
theorem ta_dig_var (v : Value) (xT : TypeId) (w : World) : (Instr.typeAssert (.iface 73 v) xT 61 true).run Try.prog w = .ok (.tuple #[.int .u8 0, .bool false]) w := by
  simp [Instr.typeAssert, run_underlying Try.underlying61, go_sem, Result.andThen]
theorem ta_dig_pre (v : Value) (xT : TypeId) (w : World) : (Instr.typeAssert (.iface 73 v) xT 75 true).run Try.prog w = .ok (.tuple #[.pointer none, .bool false]) w := by
  simp [Instr.typeAssert, run_underlying Try.underlying75, go_sem, Result.andThen]
theorem ta_dig_two (v : Value) (xT : TypeId) (w : World) : (Instr.typeAssert (.iface 73 v) xT 78 true).run Try.prog w = .ok (.tuple #[.pointer none, .bool false]) w := by
  simp [Instr.typeAssert, run_underlying Try.underlying78, go_sem, Result.andThen]
theorem ta_dig_loop (v : Value) (xT : TypeId) (w : World) : (Instr.typeAssert (.iface 73 v) xT 56 true).run Try.prog w = .ok (.tuple #[.pointer none, .bool false]) w := by
  simp [Instr.typeAssert, run_underlying Try.underlying56, go_sem, Result.andThen]
theorem ta_var_dig (v : Value) (xT : TypeId) (w : World) : (Instr.typeAssert (.iface 61 v) xT 73 true).run Try.prog w = .ok (.tuple #[.int .u8 0, .bool false]) w := by
  simp [Instr.typeAssert, run_underlying Try.underlying73, go_sem, Result.andThen]
theorem ta_var_var (v : Value) (xT : TypeId) (w : World) : (Instr.typeAssert (.iface 61 v) xT 61 true).run Try.prog w = .ok (.tuple #[v, .bool true]) w := by
  simp [Instr.typeAssert, run_underlying Try.underlying61, go_sem, Result.andThen]
theorem ta_var_pre (v : Value) (xT : TypeId) (w : World) : (Instr.typeAssert (.iface 61 v) xT 75 true).run Try.prog w = .ok (.tuple #[.pointer none, .bool false]) w := by
  simp [Instr.typeAssert, run_underlying Try.underlying75, go_sem, Result.andThen]
theorem ta_var_two (v : Value) (xT : TypeId) (w : World) : (Instr.typeAssert (.iface 61 v) xT 78 true).run Try.prog w = .ok (.tuple #[.pointer none, .bool false]) w := by
  simp [Instr.typeAssert, run_underlying Try.underlying78, go_sem, Result.andThen]
theorem ta_var_loop (v : Value) (xT : TypeId) (w : World) : (Instr.typeAssert (.iface 61 v) xT 56 true).run Try.prog w = .ok (.tuple #[.pointer none, .bool false]) w := by
  simp [Instr.typeAssert, run_underlying Try.underlying56, go_sem, Result.andThen]
theorem ta_pre_dig (v : Value) (xT : TypeId) (w : World) : (Instr.typeAssert (.iface 75 v) xT 73 true).run Try.prog w = .ok (.tuple #[.int .u8 0, .bool false]) w := by
  simp [Instr.typeAssert, run_underlying Try.underlying73, go_sem, Result.andThen]
theorem ta_pre_var (v : Value) (xT : TypeId) (w : World) : (Instr.typeAssert (.iface 75 v) xT 61 true).run Try.prog w = .ok (.tuple #[.int .u8 0, .bool false]) w := by
  simp [Instr.typeAssert, run_underlying Try.underlying61, go_sem, Result.andThen]
theorem ta_pre_pre (v : Value) (xT : TypeId) (w : World) : (Instr.typeAssert (.iface 75 v) xT 75 true).run Try.prog w = .ok (.tuple #[v, .bool true]) w := by
  simp [Instr.typeAssert, run_underlying Try.underlying75, go_sem, Result.andThen]
theorem ta_pre_two (v : Value) (xT : TypeId) (w : World) : (Instr.typeAssert (.iface 75 v) xT 78 true).run Try.prog w = .ok (.tuple #[.pointer none, .bool false]) w := by
  simp [Instr.typeAssert, run_underlying Try.underlying78, go_sem, Result.andThen]
theorem ta_pre_loop (v : Value) (xT : TypeId) (w : World) : (Instr.typeAssert (.iface 75 v) xT 56 true).run Try.prog w = .ok (.tuple #[.pointer none, .bool false]) w := by
  simp [Instr.typeAssert, run_underlying Try.underlying56, go_sem, Result.andThen]
theorem ta_two_dig (v : Value) (xT : TypeId) (w : World) : (Instr.typeAssert (.iface 78 v) xT 73 true).run Try.prog w = .ok (.tuple #[.int .u8 0, .bool false]) w := by
  simp [Instr.typeAssert, run_underlying Try.underlying73, go_sem, Result.andThen]
theorem ta_two_var (v : Value) (xT : TypeId) (w : World) : (Instr.typeAssert (.iface 78 v) xT 61 true).run Try.prog w = .ok (.tuple #[.int .u8 0, .bool false]) w := by
  simp [Instr.typeAssert, run_underlying Try.underlying61, go_sem, Result.andThen]
theorem ta_two_pre (v : Value) (xT : TypeId) (w : World) : (Instr.typeAssert (.iface 78 v) xT 75 true).run Try.prog w = .ok (.tuple #[.pointer none, .bool false]) w := by
  simp [Instr.typeAssert, run_underlying Try.underlying75, go_sem, Result.andThen]
theorem ta_two_two (v : Value) (xT : TypeId) (w : World) : (Instr.typeAssert (.iface 78 v) xT 78 true).run Try.prog w = .ok (.tuple #[v, .bool true]) w := by
  simp [Instr.typeAssert, run_underlying Try.underlying78, go_sem, Result.andThen]
theorem ta_two_loop (v : Value) (xT : TypeId) (w : World) : (Instr.typeAssert (.iface 78 v) xT 56 true).run Try.prog w = .ok (.tuple #[.pointer none, .bool false]) w := by
  simp [Instr.typeAssert, run_underlying Try.underlying56, go_sem, Result.andThen]
theorem ta_loop_dig (v : Value) (xT : TypeId) (w : World) : (Instr.typeAssert (.iface 56 v) xT 73 true).run Try.prog w = .ok (.tuple #[.int .u8 0, .bool false]) w := by
  simp [Instr.typeAssert, run_underlying Try.underlying73, go_sem, Result.andThen]
theorem ta_loop_var (v : Value) (xT : TypeId) (w : World) : (Instr.typeAssert (.iface 56 v) xT 61 true).run Try.prog w = .ok (.tuple #[.int .u8 0, .bool false]) w := by
  simp [Instr.typeAssert, run_underlying Try.underlying61, go_sem, Result.andThen]
theorem ta_loop_pre (v : Value) (xT : TypeId) (w : World) : (Instr.typeAssert (.iface 56 v) xT 75 true).run Try.prog w = .ok (.tuple #[.pointer none, .bool false]) w := by
  simp [Instr.typeAssert, run_underlying Try.underlying75, go_sem, Result.andThen]
theorem ta_loop_two (v : Value) (xT : TypeId) (w : World) : (Instr.typeAssert (.iface 56 v) xT 78 true).run Try.prog w = .ok (.tuple #[.pointer none, .bool false]) w := by
  simp [Instr.typeAssert, run_underlying Try.underlying78, go_sem, Result.andThen]
theorem ta_loop_loop (v : Value) (xT : TypeId) (w : World) : (Instr.typeAssert (.iface 56 v) xT 56 true).run Try.prog w = .ok (.tuple #[v, .bool true]) w := by
  simp [Instr.typeAssert, run_underlying Try.underlying56, go_sem, Result.andThen]

end Go.Proofs.Ytfaeolnmkdjhaaa
