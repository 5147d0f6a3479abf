/- What assertions of a term's dynamic type give, one by one. -/
import Derived.Test.YtboddoaekcchpaaGreatGr
namespace Go.Proofs.YtboddoaekcchpaaGreat
open Go.RowKit

theorem ta_dig_dig (v : Value) (xT : TypeId) (w : World) : (Instr.typeAssert (.iface 110 v) xT 110 true).run Tryz.prog w = .ok (.tuple #[v, .bool true]) w := by
  simp [Instr.typeAssert, run_underlying Tryz.underlying110, go_sem, Result.andThen]
theorem ta_dig_var (v : Value) (xT : TypeId) (w : World) : (Instr.typeAssert (.iface 110 v) xT 51 true).run Tryz.prog w = .ok (.tuple #[.int .u8 0, .bool false]) w := by
  simp [Instr.typeAssert, run_underlying Tryz.underlying51, go_sem, Result.andThen]
theorem ta_dig_pre (v : Value) (xT : TypeId) (w : World) : (Instr.typeAssert (.iface 110 v) xT 112 true).run Tryz.prog w = .ok (.tuple #[.pointer none, .bool false]) w := by
  simp [Instr.typeAssert, run_underlying Tryz.underlying112, go_sem, Result.andThen]
theorem ta_dig_two (v : Value) (xT : TypeId) (w : World) : (Instr.typeAssert (.iface 110 v) xT 116 true).run Tryz.prog w = .ok (.tuple #[.pointer none, .bool false]) w := by
  simp [Instr.typeAssert, run_underlying Tryz.underlying116, go_sem, Result.andThen]
theorem ta_dig_loop (v : Value) (xT : TypeId) (w : World) : (Instr.typeAssert (.iface 110 v) xT 94 true).run Tryz.prog w = .ok (.tuple #[.pointer none, .bool false]) w := by
  simp [Instr.typeAssert, run_underlying Tryz.underlying94, go_sem, Result.andThen]
theorem ta_var_dig (v : Value) (xT : TypeId) (w : World) : (Instr.typeAssert (.iface 51 v) xT 110 true).run Tryz.prog w = .ok (.tuple #[.int .u8 0, .bool false]) w := by
  simp [Instr.typeAssert, run_underlying Tryz.underlying110, go_sem, Result.andThen]
theorem ta_var_var (v : Value) (xT : TypeId) (w : World) : (Instr.typeAssert (.iface 51 v) xT 51 true).run Tryz.prog w = .ok (.tuple #[v, .bool true]) w := by
  simp [Instr.typeAssert, run_underlying Tryz.underlying51, go_sem, Result.andThen]
theorem ta_var_pre (v : Value) (xT : TypeId) (w : World) : (Instr.typeAssert (.iface 51 v) xT 112 true).run Tryz.prog w = .ok (.tuple #[.pointer none, .bool false]) w := by
  simp [Instr.typeAssert, run_underlying Tryz.underlying112, go_sem, Result.andThen]
theorem ta_var_two (v : Value) (xT : TypeId) (w : World) : (Instr.typeAssert (.iface 51 v) xT 116 true).run Tryz.prog w = .ok (.tuple #[.pointer none, .bool false]) w := by
  simp [Instr.typeAssert, run_underlying Tryz.underlying116, go_sem, Result.andThen]
theorem ta_var_loop (v : Value) (xT : TypeId) (w : World) : (Instr.typeAssert (.iface 51 v) xT 94 true).run Tryz.prog w = .ok (.tuple #[.pointer none, .bool false]) w := by
  simp [Instr.typeAssert, run_underlying Tryz.underlying94, go_sem, Result.andThen]
theorem ta_pre_dig (v : Value) (xT : TypeId) (w : World) : (Instr.typeAssert (.iface 112 v) xT 110 true).run Tryz.prog w = .ok (.tuple #[.int .u8 0, .bool false]) w := by
  simp [Instr.typeAssert, run_underlying Tryz.underlying110, go_sem, Result.andThen]
theorem ta_pre_var (v : Value) (xT : TypeId) (w : World) : (Instr.typeAssert (.iface 112 v) xT 51 true).run Tryz.prog w = .ok (.tuple #[.int .u8 0, .bool false]) w := by
  simp [Instr.typeAssert, run_underlying Tryz.underlying51, go_sem, Result.andThen]
theorem ta_pre_pre (v : Value) (xT : TypeId) (w : World) : (Instr.typeAssert (.iface 112 v) xT 112 true).run Tryz.prog w = .ok (.tuple #[v, .bool true]) w := by
  simp [Instr.typeAssert, run_underlying Tryz.underlying112, go_sem, Result.andThen]
theorem ta_pre_two (v : Value) (xT : TypeId) (w : World) : (Instr.typeAssert (.iface 112 v) xT 116 true).run Tryz.prog w = .ok (.tuple #[.pointer none, .bool false]) w := by
  simp [Instr.typeAssert, run_underlying Tryz.underlying116, go_sem, Result.andThen]
theorem ta_pre_loop (v : Value) (xT : TypeId) (w : World) : (Instr.typeAssert (.iface 112 v) xT 94 true).run Tryz.prog w = .ok (.tuple #[.pointer none, .bool false]) w := by
  simp [Instr.typeAssert, run_underlying Tryz.underlying94, go_sem, Result.andThen]
theorem ta_two_dig (v : Value) (xT : TypeId) (w : World) : (Instr.typeAssert (.iface 116 v) xT 110 true).run Tryz.prog w = .ok (.tuple #[.int .u8 0, .bool false]) w := by
  simp [Instr.typeAssert, run_underlying Tryz.underlying110, go_sem, Result.andThen]
theorem ta_two_var (v : Value) (xT : TypeId) (w : World) : (Instr.typeAssert (.iface 116 v) xT 51 true).run Tryz.prog w = .ok (.tuple #[.int .u8 0, .bool false]) w := by
  simp [Instr.typeAssert, run_underlying Tryz.underlying51, go_sem, Result.andThen]
theorem ta_two_pre (v : Value) (xT : TypeId) (w : World) : (Instr.typeAssert (.iface 116 v) xT 112 true).run Tryz.prog w = .ok (.tuple #[.pointer none, .bool false]) w := by
  simp [Instr.typeAssert, run_underlying Tryz.underlying112, go_sem, Result.andThen]
theorem ta_two_two (v : Value) (xT : TypeId) (w : World) : (Instr.typeAssert (.iface 116 v) xT 116 true).run Tryz.prog w = .ok (.tuple #[v, .bool true]) w := by
  simp [Instr.typeAssert, run_underlying Tryz.underlying116, go_sem, Result.andThen]
theorem ta_two_loop (v : Value) (xT : TypeId) (w : World) : (Instr.typeAssert (.iface 116 v) xT 94 true).run Tryz.prog w = .ok (.tuple #[.pointer none, .bool false]) w := by
  simp [Instr.typeAssert, run_underlying Tryz.underlying94, go_sem, Result.andThen]
theorem ta_loop_dig (v : Value) (xT : TypeId) (w : World) : (Instr.typeAssert (.iface 94 v) xT 110 true).run Tryz.prog w = .ok (.tuple #[.int .u8 0, .bool false]) w := by
  simp [Instr.typeAssert, run_underlying Tryz.underlying110, go_sem, Result.andThen]
theorem ta_loop_var (v : Value) (xT : TypeId) (w : World) : (Instr.typeAssert (.iface 94 v) xT 51 true).run Tryz.prog w = .ok (.tuple #[.int .u8 0, .bool false]) w := by
  simp [Instr.typeAssert, run_underlying Tryz.underlying51, go_sem, Result.andThen]
theorem ta_loop_pre (v : Value) (xT : TypeId) (w : World) : (Instr.typeAssert (.iface 94 v) xT 112 true).run Tryz.prog w = .ok (.tuple #[.pointer none, .bool false]) w := by
  simp [Instr.typeAssert, run_underlying Tryz.underlying112, go_sem, Result.andThen]
theorem ta_loop_two (v : Value) (xT : TypeId) (w : World) : (Instr.typeAssert (.iface 94 v) xT 116 true).run Tryz.prog w = .ok (.tuple #[.pointer none, .bool false]) w := by
  simp [Instr.typeAssert, run_underlying Tryz.underlying116, go_sem, Result.andThen]
theorem ta_loop_loop (v : Value) (xT : TypeId) (w : World) : (Instr.typeAssert (.iface 94 v) xT 94 true).run Tryz.prog w = .ok (.tuple #[v, .bool true]) w := by
  simp [Instr.typeAssert, run_underlying Tryz.underlying94, go_sem, Result.andThen]

end Go.Proofs.YtboddoaekcchpaaGreat
