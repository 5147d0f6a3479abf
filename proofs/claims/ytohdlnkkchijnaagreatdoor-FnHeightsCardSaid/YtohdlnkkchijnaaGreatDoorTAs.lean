/- What assertions of a term's dynamic type give, one by one. -/
import Derived.Test.YtohdlnkkchijnaaGreatDoorGr
namespace Go.Proofs.YtohdlnkkchijnaaGreatDoor
open Go.RowKit

theorem ta_dig_dig (v : Value) (xT : TypeId) (w : World) : (Instr.typeAssert (.iface 114 v) xT 114 true).run Tryz.prog w = .ok (.tuple #[v, .bool true]) w := by
  simp [Instr.typeAssert, run_underlying Tryz.underlying114, go_sem, Result.andThen]
theorem ta_dig_var (v : Value) (xT : TypeId) (w : World) : (Instr.typeAssert (.iface 114 v) xT 64 true).run Tryz.prog w = .ok (.tuple #[.int .u8 0, .bool false]) w := by
  simp [Instr.typeAssert, run_underlying Tryz.underlying64, go_sem, Result.andThen]
theorem ta_dig_pre (v : Value) (xT : TypeId) (w : World) : (Instr.typeAssert (.iface 114 v) xT 116 true).run Tryz.prog w = .ok (.tuple #[.pointer none, .bool false]) w := by
  simp [Instr.typeAssert, run_underlying Tryz.underlying116, go_sem, Result.andThen]
theorem ta_dig_two (v : Value) (xT : TypeId) (w : World) : (Instr.typeAssert (.iface 114 v) xT 120 true).run Tryz.prog w = .ok (.tuple #[.pointer none, .bool false]) w := by
  simp [Instr.typeAssert, run_underlying Tryz.underlying120, go_sem, Result.andThen]
theorem ta_dig_loop (v : Value) (xT : TypeId) (w : World) : (Instr.typeAssert (.iface 114 v) xT 87 true).run Tryz.prog w = .ok (.tuple #[.pointer none, .bool false]) w := by
  simp [Instr.typeAssert, run_underlying Tryz.underlying87, go_sem, Result.andThen]
theorem ta_var_dig (v : Value) (xT : TypeId) (w : World) : (Instr.typeAssert (.iface 64 v) xT 114 true).run Tryz.prog w = .ok (.tuple #[.int .u8 0, .bool false]) w := by
  simp [Instr.typeAssert, run_underlying Tryz.underlying114, go_sem, Result.andThen]
theorem ta_var_var (v : Value) (xT : TypeId) (w : World) : (Instr.typeAssert (.iface 64 v) xT 64 true).run Tryz.prog w = .ok (.tuple #[v, .bool true]) w := by
  simp [Instr.typeAssert, run_underlying Tryz.underlying64, go_sem, Result.andThen]
theorem ta_var_pre (v : Value) (xT : TypeId) (w : World) : (Instr.typeAssert (.iface 64 v) xT 116 true).run Tryz.prog w = .ok (.tuple #[.pointer none, .bool false]) w := by
  simp [Instr.typeAssert, run_underlying Tryz.underlying116, go_sem, Result.andThen]
theorem ta_var_two (v : Value) (xT : TypeId) (w : World) : (Instr.typeAssert (.iface 64 v) xT 120 true).run Tryz.prog w = .ok (.tuple #[.pointer none, .bool false]) w := by
  simp [Instr.typeAssert, run_underlying Tryz.underlying120, go_sem, Result.andThen]
theorem ta_var_loop (v : Value) (xT : TypeId) (w : World) : (Instr.typeAssert (.iface 64 v) xT 87 true).run Tryz.prog w = .ok (.tuple #[.pointer none, .bool false]) w := by
  simp [Instr.typeAssert, run_underlying Tryz.underlying87, go_sem, Result.andThen]
theorem ta_pre_dig (v : Value) (xT : TypeId) (w : World) : (Instr.typeAssert (.iface 116 v) xT 114 true).run Tryz.prog w = .ok (.tuple #[.int .u8 0, .bool false]) w := by
  simp [Instr.typeAssert, run_underlying Tryz.underlying114, go_sem, Result.andThen]
theorem ta_pre_var (v : Value) (xT : TypeId) (w : World) : (Instr.typeAssert (.iface 116 v) xT 64 true).run Tryz.prog w = .ok (.tuple #[.int .u8 0, .bool false]) w := by
  simp [Instr.typeAssert, run_underlying Tryz.underlying64, go_sem, Result.andThen]
theorem ta_pre_pre (v : Value) (xT : TypeId) (w : World) : (Instr.typeAssert (.iface 116 v) xT 116 true).run Tryz.prog w = .ok (.tuple #[v, .bool true]) w := by
  simp [Instr.typeAssert, run_underlying Tryz.underlying116, go_sem, Result.andThen]
theorem ta_pre_two (v : Value) (xT : TypeId) (w : World) : (Instr.typeAssert (.iface 116 v) xT 120 true).run Tryz.prog w = .ok (.tuple #[.pointer none, .bool false]) w := by
  simp [Instr.typeAssert, run_underlying Tryz.underlying120, go_sem, Result.andThen]
theorem ta_pre_loop (v : Value) (xT : TypeId) (w : World) : (Instr.typeAssert (.iface 116 v) xT 87 true).run Tryz.prog w = .ok (.tuple #[.pointer none, .bool false]) w := by
  simp [Instr.typeAssert, run_underlying Tryz.underlying87, go_sem, Result.andThen]
theorem ta_two_dig (v : Value) (xT : TypeId) (w : World) : (Instr.typeAssert (.iface 120 v) xT 114 true).run Tryz.prog w = .ok (.tuple #[.int .u8 0, .bool false]) w := by
  simp [Instr.typeAssert, run_underlying Tryz.underlying114, go_sem, Result.andThen]
theorem ta_two_var (v : Value) (xT : TypeId) (w : World) : (Instr.typeAssert (.iface 120 v) xT 64 true).run Tryz.prog w = .ok (.tuple #[.int .u8 0, .bool false]) w := by
  simp [Instr.typeAssert, run_underlying Tryz.underlying64, go_sem, Result.andThen]
theorem ta_two_pre (v : Value) (xT : TypeId) (w : World) : (Instr.typeAssert (.iface 120 v) xT 116 true).run Tryz.prog w = .ok (.tuple #[.pointer none, .bool false]) w := by
  simp [Instr.typeAssert, run_underlying Tryz.underlying116, go_sem, Result.andThen]
theorem ta_two_two (v : Value) (xT : TypeId) (w : World) : (Instr.typeAssert (.iface 120 v) xT 120 true).run Tryz.prog w = .ok (.tuple #[v, .bool true]) w := by
  simp [Instr.typeAssert, run_underlying Tryz.underlying120, go_sem, Result.andThen]
theorem ta_two_loop (v : Value) (xT : TypeId) (w : World) : (Instr.typeAssert (.iface 120 v) xT 87 true).run Tryz.prog w = .ok (.tuple #[.pointer none, .bool false]) w := by
  simp [Instr.typeAssert, run_underlying Tryz.underlying87, go_sem, Result.andThen]
theorem ta_loop_dig (v : Value) (xT : TypeId) (w : World) : (Instr.typeAssert (.iface 87 v) xT 114 true).run Tryz.prog w = .ok (.tuple #[.int .u8 0, .bool false]) w := by
  simp [Instr.typeAssert, run_underlying Tryz.underlying114, go_sem, Result.andThen]
theorem ta_loop_var (v : Value) (xT : TypeId) (w : World) : (Instr.typeAssert (.iface 87 v) xT 64 true).run Tryz.prog w = .ok (.tuple #[.int .u8 0, .bool false]) w := by
  simp [Instr.typeAssert, run_underlying Tryz.underlying64, go_sem, Result.andThen]
theorem ta_loop_pre (v : Value) (xT : TypeId) (w : World) : (Instr.typeAssert (.iface 87 v) xT 116 true).run Tryz.prog w = .ok (.tuple #[.pointer none, .bool false]) w := by
  simp [Instr.typeAssert, run_underlying Tryz.underlying116, go_sem, Result.andThen]
theorem ta_loop_two (v : Value) (xT : TypeId) (w : World) : (Instr.typeAssert (.iface 87 v) xT 120 true).run Tryz.prog w = .ok (.tuple #[.pointer none, .bool false]) w := by
  simp [Instr.typeAssert, run_underlying Tryz.underlying120, go_sem, Result.andThen]
theorem ta_loop_loop (v : Value) (xT : TypeId) (w : World) : (Instr.typeAssert (.iface 87 v) xT 87 true).run Tryz.prog w = .ok (.tuple #[v, .bool true]) w := by
  simp [Instr.typeAssert, run_underlying Tryz.underlying87, go_sem, Result.andThen]

end Go.Proofs.YtohdlnkkchijnaaGreatDoor
