/- What assertions of a term's dynamic type give, one by one. -/
import Derived.Test.YtmofoeljajdhmaaGr
namespace Go.Proofs.Ytmofoeljajdhmaa
open Go.RowKit

theorem ta_dig_dig (v : Value) (xT : TypeId) (w : World) : (Instr.typeAssert (.iface 181 v) xT 181 true).run Try.prog w = .ok (.tuple #[v, .bool true]) w := by
  simp [Instr.typeAssert, run_underlying Try.underlying181, go_sem, Result.andThen]
theorem ta_dig_var (v : Value) (xT : TypeId) (w : World) : (Instr.typeAssert (.iface 181 v) xT 80 true).run Try.prog w = .ok (.tuple #[.int .u8 0, .bool false]) w := by
  simp [Instr.typeAssert, run_underlying Try.underlying80, go_sem, Result.andThen]
theorem ta_dig_pre (v : Value) (xT : TypeId) (w : World) : (Instr.typeAssert (.iface 181 v) xT 171 true).run Try.prog w = .ok (.tuple #[.pointer none, .bool false]) w := by
  simp [Instr.typeAssert, run_underlying Try.underlying171, go_sem, Result.andThen]
theorem ta_dig_two (v : Value) (xT : TypeId) (w : World) : (Instr.typeAssert (.iface 181 v) xT 174 true).run Try.prog w = .ok (.tuple #[.pointer none, .bool false]) w := by
  simp [Instr.typeAssert, run_underlying Try.underlying174, go_sem, Result.andThen]
theorem ta_dig_loop (v : Value) (xT : TypeId) (w : World) : (Instr.typeAssert (.iface 181 v) xT 161 true).run Try.prog w = .ok (.tuple #[.pointer none, .bool false]) w := by
  simp [Instr.typeAssert, run_underlying Try.underlying161, go_sem, Result.andThen]
theorem ta_var_dig (v : Value) (xT : TypeId) (w : World) : (Instr.typeAssert (.iface 80 v) xT 181 true).run Try.prog w = .ok (.tuple #[.int .u8 0, .bool false]) w := by
  simp [Instr.typeAssert, run_underlying Try.underlying181, go_sem, Result.andThen]
theorem ta_var_var (v : Value) (xT : TypeId) (w : World) : (Instr.typeAssert (.iface 80 v) xT 80 true).run Try.prog w = .ok (.tuple #[v, .bool true]) w := by
  simp [Instr.typeAssert, run_underlying Try.underlying80, go_sem, Result.andThen]
theorem ta_var_pre (v : Value) (xT : TypeId) (w : World) : (Instr.typeAssert (.iface 80 v) xT 171 true).run Try.prog w = .ok (.tuple #[.pointer none, .bool false]) w := by
  simp [Instr.typeAssert, run_underlying Try.underlying171, go_sem, Result.andThen]
theorem ta_var_two (v : Value) (xT : TypeId) (w : World) : (Instr.typeAssert (.iface 80 v) xT 174 true).run Try.prog w = .ok (.tuple #[.pointer none, .bool false]) w := by
  simp [Instr.typeAssert, run_underlying Try.underlying174, go_sem, Result.andThen]
theorem ta_var_loop (v : Value) (xT : TypeId) (w : World) : (Instr.typeAssert (.iface 80 v) xT 161 true).run Try.prog w = .ok (.tuple #[.pointer none, .bool false]) w := by
  simp [Instr.typeAssert, run_underlying Try.underlying161, go_sem, Result.andThen]
theorem ta_pre_dig (v : Value) (xT : TypeId) (w : World) : (Instr.typeAssert (.iface 171 v) xT 181 true).run Try.prog w = .ok (.tuple #[.int .u8 0, .bool false]) w := by
  simp [Instr.typeAssert, run_underlying Try.underlying181, go_sem, Result.andThen]
theorem ta_pre_var (v : Value) (xT : TypeId) (w : World) : (Instr.typeAssert (.iface 171 v) xT 80 true).run Try.prog w = .ok (.tuple #[.int .u8 0, .bool false]) w := by
  simp [Instr.typeAssert, run_underlying Try.underlying80, go_sem, Result.andThen]
theorem ta_pre_pre (v : Value) (xT : TypeId) (w : World) : (Instr.typeAssert (.iface 171 v) xT 171 true).run Try.prog w = .ok (.tuple #[v, .bool true]) w := by
  simp [Instr.typeAssert, run_underlying Try.underlying171, go_sem, Result.andThen]
theorem ta_pre_two (v : Value) (xT : TypeId) (w : World) : (Instr.typeAssert (.iface 171 v) xT 174 true).run Try.prog w = .ok (.tuple #[.pointer none, .bool false]) w := by
  simp [Instr.typeAssert, run_underlying Try.underlying174, go_sem, Result.andThen]
theorem ta_pre_loop (v : Value) (xT : TypeId) (w : World) : (Instr.typeAssert (.iface 171 v) xT 161 true).run Try.prog w = .ok (.tuple #[.pointer none, .bool false]) w := by
  simp [Instr.typeAssert, run_underlying Try.underlying161, go_sem, Result.andThen]
theorem ta_two_dig (v : Value) (xT : TypeId) (w : World) : (Instr.typeAssert (.iface 174 v) xT 181 true).run Try.prog w = .ok (.tuple #[.int .u8 0, .bool false]) w := by
  simp [Instr.typeAssert, run_underlying Try.underlying181, go_sem, Result.andThen]
theorem ta_two_var (v : Value) (xT : TypeId) (w : World) : (Instr.typeAssert (.iface 174 v) xT 80 true).run Try.prog w = .ok (.tuple #[.int .u8 0, .bool false]) w := by
  simp [Instr.typeAssert, run_underlying Try.underlying80, go_sem, Result.andThen]
theorem ta_two_pre (v : Value) (xT : TypeId) (w : World) : (Instr.typeAssert (.iface 174 v) xT 171 true).run Try.prog w = .ok (.tuple #[.pointer none, .bool false]) w := by
  simp [Instr.typeAssert, run_underlying Try.underlying171, go_sem, Result.andThen]
theorem ta_two_two (v : Value) (xT : TypeId) (w : World) : (Instr.typeAssert (.iface 174 v) xT 174 true).run Try.prog w = .ok (.tuple #[v, .bool true]) w := by
  simp [Instr.typeAssert, run_underlying Try.underlying174, go_sem, Result.andThen]
theorem ta_two_loop (v : Value) (xT : TypeId) (w : World) : (Instr.typeAssert (.iface 174 v) xT 161 true).run Try.prog w = .ok (.tuple #[.pointer none, .bool false]) w := by
  simp [Instr.typeAssert, run_underlying Try.underlying161, go_sem, Result.andThen]
theorem ta_loop_dig (v : Value) (xT : TypeId) (w : World) : (Instr.typeAssert (.iface 161 v) xT 181 true).run Try.prog w = .ok (.tuple #[.int .u8 0, .bool false]) w := by
  simp [Instr.typeAssert, run_underlying Try.underlying181, go_sem, Result.andThen]
theorem ta_loop_var (v : Value) (xT : TypeId) (w : World) : (Instr.typeAssert (.iface 161 v) xT 80 true).run Try.prog w = .ok (.tuple #[.int .u8 0, .bool false]) w := by
  simp [Instr.typeAssert, run_underlying Try.underlying80, go_sem, Result.andThen]
theorem ta_loop_pre (v : Value) (xT : TypeId) (w : World) : (Instr.typeAssert (.iface 161 v) xT 171 true).run Try.prog w = .ok (.tuple #[.pointer none, .bool false]) w := by
  simp [Instr.typeAssert, run_underlying Try.underlying171, go_sem, Result.andThen]
theorem ta_loop_two (v : Value) (xT : TypeId) (w : World) : (Instr.typeAssert (.iface 161 v) xT 174 true).run Try.prog w = .ok (.tuple #[.pointer none, .bool false]) w := by
  simp [Instr.typeAssert, run_underlying Try.underlying174, go_sem, Result.andThen]
theorem ta_loop_loop (v : Value) (xT : TypeId) (w : World) : (Instr.typeAssert (.iface 161 v) xT 161 true).run Try.prog w = .ok (.tuple #[v, .bool true]) w := by
  simp [Instr.typeAssert, run_underlying Try.underlying161, go_sem, Result.andThen]

end Go.Proofs.Ytmofoeljajdhmaa
