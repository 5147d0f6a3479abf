/- Terms compared with a digit, with a variable. -/
import Derived.Test.YtboddoaekcchpaaGreatRls
import Derived.LaidEql
namespace Go.Proofs.YtboddoaekcchpaaGreat
open Go.RowKit

abbrev TTm : TypeId := 45
theorem underTm : ∃ ms, Tryz.prog.underlying TTm = some (.interface ms) := ⟨_, Tryz.underlying45⟩
theorem infoDg : ∃ i, Tryz.prog.info? 110 = some i ∧ i.comparable = true := by
  have h : (Tryz.prog.info? 110).map (·.comparable) = some true := by kernel_rfl
  cases hi : Tryz.prog.info? 110 with
  | none => rw [hi] at h; cases h
  | some i => rw [hi] at h; exact ⟨i, rfl, by simpa using h⟩
theorem infoVr : ∃ i, Tryz.prog.info? 51 = some i ∧ i.comparable = true := by
  have h : (Tryz.prog.info? 51).map (·.comparable) = some true := by kernel_rfl
  cases hi : Tryz.prog.info? 51 with
  | none => rw [hi] at h; cases h
  | some i => rw [hi] at h; exact ⟨i, rfl, by simpa using h⟩

theorem eql_other {ty ty' : TypeId} (hne : ty ≠ ty') (pv pv' : Value) (u : World) : (binOp .eql TTm (.iface ty pv) (.iface ty' pv')).run Tryz.prog u = .ok (.bool false) u := by
  obtain ⟨ms, hi⟩ := underTm
  have h : ∀ d : Nat, (Op.equalIn (d + 1) TTm (.iface ty pv) (.iface ty' pv')).run Tryz.prog u = .ok false u := fun d => by simp [Op.equalIn, run_underlying hi, hne]
  simp only [binOp]
  simp [Op.equal, Op.maxDepth, h 9999]
theorem eql_dd (m d : Int) (u : World) : (binOp .eql TTm (.iface 110 (.int .u8 m)) (.iface 110 (.int .u8 d))).run Tryz.prog u = .ok (.bool (m == d)) u := by
  obtain ⟨ms, hi⟩ := underTm
  obtain ⟨i, hin, hc⟩ := infoDg
  have h : ∀ k : Nat, (Op.equalIn (k + 2) TTm (.iface 110 (.int .u8 m)) (.iface 110 (.int .u8 d))).run Tryz.prog u = .ok (m == d) u := fun k => by
    simp [Op.equalIn, run_underlying hi, run_underlying Tryz.underlying110, typeInfo, hin, hc]
  simp only [binOp]
  simp [Op.equal, Op.maxDepth, h 9998]
theorem eql_vv (m d : Int) (u : World) : (binOp .eql TTm (.iface 51 (.int .u8 m)) (.iface 51 (.int .u8 d))).run Tryz.prog u = .ok (.bool (m == d)) u := by
  obtain ⟨ms, hi⟩ := underTm
  obtain ⟨i, hin, hc⟩ := infoVr
  have h : ∀ k : Nat, (Op.equalIn (k + 2) TTm (.iface 51 (.int .u8 m)) (.iface 51 (.int .u8 d))).run Tryz.prog u = .ok (m == d) u := fun k => by
    simp [Op.equalIn, run_underlying hi, run_underlying Tryz.underlying51, typeInfo, hin, hc]
  simp only [binOp]
  simp [Op.equal, Op.maxDepth, h 9998]

theorem eql_dig {w : World} {S : Nat → Prop} {t : Tm} {ty : TypeId} {pv : Value} (h : PT w S t (.iface ty pv)) (d : Int) (u : World) :
    (binOp .eql TTm (.iface ty pv) (.iface 110 (.int .u8 d))).run Tryz.prog u = .ok (.bool (t.digIs d)) u := by
  cases t with
  | dig c => cases h; rw [eql_dd]; rfl
  | var c => cases h; exact eql_other (by decide) _ _ _
  | pre c s => obtain ⟨b, x, hv, _⟩ := h; cases hv; exact eql_other (by decide) _ _ _
  | two c s t => obtain ⟨b, x, y, hv, _⟩ := h; cases hv; exact eql_other (by decide) _ _ _
  | loop c i s t => obtain ⟨b, x, y, hv, _⟩ := h; cases hv; exact eql_other (by decide) _ _ _
theorem eql_var {w : World} {S : Nat → Prop} {t : Tm} {ty : TypeId} {pv : Value} (h : PT w S t (.iface ty pv)) (d : Int) (u : World) :
    (binOp .eql TTm (.iface ty pv) (.iface 51 (.int .u8 d))).run Tryz.prog u = .ok (.bool (t.varIs d)) u := by
  cases t with
  | dig c => cases h; exact eql_other (by decide) _ _ _
  | var c => cases h; rw [eql_vv]; rfl
  | pre c s => obtain ⟨b, x, hv, _⟩ := h; cases hv; exact eql_other (by decide) _ _ _
  | two c s t => obtain ⟨b, x, y, hv, _⟩ := h; cases hv; exact eql_other (by decide) _ _ _
  | loop c i s t => obtain ⟨b, x, y, hv, _⟩ := h; cases hv; exact eql_other (by decide) _ _ _

end Go.Proofs.YtboddoaekcchpaaGreat
