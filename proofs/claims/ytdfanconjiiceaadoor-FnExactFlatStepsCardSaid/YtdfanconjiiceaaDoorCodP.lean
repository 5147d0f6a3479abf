/- The code of a term: its instructions with single spaces between them. Nothing of the program's memory. -/
import Derived.Test.YtdfanconjiiceaaDoorWrtT
namespace Go.Proofs.YtdfanconjiiceaaDoor

def codeL (t : Tm) : List UInt8 := puts [] t.ins
theorem ins_last (t : Tm) : ∃ xs x, t.ins = xs ++ [x] ∧ x ≠ [] := by
  cases t with
  | dig c => exact ⟨[], _, rfl, by simp⟩
  | var c => exact ⟨[], _, rfl, by simp⟩
  | pre c s => exact ⟨s.ins, _, rfl, by simp⟩
  | two c s t => exact ⟨s.ins ++ t.ins, [byt c], by simp [Tm.ins], by simp⟩
  | loop c v s t => exact ⟨s.ins ++ ([[byt c, byt v]] ++ t.ins), [byt (c + 2)], by simp [Tm.ins], by simp⟩
theorem codeL_ne (t : Tm) : codeL t ≠ [] := by
  obtain ⟨xs, x, h, hx⟩ := ins_last t
  unfold codeL
  rw [h, puts_snoc]
  unfold put
  intro e
  exact hx (List.append_eq_nil_iff.1 e).2
/-- What CodeOf answers. -/
def codeV (s : ByteArray) : ByteArray × Bool := match readT s with
  | some t => (⟨(codeL t).toArray⟩, true)
  | none => (⟨#[]⟩, false)
def CodP (s : ByteArray) (w : World) (e : Ending) (w' : World) : Prop := e = .returned (.tuple #[.string (codeV s).1, .bool (codeV s).2]) ∧ w.grownBy w' none

end Go.Proofs.YtdfanconjiiceaaDoor
