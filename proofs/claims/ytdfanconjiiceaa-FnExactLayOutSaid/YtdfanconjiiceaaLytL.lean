/- A layout that came in as an argument. -/
import Derived.Test.YtdfanconjiiceaaLytArg
import Derived.Test.YtdfanconjiiceaaFamL
namespace Go.Proofs.Ytdfanconjiiceaa
open Go.ChangeShapes Go.WideShapes Go.ChangeAt Go.RowKit Go.Joins Go.Deep
open Go.ChangeMaps (open_string shut_string)

section
variable {H : Type} {enc : TypeId × Value → H}

set_option maxRecDepth 100000 in
theorem open_layout {W : World} {base : Nat} {v : Value} {d : DataW H} {p : List MemPlace} (hval : Value.okWide Try.prog W .any base 42 v) (h : DataW.Trod enc Try.prog W 0 (fun _ => true) true 42 v d p) :
    ∃ LL D, Lyt W v LL D ∧ LL.length ≤ 9223372036854775807 ∧ (∀ M ∈ LL, M.length ≤ 9223372036854775807) ∧ D.length ≤ 9223372036854775807 ∧ (∀ L ∈ LL, ∀ n ∈ L, (Lit.int .i64 n).wf = true) ∧ ∀ n ∈ D, (Lit.int .i64 n).wf = true := by
  obtain ⟨v0, v1, y0, y1, n, rfl, _, _, h0, h1⟩ := open_agg2 Try.underlying42 (by kernel_rfl) (by kernel_rfl) hval h
  obtain ⟨A, c, LL, rfl, a1, a2, a3, a4, a5⟩ := open_rowsarg h0
  obtain ⟨B, e, D, rfl, b1, b2, b3, b4⟩ := open_listarg h1
  have hmx : maxLen ≤ 9223372036854775807 := by simp [maxLen]
  exact ⟨LL, D, ⟨A, c, B, e, rfl, a1, b1, a3, b3⟩, by omega, fun M hM => Nat.le_trans (a4 M hM) hmx, by omega, a5, b4⟩
end

end Go.Proofs.Ytdfanconjiiceaa
