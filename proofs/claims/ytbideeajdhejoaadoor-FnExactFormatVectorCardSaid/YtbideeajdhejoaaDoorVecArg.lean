/- A vector that came in as an argument. -/
import Derived.Test.YtbideeajdhejoaaDoorLytL
import Derived.Test.YtbideeajdhejoaaDoorVec
namespace Go.Proofs.YtbideeajdhejoaaDoor
open Go.ChangeShapes Go.WideShapes Go.ChangeAt Go.RowKit Go.Joins Go.Deep
open Go.ChangeMaps (open_string shut_string)

section
variable {H : Type} {enc : TypeId × Value → H}

set_option maxRecDepth 100000 in
set_option maxHeartbeats 1000000 in
theorem open_vector {W : World} {base : Nat} {v : Value} {d : DataW H} {p : List MemPlace} (hval : Value.okWide Tryd.prog W .any base 27 v) (h : DataW.Trod enc Tryd.prog W 0 (fun _ => true) true 27 v d p) :
    ∃ k LL D, Vct W v k LL D ∧ (Lit.int .i64 k).wf = true ∧ LL.length ≤ 9223372036854775807 ∧ (∀ M ∈ LL, M.length ≤ 9223372036854775807) ∧ D.length ≤ 9223372036854775807 ∧ (∀ L ∈ LL, ∀ n ∈ L, (Lit.int .i64 n).wf = true) ∧ ∀ n ∈ D, (Lit.int .i64 n).wf = true := by
  obtain ⟨cs, rfl, hsz⟩ := okWide_struct Tryd.underlying27 hval
  obtain ⟨c0, c1, c2, rfl⟩ := array3 (hsz.trans (by kernel_rfl))
  obtain ⟨fuel, hf⟩ := h
  obtain ⟨y0, y1, n, -, -, h0, h1⟩ := trod_struct2 Tryd.underlying27 hf
  have e0 : Tryd.prog.cellsOf 3 = 1 := cellsI
  have e1 : Tryd.prog.cellsOf 25 = 2 := by kernel_rfl
  simp only [Value.cells, e0, e1, List.drop_zero, List.drop_succ_cons, List.take_succ_cons, List.take_zero] at h0 h1
  obtain ⟨k, hk, hx, hw⟩ := DataW.trod_int Tryd.underlying3 h0
  obtain ⟨z0, z1, n2, -, -, g0, g1⟩ := trod_struct2 Tryd.underlying25 h1
  have e2 : Tryd.prog.cellsOf 22 = 1 := by kernel_rfl
  simp only [cellsL, e2, List.drop_zero, List.drop_succ_cons, List.take_succ_cons, List.take_zero] at g0 g1
  simp only [List.cons.injEq, and_true] at hk
  subst hk
  obtain ⟨A, c, LL, rfl, a1, a2, a3, a4, a5⟩ := open_rowsarg g0
  obtain ⟨B, e, D, rfl, b1, b2, b3, b4⟩ := open_listarg g1
  have hmx : maxLen ≤ 9223372036854775807 := by simp [maxLen]
  exact ⟨k, LL, D, ⟨A, c, B, e, rfl, a1, b1, a3, b3⟩, hw, by omega, fun M hM => Nat.le_trans (a4 M hM) hmx, by omega, a5, b4⟩
end

end Go.Proofs.YtbideeajdhejoaaDoor
