/- A list of ints that came in as an argument. -/
import Derived.Test.YtachjodnhgmoiaaDoorToi
import Derived.Test.YtachjodnhgmoiaaDoorLytArg
namespace Go.Proofs.YtachjodnhgmoiaaDoor
open Go.ChangeShapes Go.WideShapes Go.ChangeAt Go.RowKit Go.Joins Go.Deep

set_option maxRecDepth 100000 in
theorem open_ints1 {H : Type} {enc : TypeId × Value → H} {W : World} {base : Nat} {v : Value} {d : DataW H} {p : List MemPlace} (hval : Value.okWide Tryd.prog W .any base 22 v) (h : DataW.Trod enc Tryd.prog W 0 (fun _ => true) true 22 v d p) :
    ∃ A c L, v = .slice A (L : List Int).length c ∧ L.length ≤ 9223372036854775807 ∧ Ints W A L := by
  obtain ⟨E0, len, cap, rfl⟩ := okWide_slice Tryd.underlying22 hval
  have h1' := h
  obtain ⟨fuel, h1'⟩ := h1'
  simp only [Value.cells] at h1'
  obtain ⟨E, f, L, hv1, h2, h3, hp, _⟩ := open_listarg h1'
  cases hv1
  have hmx : maxLen ≤ 9223372036854775807 := by simp [maxLen]
  exact ⟨E0, cap, L, rfl, by omega, hp⟩

end Go.Proofs.YtachjodnhgmoiaaDoor
