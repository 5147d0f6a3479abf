/- A list of ints that came in as an argument. -/
import Derived.Test.YtachjodnhgmoiaaGreatDoorToi
import Derived.Test.YtachjodnhgmoiaaGreatDoorLytArg
namespace Go.Proofs.YtachjodnhgmoiaaGreatDoor
open Go.ChangeShapes Go.WideShapes Go.ChangeAt Go.RowKit Go.Joins Go.Deep

set_option maxRecDepth 100000 in
theorem open_ints1 {H : Type} {enc : TypeId × Value → H} {W : World} {base : Nat} {v : Value} {d : DataW H} {p : List MemPlace} (hval : Value.okWide Tryz.prog W .any base 25 v) (h : DataW.Trod enc Tryz.prog W 0 (fun _ => true) true 25 v d p) :
    ∃ A c L, v = .slice A (L : List Int).length c ∧ L.length ≤ 9223372036854775807 ∧ Ints W A L := by
  obtain ⟨E0, len, cap, rfl⟩ := okWide_slice Tryz.underlying25 hval
  have h1' := h
  obtain ⟨fuel, h1'⟩ := h1'
  simp only [Value.cells] at h1'
  obtain ⟨E, f, L, hv1, h2, h3, hp, _⟩ := open_listarg h1'
  cases hv1
  have hmx : maxLen ≤ 9223372036854775807 := by simp [maxLen]
  exact ⟨E0, cap, L, rfl, by omega, hp⟩

end Go.Proofs.YtachjodnhgmoiaaGreatDoor
