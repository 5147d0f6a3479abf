/- Plain facts: the pieces of a text, one by one, by where the next space is. -/
import Derived.Test.YtdfanconjiiceaaDoorCode
import Derived.Lib.IndexLaws
namespace Go.Proofs.YtdfanconjiiceaaDoor

/-- What is left of a text from a place on. -/
def rest (s : ByteArray) (p : Nat) : ByteArray := s.extract p s.size
theorem rest_zero (s : ByteArray) : rest s 0 = s := by unfold rest; simp
theorem rest_size (s : ByteArray) (p : Nat) : (rest s p).size = s.size - p := by unfold rest; simp
theorem ba_data {s : ByteArray} {j : Nat} {c : UInt8} : s.data.toList[j]? = some c ↔ ba s j = (c.toNat : Int) := by
  rcases Nat.lt_or_ge j s.size with h | h
  · have e : s.data.toList[j]? = some s[j] := by
      rw [List.getElem?_eq_getElem (by simpa using h)]; simp; rfl
    rw [e, ba_in h]
    constructor
    · intro h2; cases h2; rfl
    · intro h2
      have : s[j].toNat = c.toNat := by omega
      rw [UInt8.toNat_inj.1 this]
  · rw [ba_out h, List.getElem?_eq_none (by simpa using h)]
    constructor
    · intro h2; cases h2
    · intro h2; omega
theorem rest_ba (s : ByteArray) (p j : Nat) (h : p + j < s.size) : ba (rest s p) j = ba s (p + j) := by
  unfold rest
  exact ba_extract s p s.size j (Nat.le_refl _) (by omega)
theorem rest_head (s : ByteArray) (p i : Nat) (h : p + i ≤ s.size) : (rest s p).extract 0 i = s.extract p (p + i) := by
  unfold rest
  rw [ByteArray.extract_extract]
  congr 1
  omega
theorem rest_tail (s : ByteArray) (p i : Nat) : (rest s p).extract i (rest s p).size = rest s (p + i) := by
  rw [rest_size]
  unfold rest
  rw [ByteArray.extract_extract]
  congr 1
  omega

/-- No space is left: the rest is the last piece. -/
theorem cutF_last {s : ByteArray} {p : Nat} (hp : p ≤ s.size) (h : Lib.indexByte (rest s p).data.toList 32 = -1) : cutF s (s.size + 1 - p) p p = [rest s p] := by
  have hn := Lib.indexByte_none h
  have h1 := cutF_run (s := s) (p := p) (s.size - p) p 1 (fun j hj => ⟨by omega, fun e => hn j (ba_data.2 (by rw [rest_ba s p j (by omega), e]; rfl))⟩)
  rw [show s.size + 1 - p = 1 + (s.size - p) from by omega, h1, show p + (s.size - p) = s.size from by omega, cutF_yes (f := 0) (.inl rfl)]
  rfl
/-- The next space: the piece ahead of it, and what comes behind. -/
theorem cutF_next {s : ByteArray} {p i : Nat} (hp : p ≤ s.size) (h : Lib.indexByte (rest s p).data.toList 32 = (i : Int)) :
    p + i + 1 ≤ s.size ∧ (rest s p).extract 0 i = s.extract p (p + i) ∧ (rest s p).extract (i + 1) (rest s p).size = rest s (p + i + 1) ∧ cutF s (s.size + 1 - p) p p = s.extract p (p + i) :: cutF s (s.size + 1 - (p + i + 1)) (p + i + 1) (p + i + 1) := by
  obtain ⟨h1, h2⟩ := Lib.indexByte_some h
  have hlt : i < (rest s p).size := by
    have := ba_lt (s := rest s p) (p := i) (by rw [ba_data.1 h1]; exact Int.natCast_nonneg _)
    exact this
  rw [rest_size] at hlt
  have hb : ba s (p + i) = 32 := by
    rw [← rest_ba s p i (by omega), ba_data.1 h1]; rfl
  have hr := cutF_run (s := s) (p := p) i p (s.size + 1 - p - i) (fun j hj => ⟨by omega, fun e => h2 j hj (ba_data.2 (by rw [rest_ba s p j (by omega), e]; rfl))⟩)
  refine ⟨by omega, rest_head s p i (by omega), by rw [rest_tail]; congr 1, ?_⟩
  rw [show s.size + 1 - p = s.size + 1 - p - i + i from by omega, hr]
  obtain ⟨f, hf⟩ : ∃ f, s.size + 1 - p - i = f + 1 := ⟨s.size - p - i, by omega⟩
  rw [hf, cutF_yes (.inr hb), show s.size + 1 - (p + i + 1) = f from by omega]

end Go.Proofs.YtdfanconjiiceaaDoor
