/- Plain facts: numbers made for each length, one segment behind the other. -/
import Derived.Test.YtbideeajdhejoaaSeg
namespace Go.Proofs.Ytbideeajdhejoaa

/-- For each length so many numbers: those of F at the segment's index. -/
def genI (F : Nat → Nat → Int) : Nat → List Int → List Int
  | _, [] => []
  | i, z :: L => (List.range z.toNat).map (F i) ++ genI F (i + 1) L
theorem genI_take (F : Nat → Nat → Int) : ∀ (L : List Int) (i j : Nat) (z : Int), L[j]? = some z → genI F i (L.take (j + 1)) = genI F i (L.take j) ++ (List.range z.toNat).map (F (i + j))
  | [], _, _, _, h => by simp at h
  | y :: L, i, 0, z, h => by
    simp only [List.getElem?_cons_zero, Option.some.injEq] at h
    subst h
    simp [genI]
  | y :: L, i, j + 1, z, h => by
    have := genI_take F L (i + 1) j z (by simpa using h)
    simp only [List.take_succ_cons, genI, this, List.append_assoc]
    rw [show i + 1 + j = i + (j + 1) from by omega]
theorem genI_len (F : Nat → Nat → Int) : ∀ (L : List Int) (i : Nat), okN 400 L = true → ((genI F i L).length : Int) = sumI L
  | [], _, _ => rfl
  | z :: L, i, h => by
    simp only [okN, Bool.and_eq_true, decide_eq_true_eq] at h
    have := genI_len F L (i + 1) h.2
    simp only [genI, sumI, List.length_append, List.length_map, List.length_range]
    omega
theorem gen_step (F : Nat → Int) (k : Nat) : (List.range (k + 1)).map F = (List.range k).map F ++ [F k] := by
  rw [List.range_succ, List.map_append]; rfl

end Go.Proofs.Ytbideeajdhejoaa
