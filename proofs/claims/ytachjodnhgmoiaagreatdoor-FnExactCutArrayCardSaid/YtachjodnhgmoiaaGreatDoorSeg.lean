/- Plain facts: lengths, where segments begin, segments, and what is folded in each. Nothing of the program. -/
import Derived.Test.YtachjodnhgmoiaaGreatDoorFam
namespace Go.Proofs.YtachjodnhgmoiaaGreatDoor

/-- Are these the lengths of not too much data? -/
def lensB (L : List Int) : Bool := decide (L.length ≤ 400) && (okN 400 L && decide (sumI L ≤ 400))
/-- Do lengths and data fit? -/
def segsB (L D : List Int) : Bool := lensB L && (decide ((D.length : Int) = sumI L) && okN 10006 D)
theorem lensB_mk {L : List Int} (h1 : L.length ≤ 400) (h2 : okN 400 L = true) (h3 : sumI L ≤ 400) : lensB L = true := by simp [lensB, h1, h2, h3]
theorem lensB_get {L : List Int} (h : lensB L = true) : L.length ≤ 400 ∧ okN 400 L = true ∧ sumI L ≤ 400 ∧ 0 ≤ sumI L := by
  simp only [lensB, Bool.and_eq_true, decide_eq_true_eq] at h
  exact ⟨h.1, h.2.1, h.2.2, (sumI_bound h.2.1).1⟩
theorem segsB_get {L D : List Int} (h : segsB L D = true) : lensB L = true ∧ (D.length : Int) = sumI L ∧ okN 10006 D = true := by
  simp only [segsB, Bool.and_eq_true, decide_eq_true_eq] at h
  exact h

/-- The segments of data. -/
def cutI : List Int → List Int → List (List Int)
  | [], _ => []
  | z :: L, D => D.take z.toNat :: cutI L (D.drop z.toNat)
theorem cutI_len : ∀ (L D : List Int), (cutI L D).length = L.length
  | [], _ => rfl
  | z :: L, D => by simp [cutI, cutI_len L]
theorem cutI_at : ∀ (L D : List Int) (j : Nat) (z : Int), okN 400 L = true → L[j]? = some z → (cutI L D)[j]? = some ((D.drop (sumI (L.take j)).toNat).take z.toNat)
  | [], _, _, _, _, h => by simp at h
  | y :: L, D, 0, z, _, h => by
    simp only [List.getElem?_cons_zero, Option.some.injEq] at h
    subst h
    simp [cutI, sumI]
  | y :: L, D, j + 1, z, hok, h => by
    simp only [okN, Bool.and_eq_true, decide_eq_true_eq] at hok
    have := cutI_at L (D.drop y.toNat) j z hok.2 (by simpa using h)
    simp only [cutI, List.getElem?_cons_succ, this, List.take_succ_cons, sumI, List.drop_drop]
    have hb := sumI_take_bound hok.2 j
    rw [show y.toNat + (sumI (L.take j)).toNat = (y + sumI (L.take j)).toNat from by omega]
/-- The segments are the data. -/
theorem cutI_flat : ∀ (L D : List Int), okN 400 L = true → (D.length : Int) = sumI L → (cutI L D).flatten = D
  | [], D, _, h => by
    simp only [sumI] at h
    obtain rfl := List.eq_nil_of_length_eq_zero (show D.length = 0 by omega)
    rfl
  | z :: L, D, hok, h => by
    simp only [okN, Bool.and_eq_true, decide_eq_true_eq] at hok
    have h0 := (sumI_bound hok.2).1
    simp only [sumI] at h
    rw [cutI, List.flatten_cons, cutI_flat L _ hok.2 (by rw [List.length_drop]; omega), List.take_append_drop]
/-- Where segments begin. -/
def startsI (b : Int) : List Int → List Int
  | [] => []
  | z :: L => b :: startsI (b + z) L
theorem startsI_len : ∀ (L : List Int) (b : Int), (startsI b L).length = L.length
  | [], _ => rfl
  | z :: L, b => by simp [startsI, startsI_len L]
theorem startsI_at : ∀ (L : List Int) (b : Int) (j : Nat) (z : Int), L[j]? = some z → (startsI b L)[j]? = some (b + sumI (L.take j))
  | [], _, _, _, h => by simp at h
  | y :: L, b, 0, z, _ => by simp [startsI, sumI]
  | y :: L, b, j + 1, z, h => by
    have := startsI_at L (b + y) j z (by simpa using h)
    simp only [startsI, List.getElem?_cons_succ, this, List.take_succ_cons, sumI]
    congr 1; omega
theorem at_take {α : Type} {l : List α} {j : Nat} {x : α} (h : l[j]? = some x) : l.take (j + 1) = l.take j ++ [x] := by
  rw [List.take_add_one, h]; rfl
theorem startsI_step {L : List Int} {j : Nat} {z : Int} (h : L[j]? = some z) : (startsI 0 L).take (j + 1) = (startsI 0 L).take j ++ [sumI (L.take j)] := by
  refine at_take ?_
  have := startsI_at L 0 j z h
  simpa using this
/-- Sums of the first lengths are no more than the sum. -/
theorem sumI_le {L : List Int} (h : okN 400 L = true) {j : Nat} {z : Int} (hj : L[j]? = some z) : 0 ≤ z ∧ z ≤ 400 ∧ 0 ≤ sumI (L.take j) ∧ sumI (L.take j) + z ≤ sumI L := by
  have h1 := okN_at hj h
  have h2 := (sumI_take_bound h j).1
  have h3 := sumI_step hj
  have e : sumI L = sumI (L.take (j + 1)) + sumI (L.drop (j + 1)) := by rw [← sumI_append, List.take_append_drop]
  have h4 := (sumI_bound (okN_drop h (j + 1))).1
  omega

end Go.Proofs.YtachjodnhgmoiaaGreatDoor
