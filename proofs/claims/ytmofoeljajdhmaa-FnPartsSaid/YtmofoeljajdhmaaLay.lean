/- Plain facts: sums of numbers, what is wrong with a layout, where a path leads. Nothing of the program. -/
import Derived.Below
namespace Go.Proofs.Ytmofoeljajdhmaa

/-- The sum of numbers. -/
def sumI : List Int → Int
  | [] => 0
  | z :: l => z + sumI l
/-- Are all numbers from 0 to a greatest one? -/
def okN (hi : Int) : List Int → Bool
  | [] => true
  | z :: l => decide (0 ≤ z ∧ z ≤ hi) && okN hi l

theorem sumI_append : ∀ (l m : List Int), sumI (l ++ m) = sumI l + sumI m
  | [], m => by simp [sumI]
  | z :: l, m => by simp only [List.cons_append, sumI, sumI_append l m]; omega
theorem sumI_step {l : List Int} {j : Nat} {z : Int} (h : l[j]? = some z) : sumI (l.take (j + 1)) = sumI (l.take j) + z := by
  rw [List.take_add_one, h, sumI_append]
  simp [sumI]
theorem okN_append (hi : Int) : ∀ (l m : List Int), okN hi (l ++ m) = (okN hi l && okN hi m)
  | [], m => by simp [okN]
  | z :: l, m => by simp only [List.cons_append, okN, okN_append hi l m, Bool.and_assoc]
theorem okN_step {hi : Int} {l : List Int} {j : Nat} {z : Int} (h : l[j]? = some z) (h1 : okN hi (l.take j) = true) (h2 : 0 ≤ z) (h3 : z ≤ hi) : okN hi (l.take (j + 1)) = true := by
  rw [List.take_add_one, h, okN_append, h1]
  simp [okN, h2, h3]
theorem okN_at {hi : Int} : ∀ {l : List Int} {j : Nat} {z : Int}, l[j]? = some z → okN hi l = true → 0 ≤ z ∧ z ≤ hi
  | [], _, _, h, _ => by simp at h
  | z :: l, 0, y, h, h1 => by
    simp only [List.getElem?_cons_zero, Option.some.injEq] at h
    subst h
    simp only [okN, Bool.and_eq_true, decide_eq_true_eq] at h1
    exact h1.1
  | z :: l, j + 1, y, h, h1 => by
    simp only [okN, Bool.and_eq_true] at h1
    exact okN_at (l := l) (j := j) (by simpa using h) h1.2
theorem okN_bad {hi : Int} {l : List Int} {j : Nat} {z : Int} (h : l[j]? = some z) (h2 : z < 0 ∨ hi < z) : okN hi l = false := by
  cases hb : okN hi l with
  | false => rfl
  | true => have := okN_at h hb; omega
theorem sumI_bound {hi : Int} : ∀ {l : List Int}, okN hi l = true → 0 ≤ sumI l ∧ sumI l ≤ hi * l.length
  | [], _ => by simp [sumI]
  | z :: l, h => by
    simp only [okN, Bool.and_eq_true, decide_eq_true_eq] at h
    have := sumI_bound h.2
    simp only [sumI, List.length_cons]
    have e : hi * ((l.length + 1 : Nat) : Int) = hi * l.length + hi := by rw [Int.natCast_add, Int.mul_add]; simp
    omega
theorem okN_take {hi : Int} {l : List Int} (h : okN hi l = true) (j : Nat) : okN hi (l.take j) = true := by
  have e : l.take j ++ l.drop j = l := List.take_append_drop j l
  rw [← e, okN_append] at h
  exact (Bool.and_eq_true _ _ ▸ h).1
theorem okN_drop {hi : Int} {l : List Int} (h : okN hi l = true) (j : Nat) : okN hi (l.drop j) = true := by
  have e : l.take j ++ l.drop j = l := List.take_append_drop j l
  rw [← e, okN_append] at h
  exact (Bool.and_eq_true _ _ ▸ h).2
theorem sumI_take_bound {l : List Int} (h : okN 400 l = true) (j : Nat) : 0 ≤ sumI (l.take j) ∧ sumI (l.take j) ≤ 400 * j := by
  have h1 := sumI_bound (okN_take h j)
  have h2 : (l.take j).length ≤ j := List.length_take_le _ _
  omega

/-- What is wrong with the levels from one on: its index, or that of the data, or -1. -/
def wrongAt : Nat → Nat → List (List Int) → List Int → Int
  | k, c, [], D => if D.length = c ∧ okN 10006 D = true then -1 else k
  | k, c, L :: LL, D => if k < 3 ∧ L.length = c ∧ okN 400 L = true then wrongAt (k + 1) (sumI L).toNat LL D else k
def wrong (LL : List (List Int)) (D : List Int) : Int := wrongAt 0 1 LL D

theorem wrongAt_range : ∀ (LL : List (List Int)) (k c : Nat) (D : List Int), -1 ≤ wrongAt k c LL D ∧ wrongAt k c LL D ≤ ((k + LL.length : Nat) : Int)
  | [], k, c, D => by
    unfold wrongAt
    split <;> simp <;> omega
  | L :: LL, k, c, D => by
    unfold wrongAt
    have := wrongAt_range LL (k + 1) (sumI L).toNat D
    split
    · simp only [List.length_cons]; omega
    · simp only [List.length_cons]; omega

theorem drop_at {LL : List (List Int)} {k : Nat} {L : List Int} (h : LL[k]? = some L) : LL.drop k = L :: LL.drop (k + 1) := by
  have hk : k < LL.length := (List.getElem?_eq_some_iff.1 h).1
  rw [List.drop_eq_getElem_cons hk]
  congr 1
  exact (List.getElem?_eq_some_iff.1 h).2
theorem wrong_next {LL : List (List Int)} {k c : Nat} {L D : List Int} {r : Int} (h : LL[k]? = some L) (hr : wrongAt k c (LL.drop k) D = r) (h1 : k < 3) (h2 : L.length = c) (h3 : okN 400 L = true) : wrongAt (k + 1) (sumI L).toNat (LL.drop (k + 1)) D = r := by
  rw [drop_at h, wrongAt, if_pos ⟨h1, h2, h3⟩] at hr
  exact hr
theorem wrong_stop {LL : List (List Int)} {k c : Nat} {L D : List Int} {r : Int} (h : LL[k]? = some L) (hr : wrongAt k c (LL.drop k) D = r) (h1 : ¬ (k < 3 ∧ L.length = c ∧ okN 400 L = true)) : r = k := by
  rw [drop_at h, wrongAt, if_neg h1] at hr
  exact hr.symm
theorem wrong_end {LL : List (List Int)} {k c : Nat} {D : List Int} {r : Int} (h : LL.length ≤ k) (hr : wrongAt k c (LL.drop k) D = r) : r = if D.length = c ∧ okN 10006 D = true then -1 else (k : Int) := by
  rw [List.drop_eq_nil_of_le h, wrongAt] at hr
  exact hr.symm

/-- A layout in which nothing is wrong: each level has as many numbers as the one before adds up to. -/
def Fits : Nat → List (List Int) → List Int → Prop
  | c, [], D => D.length = c ∧ okN 10006 D = true
  | c, L :: LL, D => L.length = c ∧ okN 400 L = true ∧ Fits (sumI L).toNat LL D
theorem wrongAt_fits : ∀ (LL : List (List Int)) (k c : Nat) (D : List Int), wrongAt k c LL D = -1 → k + LL.length ≤ 3 ∨ LL = [] → Fits c LL D
  | [], k, c, D, h, _ => by
    unfold wrongAt at h
    split at h
    · assumption
    · omega
  | L :: LL, k, c, D, h, h3 => by
    unfold wrongAt at h
    split at h
    · rename_i hc
      refine ⟨hc.2.1, hc.2.2, wrongAt_fits LL (k + 1) _ D h ?_⟩
      rcases h3 with h3 | h3
      · left; simp only [List.length_cons] at h3; omega
      · cases h3
    · omega
theorem wrongAt_levels : ∀ (LL : List (List Int)) (k c : Nat) (D : List Int), wrongAt k c LL D = -1 → LL = [] ∨ k + LL.length ≤ 3
  | [], _, _, _, _ => .inl rfl
  | L :: LL, k, c, D, h => by
    unfold wrongAt at h
    split at h
    · rename_i hc
      rcases wrongAt_levels LL (k + 1) _ D h with rfl | h3
      · right; simp only [List.length_cons, List.length_nil]; omega
      · right; simp only [List.length_cons]; omega
    · omega
theorem wrong_fits {LL : List (List Int)} {D : List Int} (h : wrong LL D = -1) : LL.length ≤ 3 ∧ Fits 1 LL D := by
  have h3 : LL.length ≤ 3 := by
    rcases wrongAt_levels LL 0 1 D h with rfl | h3
    · simp
    · omega
  exact ⟨h3, wrongAt_fits LL 0 1 D h (.inl (by omega))⟩
theorem fits_wrong : ∀ (LL : List (List Int)) (k c : Nat) (D : List Int), Fits c LL D → k + LL.length ≤ 3 ∨ LL = [] → wrongAt k c LL D = -1
  | [], k, c, D, h, _ => if_pos h
  | L :: LL, k, c, D, ⟨h1, h2, h3⟩, hk => by
    have hk' : k + (LL.length + 1) ≤ 3 := by
      rcases hk with h | h
      · simpa using h
      · cases h
    rw [wrongAt, if_pos ⟨by omega, h1, h2⟩]
    exact fits_wrong LL (k + 1) _ D h3 (.inl (by omega))

/-- Where a path leads, from a place on. -/
def placeAt : Nat → List (List Int) → List Int → Int
  | p, L :: LL, i :: path => if 0 ≤ i ∧ i < (L[p]?).getD 0 then placeAt (sumI (L.take p) + i).toNat LL path else -1
  | p, _, _ => p
theorem place_next {LL : List (List Int)} {path : List Int} {k p : Nat} {L : List Int} {i n r : Int} (h : LL[k]? = some L) (h2 : path[k]? = some i) (hn : L[p]? = some n) (hr : placeAt p (LL.drop k) (path.drop k) = r) (h0 : 0 ≤ i) (h1 : i < n) :
    placeAt (sumI (L.take p) + i).toNat (LL.drop (k + 1)) (path.drop (k + 1)) = r := by
  have hk : k < path.length := (List.getElem?_eq_some_iff.1 h2).1
  rw [drop_at h, List.drop_eq_getElem_cons hk, (List.getElem?_eq_some_iff.1 h2).2, placeAt, hn, Option.getD_some, if_pos ⟨h0, h1⟩] at hr
  exact hr
theorem place_stop {LL : List (List Int)} {path : List Int} {k p : Nat} {L : List Int} {i n r : Int} (h : LL[k]? = some L) (h2 : path[k]? = some i) (hn : L[p]? = some n) (hr : placeAt p (LL.drop k) (path.drop k) = r) (h1 : ¬ (0 ≤ i ∧ i < n)) : r = -1 := by
  have hk : k < path.length := (List.getElem?_eq_some_iff.1 h2).1
  rw [drop_at h, List.drop_eq_getElem_cons hk, (List.getElem?_eq_some_iff.1 h2).2, placeAt, hn, Option.getD_some, if_neg h1] at hr
  exact hr.symm
theorem place_end {LL : List (List Int)} {path : List Int} {k p : Nat} {r : Int} (h : LL.length ≤ k) (hr : placeAt p (LL.drop k) (path.drop k) = r) : r = p := by
  rw [List.drop_eq_nil_of_le h, placeAt] at hr
  · exact hr.symm
  · intros; simp_all

/-- The level that a walk has come to, of a layout in which nothing is wrong. -/
theorem fits_drop : ∀ {LL : List (List Int)} {c k : Nat} {D L : List Int}, Fits c LL D → LL[k]? = some L → okN 400 L = true ∧ Fits (sumI L).toNat (LL.drop (k + 1)) D ∧ ∃ c', L.length = c' ∧ Fits c' (LL.drop k) D
  | [], _, _, _, _, _, h => by simp at h
  | L :: LL, c, 0, D, M, hf, h => by
    simp only [List.getElem?_cons_zero, Option.some.injEq] at h
    subst h
    exact ⟨hf.2.1, hf.2.2, c, hf.1, hf⟩
  | L :: LL, c, k + 1, D, M, ⟨_, _, hf⟩, h => fits_drop (LL := LL) (k := k) hf (by simpa using h)
theorem fits_next {LL : List (List Int)} {k : Nat} {D L : List Int} {p : Nat} {i n : Int} (hf : Fits (sumI L).toNat (LL.drop (k + 1)) D) (hok : okN 400 L = true) (hn : L[p]? = some n) (h0 : 0 ≤ i) (h1 : i < n) :
    (∀ M, LL[k + 1]? = some M → (sumI (L.take p) + i).toNat < M.length) ∧ 0 ≤ sumI (L.take p) + i ∧ sumI (L.take p) + i < sumI L := by
  have hs := sumI_step hn
  have h2 := sumI_bound (okN_take hok p)
  have h3 := sumI_bound (okN_drop hok (p + 1))
  have e : sumI L = sumI (L.take (p + 1)) + sumI (L.drop (p + 1)) := by rw [← sumI_append, List.take_append_drop]
  refine ⟨fun M hM => ?_, by omega, by omega⟩
  rw [drop_at hM] at hf
  have := hf.1
  omega

end Go.Proofs.Ytmofoeljajdhmaa
