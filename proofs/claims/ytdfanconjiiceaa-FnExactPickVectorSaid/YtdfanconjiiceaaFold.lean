/- Plain facts: the arrays of each level of a layout, and the places that a fold has come to. Nothing of the program. -/
import Derived.Test.YtdfanconjiiceaaLevels
namespace Go.Proofs.Ytdfanconjiiceaa

/-- All arrays of a level, out of the levels from it on. -/
def foldN : (d : Nat) → List (List Int) → List Int → List (T d)
  | 0, _, D => (D.map Int.toNat : List Nat)
  | _ + 1, [], _ => []
  | d + 1, L :: LL, D => cutBy L (foldN d LL D)

theorem foldN_len : ∀ (d c : Nat) (LL : List (List Int)) (D : List Int), LL.length = d → Fits c LL D → (foldN d LL D).length = c
  | 0, c, LL, D, h, hf => by
    obtain rfl := List.eq_nil_of_length_eq_zero h
    have := hf.1
    show (D.map Int.toNat).length = c
    simpa using this
  | d + 1, c, [], D, h, _ => by simp at h
  | d + 1, c, L :: LL, D, h, hf => by
    show (cutBy L (foldN d LL D)).length = c
    rw [cutBy_len]
    exact hf.1

theorem cutBy_at {α : Type} : ∀ {l : List Int} {xs : List α} {j : Nat} {z : Int}, l[j]? = some z → okN 400 l = true → (cutBy l xs)[j]? = some ((xs.drop (sumI (l.take j)).toNat).take z.toNat)
  | [], _, _, _, h, _ => by simp at h
  | y :: l, xs, 0, z, h, _ => by
    simp only [List.getElem?_cons_zero, Option.some.injEq] at h
    subst h
    simp [cutBy, sumI]
  | y :: l, xs, j + 1, z, h, hok => by
    simp only [okN, Bool.and_eq_true, decide_eq_true_eq] at hok
    have h1 := cutBy_at (l := l) (xs := xs.drop y.toNat) (j := j) (by simpa using h) hok.2
    have h2 := sumI_bound (okN_take hok.2 j)
    simp only [cutBy, List.getElem?_cons_succ, List.take_succ_cons, sumI]
    rw [h1, List.drop_drop]
    congr 3
    omega

/-- The part of a level at a place, of a layout in which nothing is wrong. -/
theorem foldN_at {d : Nat} {L : List Int} {LL : List (List Int)} {D : List Int} {j : Nat} {z : Int} (h : L[j]? = some z) (hok : okN 400 L = true) :
    (foldN (d + 1) (L :: LL) D)[j]? = some ((((foldN d LL D).drop (sumI (L.take j)).toNat).take z.toNat : List (T d))) := cutBy_at h hok

/-- The places of the levels from k on hang on that of k alone. -/
def Cons (LL : List (List Int)) (k : Nat) (at_ : List Int) : Prop := ∀ (i : Nat) (L : List Int), k ≤ i → LL[i]? = some L → ∃ j : Nat, at_[i]? = some (j : Int) ∧ at_[i + 1]? = some (sumI (L.take j))
theorem Cons.up {LL : List (List Int)} {k : Nat} {at_ : List Int} (h : Cons LL k at_) : Cons LL (k + 1) at_ := fun i L hi hL => h i L (by omega) hL
/-- A place set below: those from k on stay. -/
theorem Cons.set {LL : List (List Int)} {k i : Nat} {at_ : List Int} (h : Cons LL k at_) (hi : i < k) (z : Int) : Cons LL k (at_.set i z) := fun m L hm hL => by
  obtain ⟨j, h1, h2⟩ := h m L hm hL
  exact ⟨j, by rw [List.getElem?_set_ne (by omega)]; exact h1, by rw [List.getElem?_set_ne (by omega)]; exact h2⟩
/-- One level up: the next one's places stand where this one's leads. -/
theorem Cons.down {LL : List (List Int)} {k j : Nat} {at_ : List Int} {L : List Int} (h : Cons LL (k + 1) at_) (hL : LL[k]? = some L) (h0 : at_[k]? = some (j : Int)) (h1 : at_[k + 1]? = some (sumI (L.take j))) : Cons LL k at_ := fun i M hi hM => by
  by_cases e : i = k
  · subst e
    obtain rfl : L = M := Option.some.inj (hL.symm.trans hM)
    exact ⟨j, h0, h1⟩
  · exact h i M (by omega) hM

/-- How the places of a fold go on: those below k stay, k's is one more. -/
def Step (LL : List (List Int)) (k j : Nat) (a b : List Int) : Prop := b.length = a.length ∧ (∀ i, i < k → b[i]? = a[i]?) ∧ b[k]? = some ((j + 1 : Nat) : Int) ∧ Cons LL k b

end Go.Proofs.Ytdfanconjiiceaa
