/- Plain facts: the bytes of a text, its digits, the number that stands at a place, and the array of a depth that stands there. Nothing of the program. -/
import Derived.Below
namespace Go.Proofs.YtachjodnhgmoiaaGreatDoor

/-- The byte at a place, or -1 past the end. -/
def ba (s : ByteArray) (p : Nat) : Int := if h : p < s.size then (s[p].toNat : Int) else -1

theorem ba_in {s : ByteArray} {p : Nat} (h : p < s.size) : ba s p = (s[p].toNat : Int) := by unfold ba; rw [dif_pos h]
theorem ba_out {s : ByteArray} {p : Nat} (h : s.size ≤ p) : ba s p = -1 := by unfold ba; rw [dif_neg (by omega)]
theorem ba_lt {s : ByteArray} {p : Nat} (h : 0 ≤ ba s p) : p < s.size := by
  rcases Nat.lt_or_ge p s.size with h' | h'
  · exact h'
  · rw [ba_out h'] at h; omega
theorem ba_hi (s : ByteArray) (p : Nat) : ba s p ≤ 255 := by
  unfold ba
  split
  · have := UInt8.toNat_lt (s[p]'(by assumption)); omega
  · omega

/-- Is there a digit at the place? -/
def dg (s : ByteArray) (p : Nat) : Bool := decide (48 ≤ ba s p ∧ ba s p ≤ 57)

theorem dg_yes {s : ByteArray} {p : Nat} (h : dg s p = true) : 48 ≤ ba s p ∧ ba s p ≤ 57 := by simpa [dg] using h
theorem dg_no {s : ByteArray} {p : Nat} (h : dg s p = false) : ba s p < 48 ∨ 57 < ba s p := by
  have h' : ¬ (48 ≤ ba s p ∧ ba s p ≤ 57) := by simpa [dg] using h
  omega
theorem dg_lt {s : ByteArray} {p : Nat} (h : dg s p = true) : p < s.size := ba_lt (by have := dg_yes h; omega)

/-- How many digits stand from a place on. -/
def ndF (s : ByteArray) : Nat → Nat → Nat
  | 0, _ => 0
  | f + 1, p => if dg s p = true then ndF s f (p + 1) + 1 else 0
def nd (s : ByteArray) (p : Nat) : Nat := ndF s (s.size - p) p

theorem nd_yes {s : ByteArray} {p : Nat} (h : dg s p = true) : nd s p = nd s (p + 1) + 1 := by
  have hl := dg_lt h
  unfold nd
  obtain ⟨f, hf⟩ : ∃ f, s.size - p = f + 1 := ⟨s.size - p - 1, by omega⟩
  have hf2 : s.size - (p + 1) = f := by omega
  rw [hf, hf2, ndF, if_pos h]
theorem nd_no {s : ByteArray} {p : Nat} (h : dg s p = false) : nd s p = 0 := by
  unfold nd
  cases s.size - p with
  | zero => rfl
  | succ f => rw [ndF, if_neg (by simp [h])]
theorem nd_dg (s : ByteArray) : ∀ (k p : Nat), k < nd s p → dg s (p + k) = true
  | 0, p, h => by
    cases hd : dg s p with
    | true => rfl
    | false => rw [nd_no hd] at h; omega
  | k + 1, p, h => by
    cases hd : dg s p with
    | true =>
      rw [nd_yes hd] at h
      have := nd_dg s k (p + 1) (by omega)
      rw [show p + (k + 1) = p + 1 + k from by omega]
      exact this
    | false => rw [nd_no hd] at h; omega
theorem nd_stop (s : ByteArray) : ∀ (n p : Nat), nd s p = n → dg s (p + n) = false
  | 0, p, h => by
    cases hd : dg s p with
    | true => rw [nd_yes hd] at h; omega
    | false => rfl
  | n + 1, p, h => by
    cases hd : dg s p with
    | true =>
      rw [nd_yes hd] at h
      have := nd_stop s n (p + 1) (by omega)
      rw [show p + (n + 1) = p + 1 + n from by omega]
      exact this
    | false => rw [nd_no hd] at h; omega
theorem nd_le (s : ByteArray) (p : Nat) (h : 0 < nd s p) : p + nd s p ≤ s.size := by
  have := dg_lt (nd_dg s (nd s p - 1) p (by omega))
  omega

/-- The value of k digits from a place on. -/
def val (s : ByteArray) (p : Nat) : Nat → Nat
  | 0 => 0
  | k + 1 => 10 * val s p k + (ba s (p + k) - 48).toNat

theorem val_mono (s : ByteArray) (p k : Nat) : ∀ j, val s p k ≤ val s p (k + j)
  | 0 => Nat.le_refl _
  | j + 1 => by
    have := val_mono s p k j
    rw [show k + (j + 1) = k + j + 1 from by omega, val]
    omega

theorem val_lt (s : ByteArray) (p : Nat) : ∀ k, (∀ i, i < k → dg s (p + i) = true) → val s p k < 10 ^ k
  | 0, _ => by simp [val]
  | k + 1, h => by
    have h1 := val_lt s p k (fun i hi => h i (by omega))
    have h2 := dg_yes (h k (by omega))
    rw [val, Nat.pow_succ]
    omega
theorem val_lt6 (s : ByteArray) (p k : Nat) (hk : k ≤ 6) (h : ∀ i, i < k → dg s (p + i) = true) : val s p k < 1000000 := by
  have h1 := val_lt s p k h
  have h2 : 10 ^ k ≤ 10 ^ 6 := Nat.pow_le_pow_right (by omega) hk
  omega

theorem ba_extract (s : ByteArray) (a b i : Nat) (hb : b ≤ s.size) (hi : i < b - a) : ba (s.extract a b) i = ba s (a + i) := by
  have h1 : (s.extract a b).size = b - a := by simp; omega
  rw [ba_in (by omega), ba_in (by omega)]
  simp [ByteArray.getElem_extract]
theorem dg_extract (s : ByteArray) (a b i : Nat) (hb : b ≤ s.size) (hi : i < b - a) : dg (s.extract a b) i = dg s (a + i) := by
  unfold dg; rw [ba_extract s a b i hb hi]
theorem val_extract (s : ByteArray) (a b : Nat) (hb : b ≤ s.size) : ∀ k, k ≤ b - a → val (s.extract a b) 0 k = val s a k
  | 0, _ => rfl
  | k + 1, h => by rw [val, val, val_extract s a b hb k (by omega), Nat.zero_add, ba_extract s a b k hb (by omega)]

/-- The number that stands at a place, and where it ends. -/
def num (s : ByteArray) (p : Nat) : Option (Nat × Nat) :=
  if nd s p = 0 ∨ (ba s p = 48 ∧ 1 < nd s p) ∨ 10007 ≤ val s p (nd s p) then none else some (val s p (nd s p), p + nd s p)

theorem num_none {s : ByteArray} {p : Nat} (h : nd s p = 0 ∨ (ba s p = 48 ∧ 1 < nd s p) ∨ 10007 ≤ val s p (nd s p)) : num s p = none := if_pos h
theorem num_some {s : ByteArray} {p : Nat} (h0 : nd s p ≠ 0) (h1 : ba s p = 48 → nd s p ≤ 1) (h2 : val s p (nd s p) < 10007) : num s p = some (val s p (nd s p), p + nd s p) :=
  if_neg (by rintro (h | ⟨a, b⟩ | h) <;> first | omega | (have := h1 a; omega))
theorem num_ge {s : ByteArray} {p v q : Nat} (h : num s p = some (v, q)) : p < q ∧ q ≤ s.size ∧ v < 10007 := by
  unfold num at h
  split at h
  · cases h
  · rename_i hc
    simp only [Option.some.injEq, Prod.mk.injEq] at h
    obtain ⟨rfl, rfl⟩ := h
    have hn : 0 < nd s p := by
      rcases Nat.eq_zero_or_pos (nd s p) with h0 | h0
      · exact absurd (.inl h0) hc
      · exact h0
    refine ⟨by omega, nd_le s p hn, ?_⟩
    rcases Nat.lt_or_ge (val s p (nd s p)) 10007 with h2 | h2
    · exact h2
    · exact absurd (.inr (.inr h2)) hc

/-- The arrays of a depth: numbers, or lists. -/
def T : Nat → Type
  | 0 => Nat
  | d + 1 => List (T d)

section
variable {α : Type}
/-- What stands behind a part: ']' ends the array, ',' and a part go on. -/
def more (s : ByteArray) (el : Nat → Option (α × Nat)) : Nat → Nat → Option (List α × Nat)
  | 0, _ => none
  | f + 1, p =>
    if ba s p = 93 then some ([], p + 1)
    else if ba s p = 44 then
      match el (p + 1) with
      | none => none
      | some (x, q) => match more s el f q with
        | none => none
        | some (xs, r) => some (x :: xs, r)
    else none

/-- The parts of an array whose '[' stands at a place. -/
def parts (s : ByteArray) (el : Nat → Option (α × Nat)) (p : Nat) : Option (List α × Nat) :=
  if ba s p = 91 then
    if ba s (p + 1) = 93 then some ([], p + 2)
    else match el (p + 1) with
      | none => none
      | some (x, q) => match more s el (s.size + 1) q with
        | none => none
        | some (xs, r) => some (x :: xs, r)
  else none
end

/-- The array of a depth that stands at a place, and where it ends. -/
def node (s : ByteArray) : (d : Nat) → Nat → Option (T d × Nat)
  | 0 => num s
  | d + 1 => parts s (node s d)

theorem more_ge {α : Type} {s : ByteArray} {el : Nat → Option (α × Nat)} (he : ∀ p x q, el p = some (x, q) → p < q ∧ q ≤ s.size) :
    ∀ (f p : Nat) (xs : List α) (r : Nat), more s el f p = some (xs, r) → p < r ∧ r ≤ s.size
  | 0, p, xs, r, h => by cases h
  | f + 1, p, xs, r, h => by
    unfold more at h
    split at h
    · rename_i h93
      simp only [Option.some.injEq, Prod.mk.injEq] at h
      have := ba_lt (s := s) (p := p) (by omega)
      omega
    · split at h
      · split at h
        · cases h
        · rename_i x q hx
          split at h
          · cases h
          · rename_i ys r' hm
            simp only [Option.some.injEq, Prod.mk.injEq] at h
            have h1 := he _ _ _ hx
            have h2 := more_ge he f q ys r' hm
            omega
      · cases h

theorem parts_ge {α : Type} {s : ByteArray} {el : Nat → Option (α × Nat)} (he : ∀ p x q, el p = some (x, q) → p < q ∧ q ≤ s.size)
    (p : Nat) (xs : List α) (r : Nat) (h : parts s el p = some (xs, r)) : p < r ∧ r ≤ s.size := by
  unfold parts at h
  split at h
  · split at h
    · rename_i h93
      simp only [Option.some.injEq, Prod.mk.injEq] at h
      have := ba_lt (s := s) (p := p + 1) (by omega)
      omega
    · split at h
      · cases h
      · rename_i x q hx
        split at h
        · cases h
        · rename_i ys r' hm
          simp only [Option.some.injEq, Prod.mk.injEq] at h
          have h1 := he _ _ _ hx
          have h2 := more_ge he _ q ys r' hm
          omega
  · cases h

theorem node_ge (s : ByteArray) : ∀ (d p : Nat) (t : T d) (q : Nat), node s d p = some (t, q) → p < q ∧ q ≤ s.size
  | 0, p, t, q, h => by have := num_ge (v := t) h; omega
  | d + 1, p, t, q, h => parts_ge (fun p x q h => node_ge s d p x q h) p t q h

end Go.Proofs.YtachjodnhgmoiaaGreatDoor
