/- Plain facts on terms: their signs, the term that stands at a place of a text, how many terms and levels there are in one. Nothing of the program. -/
import Derived.Test.YtboddoaekcchpaaGreatByte
namespace Go.Proofs.YtboddoaekcchpaaGreat

/-- A term: a digit, a variable, a sign with a part, a sign between two parts, a loop with its variable. -/
inductive Tm where
  | dig (c : Int)
  | var (c : Int)
  | pre (c : Int) (s : Tm)
  | two (c : Int) (s t : Tm)
  | loop (c v : Int) (s t : Tm)

/-- Which signs are variables, variables of loops, signs ahead of one part, signs between two. -/
def isD (c : Int) : Bool := decide (48 ≤ c ∧ c ≤ 57)
def isL (c : Int) : Bool := decide (118 ≤ c ∧ c ≤ 122)
def isV (c : Int) : Bool := decide (c = 97 ∨ c = 98 ∨ 118 ≤ c ∧ c ≤ 122)
def isP (c : Int) : Bool := decide (c = 83 ∨ c = 77 ∨ c = 73 ∨ c = 78 ∨ c = 82 ∨ c = 67 ∨ c = 80)
def isB (c : Int) : Bool := decide (c = 43 ∨ c = 42 ∨ c = 94 ∨ c = 45 ∨ c = 61 ∨ c = 60 ∨ c = 64)

/-- The signs of a term are as they are to be. -/
def Tm.Ok : Tm → Prop
  | .dig c => isD c = true
  | .var c => isV c = true
  | .pre c s => isP c = true ∧ s.Ok
  | .two c s t => isB c = true ∧ s.Ok ∧ t.Ok
  | .loop c v s t => (c = 91 ∨ c = 123) ∧ isL v = true ∧ s.Ok ∧ t.Ok

/-- The term that stands at a place, and where it ends. -/
def tm (s : ByteArray) : Nat → Nat → Option (Tm × Nat)
  | 0, _ => none
  | f + 1, p =>
    if isD (ba s p) = true then some (.dig (ba s p), p + 1)
    else if isV (ba s p) = true then some (.var (ba s p), p + 1)
    else if isP (ba s p) = true then
      match tm s f (p + 1) with
      | none => none
      | some (x, q) => some (.pre (ba s p) x, q)
    else if ba s p = 40 then
      match tm s f (p + 1) with
      | none => none
      | some (x, q) => if isB (ba s q) = true then
          match tm s f (q + 1) with
          | none => none
          | some (y, r) => if ba s r = 41 then some (.two (ba s q) x y, r + 1) else none
        else none
    else if ba s p = 91 ∨ ba s p = 123 then
      if isL (ba s (p + 1)) = true ∧ ba s (p + 2) = 58 then
        match tm s f (p + 3) with
        | none => none
        | some (x, q) => if ba s q = 62 then
            match tm s f (q + 1) with
            | none => none
            | some (y, r) => if ba s r = ba s p + 2 then some (.loop (ba s p) (ba s (p + 1)) x y, r + 1) else none
          else none
      else none
    else none

/-- The term whose text is s. -/
def readT (s : ByteArray) : Option Tm := match tm s (s.size + 1) 0 with
  | none => none
  | some (t, q) => if q = s.size ∧ s.size ≤ 80 then some t else none

section
variable {s : ByteArray} {f p q r : Nat} {x y : Tm}
theorem isD_ge {c : Int} (h : isD c = true) : 48 ≤ c ∧ c ≤ 57 := by simpa [isD] using h
theorem isL_ge {c : Int} (h : isL c = true) : 118 ≤ c ∧ c ≤ 122 := by simpa [isL] using h
theorem isV_ge {c : Int} (h : isV c = true) : 97 ≤ c ∧ c ≤ 122 := by
  have : c = 97 ∨ c = 98 ∨ 118 ≤ c ∧ c ≤ 122 := by simpa [isV] using h
  omega
theorem isP_ge {c : Int} (h : isP c = true) : 67 ≤ c ∧ c ≤ 83 := by
  have : c = 83 ∨ c = 77 ∨ c = 73 ∨ c = 78 ∨ c = 82 ∨ c = 67 ∨ c = 80 := by simpa [isP] using h
  omega
theorem isB_ge {c : Int} (h : isB c = true) : 42 ≤ c ∧ c ≤ 94 := by
  have : c = 43 ∨ c = 42 ∨ c = 94 ∨ c = 45 ∨ c = 61 ∨ c = 60 ∨ c = 64 := by simpa [isB] using h
  omega

theorem tm_dig (h : isD (ba s p) = true) : tm s (f + 1) p = some (.dig (ba s p), p + 1) := by rw [tm, if_pos h]
theorem tm_var (h : isV (ba s p) = true) : tm s (f + 1) p = some (.var (ba s p), p + 1) := by
  have h1 := isV_ge h
  have h2 : ¬ isD (ba s p) = true := fun e => by have := isD_ge e; omega
  rw [tm, if_neg h2, if_pos h]
theorem tm_pre (h : isP (ba s p) = true) : tm s (f + 1) p = match tm s f (p + 1) with
    | none => none
    | some (x, q) => some (.pre (ba s p) x, q) := by
  have h1 := isP_ge h
  have h2 : ¬ isD (ba s p) = true := fun e => by have := isD_ge e; omega
  have h3 : ¬ isV (ba s p) = true := fun e => by have := isV_ge e; omega
  rw [tm, if_neg h2, if_neg h3, if_pos h]
theorem tm_two (h : ba s p = 40) : tm s (f + 1) p = match tm s f (p + 1) with
    | none => none
    | some (x, q) => if isB (ba s q) = true then
        match tm s f (q + 1) with
        | none => none
        | some (y, r) => if ba s r = 41 then some (.two (ba s q) x y, r + 1) else none
      else none := by
  have h2 : ¬ isD (ba s p) = true := fun e => by have := isD_ge e; omega
  have h3 : ¬ isV (ba s p) = true := fun e => by have := isV_ge e; omega
  have h4 : ¬ isP (ba s p) = true := fun e => by have := isP_ge e; omega
  rw [tm, if_neg h2, if_neg h3, if_neg h4, if_pos h]
theorem tm_loop (h : ba s p = 91 ∨ ba s p = 123) : tm s (f + 1) p = if isL (ba s (p + 1)) = true ∧ ba s (p + 2) = 58 then
      match tm s f (p + 3) with
      | none => none
      | some (x, q) => if ba s q = 62 then
          match tm s f (q + 1) with
          | none => none
          | some (y, r) => if ba s r = ba s p + 2 then some (.loop (ba s p) (ba s (p + 1)) x y, r + 1) else none
        else none
    else none := by
  have h2 : ¬ isD (ba s p) = true := fun e => by have := isD_ge e; omega
  have h3 : ¬ isV (ba s p) = true := fun e => by have := isV_ge e; omega
  have h4 : ¬ isP (ba s p) = true := fun e => by have := isP_ge e; omega
  have h5 : ¬ ba s p = 40 := by omega
  rw [tm, if_neg h2, if_neg h3, if_neg h4, if_neg h5, if_pos h]
theorem tm_none (h1 : isD (ba s p) = false) (h2 : isV (ba s p) = false) (h3 : isP (ba s p) = false) (h4 : ba s p ≠ 40) (h5 : ba s p ≠ 91) (h6 : ba s p ≠ 123) : tm s (f + 1) p = none := by
  rw [tm, if_neg (by simp [h1]), if_neg (by simp [h2]), if_neg (by simp [h3]), if_neg h4, if_neg (by omega)]
theorem tm_out (h : s.size ≤ p) : tm s (f + 1) p = none := by
  have e := ba_out h
  exact tm_none (by rw [e]; rfl) (by rw [e]; rfl) (by rw [e]; rfl) (by omega) (by omega) (by omega)

theorem tm_pre_n (h : isP (ba s p) = true) (h1 : tm s f (p + 1) = none) : tm s (f + 1) p = none := by rw [tm_pre h, h1]
theorem tm_pre_s (h : isP (ba s p) = true) (h1 : tm s f (p + 1) = some (x, q)) : tm s (f + 1) p = some (.pre (ba s p) x, q) := by rw [tm_pre h, h1]
theorem tm_two_n1 (h : ba s p = 40) (h1 : tm s f (p + 1) = none) : tm s (f + 1) p = none := by rw [tm_two h, h1]
theorem tm_two_n2 (h : ba s p = 40) (h1 : tm s f (p + 1) = some (x, q)) (h2 : isB (ba s q) = false) : tm s (f + 1) p = none := by rw [tm_two h, h1]; simp [h2]
theorem tm_two_n3 (h : ba s p = 40) (h1 : tm s f (p + 1) = some (x, q)) (h2 : isB (ba s q) = true) (h3 : tm s f (q + 1) = none) : tm s (f + 1) p = none := by rw [tm_two h, h1]; simp [h2, h3]
theorem tm_two_n4 (h : ba s p = 40) (h1 : tm s f (p + 1) = some (x, q)) (h2 : isB (ba s q) = true) (h3 : tm s f (q + 1) = some (y, r)) (h4 : ba s r ≠ 41) : tm s (f + 1) p = none := by rw [tm_two h, h1]; simp [h2, h3, h4]
theorem tm_two_s (h : ba s p = 40) (h1 : tm s f (p + 1) = some (x, q)) (h2 : isB (ba s q) = true) (h3 : tm s f (q + 1) = some (y, r)) (h4 : ba s r = 41) : tm s (f + 1) p = some (.two (ba s q) x y, r + 1) := by rw [tm_two h, h1]; simp [h2, h3, h4]
theorem tm_loop_n0 (h : ba s p = 91 ∨ ba s p = 123) (h1 : ¬ (isL (ba s (p + 1)) = true ∧ ba s (p + 2) = 58)) : tm s (f + 1) p = none := by rw [tm_loop h, if_neg h1]
theorem tm_loop_n1 (h : ba s p = 91 ∨ ba s p = 123) (h2 : tm s f (p + 3) = none) : tm s (f + 1) p = none := by
  rw [tm_loop h, h2]; split <;> rfl
theorem tm_loop_n2 (h : ba s p = 91 ∨ ba s p = 123) (h2 : tm s f (p + 3) = some (x, q)) (h3 : ba s q ≠ 62) : tm s (f + 1) p = none := by
  rw [tm_loop h, h2]; simp [h3]
theorem tm_loop_n3 (h : ba s p = 91 ∨ ba s p = 123) (h2 : tm s f (p + 3) = some (x, q)) (h4 : tm s f (q + 1) = none) : tm s (f + 1) p = none := by
  rw [tm_loop h, h2]; simp [h4]
theorem tm_loop_n4 (h : ba s p = 91 ∨ ba s p = 123) (h2 : tm s f (p + 3) = some (x, q)) (h4 : tm s f (q + 1) = some (y, r)) (h5 : ba s r ≠ ba s p + 2) : tm s (f + 1) p = none := by
  rw [tm_loop h, h2]; simp [h4, h5]
theorem tm_loop_s (h : ba s p = 91 ∨ ba s p = 123) (h0 : isL (ba s (p + 1)) = true) (h1 : ba s (p + 2) = 58) (h2 : tm s f (p + 3) = some (x, q)) (h3 : ba s q = 62) (h4 : tm s f (q + 1) = some (y, r)) (h5 : ba s r = ba s p + 2) :
    tm s (f + 1) p = some (.loop (ba s p) (ba s (p + 1)) x y, r + 1) := by
  rw [tm_loop h, if_pos ⟨h0, h1⟩, h2]; simp [h3, h4, h5]
end

theorem tm_ge (s : ByteArray) : ∀ (f p : Nat) (t : Tm) (q : Nat), tm s f p = some (t, q) → p < q ∧ q ≤ s.size ∧ t.Ok
  | 0, p, t, q, h => by simp [tm] at h
  | f + 1, p, t, q, h => by
    by_cases h1 : isD (ba s p) = true
    · rw [tm_dig h1] at h
      simp only [Option.some.injEq, Prod.mk.injEq] at h
      obtain ⟨rfl, rfl⟩ := h
      have := isD_ge h1
      have := ba_lt (s := s) (p := p) (by omega)
      exact ⟨by omega, by omega, h1⟩
    by_cases h2 : isV (ba s p) = true
    · rw [tm_var h2] at h
      simp only [Option.some.injEq, Prod.mk.injEq] at h
      obtain ⟨rfl, rfl⟩ := h
      have := isV_ge h2
      have := ba_lt (s := s) (p := p) (by omega)
      exact ⟨by omega, by omega, h2⟩
    by_cases h3 : isP (ba s p) = true
    · cases hx : tm s f (p + 1) with
      | none => rw [tm_pre_n h3 hx] at h; cases h
      | some r =>
        obtain ⟨x, q1⟩ := r
        rw [tm_pre_s h3 hx] at h
        simp only [Option.some.injEq, Prod.mk.injEq] at h
        obtain ⟨rfl, rfl⟩ := h
        have := tm_ge s f _ _ _ hx
        exact ⟨by omega, this.2.1, h3, this.2.2⟩
    by_cases h4 : ba s p = 40
    · cases hx : tm s f (p + 1) with
      | none => rw [tm_two_n1 h4 hx] at h; cases h
      | some r =>
        obtain ⟨x, q1⟩ := r
        have g1 := tm_ge s f _ _ _ hx
        by_cases h5 : isB (ba s q1) = true
        · cases hy : tm s f (q1 + 1) with
          | none => rw [tm_two_n3 h4 hx h5 hy] at h; cases h
          | some r2 =>
            obtain ⟨y, q2⟩ := r2
            have g2 := tm_ge s f _ _ _ hy
            by_cases h6 : ba s q2 = 41
            · rw [tm_two_s h4 hx h5 hy h6] at h
              simp only [Option.some.injEq, Prod.mk.injEq] at h
              obtain ⟨rfl, rfl⟩ := h
              have := ba_lt (s := s) (p := q2) (by omega)
              exact ⟨by omega, by omega, h5, g1.2.2, g2.2.2⟩
            · rw [tm_two_n4 h4 hx h5 hy h6] at h; cases h
        · rw [tm_two_n2 h4 hx (by simpa using h5)] at h; cases h
    by_cases h5 : ba s p = 91 ∨ ba s p = 123
    · by_cases h6 : isL (ba s (p + 1)) = true ∧ ba s (p + 2) = 58
      · cases hx : tm s f (p + 3) with
        | none => rw [tm_loop_n1 h5 hx] at h; cases h
        | some r =>
          obtain ⟨x, q1⟩ := r
          have g1 := tm_ge s f _ _ _ hx
          by_cases h7 : ba s q1 = 62
          · cases hy : tm s f (q1 + 1) with
            | none => rw [tm_loop_n3 h5 hx hy] at h; cases h
            | some r2 =>
              obtain ⟨y, q2⟩ := r2
              have g2 := tm_ge s f _ _ _ hy
              by_cases h8 : ba s q2 = ba s p + 2
              · rw [tm_loop_s h5 h6.1 h6.2 hx h7 hy h8] at h
                simp only [Option.some.injEq, Prod.mk.injEq] at h
                obtain ⟨rfl, rfl⟩ := h
                have := ba_lt (s := s) (p := q2) (by omega)
                exact ⟨by omega, by omega, h5, h6.1, g1.2.2, g2.2.2⟩
              · rw [tm_loop_n4 h5 hx hy h8] at h; cases h
          · rw [tm_loop_n2 h5 hx h7] at h; cases h
      · rw [tm_loop_n0 h5 h6] at h; cases h
    · rw [tm_none (by simpa using h1) (by simpa using h2) (by simpa using h3) h4 (by omega) (by omega)] at h; cases h

/-- How many terms there are in a term; within how many second parts of loops something lies. -/
def Tm.size : Tm → Nat
  | .dig _ => 1
  | .var _ => 1
  | .pre _ s => 1 + s.size
  | .two _ s t => 1 + s.size + t.size
  | .loop _ _ s t => 1 + s.size + t.size
def Tm.levels : Tm → Nat
  | .dig _ => 0
  | .var _ => 0
  | .pre _ s => s.levels
  | .two _ s t => max s.levels t.levels
  | .loop _ _ s t => max s.levels (1 + t.levels)
/-- The sign of a term, as a byte. -/
def Tm.sgn : Tm → Int
  | .dig c => c
  | .var c => c
  | .pre c _ => c
  | .two c _ _ => c
  | .loop c _ _ _ => c
def Tm.kids : Tm → List Tm
  | .dig _ => []
  | .var _ => []
  | .pre _ s => [s]
  | .two _ s t => [s, t]
  | .loop _ _ s t => [s, t]

theorem tm_size (s : ByteArray) : ∀ (f p : Nat) (t : Tm) (q : Nat), tm s f p = some (t, q) → p + t.size ≤ q
  | 0, p, t, q, h => by simp [tm] at h
  | f + 1, p, t, q, h => by
    by_cases h1 : isD (ba s p) = true
    · rw [tm_dig h1] at h
      simp only [Option.some.injEq, Prod.mk.injEq] at h
      obtain ⟨rfl, rfl⟩ := h
      exact Nat.le_refl _
    by_cases h2 : isV (ba s p) = true
    · rw [tm_var h2] at h
      simp only [Option.some.injEq, Prod.mk.injEq] at h
      obtain ⟨rfl, rfl⟩ := h
      exact Nat.le_refl _
    by_cases h3 : isP (ba s p) = true
    · cases hx : tm s f (p + 1) with
      | none => rw [tm_pre_n h3 hx] at h; cases h
      | some r =>
        obtain ⟨x, q1⟩ := r
        rw [tm_pre_s h3 hx] at h
        simp only [Option.some.injEq, Prod.mk.injEq] at h
        obtain ⟨rfl, rfl⟩ := h
        have := tm_size s f _ _ _ hx
        simp only [Tm.size]; omega
    by_cases h4 : ba s p = 40
    · cases hx : tm s f (p + 1) with
      | none => rw [tm_two_n1 h4 hx] at h; cases h
      | some r =>
        obtain ⟨x, q1⟩ := r
        have g1 := tm_size s f _ _ _ hx
        by_cases h5 : isB (ba s q1) = true
        · cases hy : tm s f (q1 + 1) with
          | none => rw [tm_two_n3 h4 hx h5 hy] at h; cases h
          | some r2 =>
            obtain ⟨y, q2⟩ := r2
            have g2 := tm_size s f _ _ _ hy
            by_cases h6 : ba s q2 = 41
            · rw [tm_two_s h4 hx h5 hy h6] at h
              simp only [Option.some.injEq, Prod.mk.injEq] at h
              obtain ⟨rfl, rfl⟩ := h
              simp only [Tm.size]; omega
            · rw [tm_two_n4 h4 hx h5 hy h6] at h; cases h
        · rw [tm_two_n2 h4 hx (by simpa using h5)] at h; cases h
    by_cases h5 : ba s p = 91 ∨ ba s p = 123
    · by_cases h6 : isL (ba s (p + 1)) = true ∧ ba s (p + 2) = 58
      · cases hx : tm s f (p + 3) with
        | none => rw [tm_loop_n1 h5 hx] at h; cases h
        | some r =>
          obtain ⟨x, q1⟩ := r
          have g1 := tm_size s f _ _ _ hx
          by_cases h7 : ba s q1 = 62
          · cases hy : tm s f (q1 + 1) with
            | none => rw [tm_loop_n3 h5 hx hy] at h; cases h
            | some r2 =>
              obtain ⟨y, q2⟩ := r2
              have g2 := tm_size s f _ _ _ hy
              by_cases h8 : ba s q2 = ba s p + 2
              · rw [tm_loop_s h5 h6.1 h6.2 hx h7 hy h8] at h
                simp only [Option.some.injEq, Prod.mk.injEq] at h
                obtain ⟨rfl, rfl⟩ := h
                simp only [Tm.size]; omega
              · rw [tm_loop_n4 h5 hx hy h8] at h; cases h
          · rw [tm_loop_n2 h5 hx h7] at h; cases h
      · rw [tm_loop_n0 h5 h6] at h; cases h
    · rw [tm_none (by simpa using h1) (by simpa using h2) (by simpa using h3) h4 (by omega) (by omega)] at h; cases h

theorem Tm.size_pos : ∀ t : Tm, 1 ≤ t.size
  | .dig _ => Nat.le_refl _
  | .var _ => Nat.le_refl _
  | .pre _ s => by simp only [Tm.size]; omega
  | .two _ s t => by simp only [Tm.size]; omega
  | .loop _ _ s t => by simp only [Tm.size]; omega
theorem Tm.levels_le : ∀ t : Tm, t.levels ≤ t.size
  | .dig _ => Nat.zero_le _
  | .var _ => Nat.zero_le _
  | .pre _ s => by have := s.levels_le; simp only [Tm.levels, Tm.size]; omega
  | .two _ s t => by have := s.levels_le; have := t.levels_le; simp only [Tm.levels, Tm.size]; omega
  | .loop _ _ s t => by have := s.levels_le; have := t.levels_le; simp only [Tm.levels, Tm.size]; omega

theorem readT_some {s : ByteArray} {t : Tm} (h : readT s = some t) : s.size ≤ 80 ∧ tm s (s.size + 1) 0 = some (t, s.size) ∧ t.Ok ∧ t.size ≤ 80 := by
  unfold readT at h
  split at h
  · cases h
  · rename_i t' q hq
    split at h
    · rename_i hc
      cases h
      have h1 := tm_ge s _ _ _ _ hq
      have h2 := tm_size s _ _ _ _ hq
      rw [hc.1] at hq
      exact ⟨hc.2, hq, h1.2.2, by omega⟩
    · cases h

end Go.Proofs.YtboddoaekcchpaaGreat
