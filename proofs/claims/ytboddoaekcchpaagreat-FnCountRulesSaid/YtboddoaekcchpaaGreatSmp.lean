/- Plain facts on simplifying: what a term becomes by each rule, by the first rule that applies, and by all of them until none applies. Nothing of the program. -/
import Derived.Test.YtboddoaekcchpaaGreatTmD
namespace Go.Proofs.YtboddoaekcchpaaGreat

/-- What a sign between two numbers of one digit gives. -/
def arith (c m n : Int) : Int :=
  if c = 43 then m + n else if c = 42 then m * n else if c = 94 then max m n else if c = 45 then max (m - n) 0
  else if c = 61 then (if m = n then 1 else 0) else (if m < n then 1 else 0)
theorem arith_pos {c m n : Int} (hm : 0 ≤ m) (hn : 0 ≤ n) : 0 ≤ arith c m n := by
  unfold arith
  split
  · omega
  · split
    · exact Int.mul_nonneg hm hn
    · (repeat' split) <;> omega
theorem arith_hi {c m n : Int} (hm : 0 ≤ m) (hn : 0 ≤ n) (hm9 : m ≤ 9) (hn9 : n ≤ 9) : arith c m n ≤ 81 := by
  unfold arith
  split
  · omega
  · split
    · exact Int.le_trans (Int.mul_le_mul hm9 hn9 hn (by omega)) (by decide)
    · (repeat' split) <;> omega

/-- How often a variable stands in a term where it is not bound; twice for each time within the second part of a loop. -/
def Tm.uses : Tm → Int → Nat
  | .dig _, _ => 0
  | .var c, v => if c = v then 1 else 0
  | .pre _ s, v => s.uses v
  | .two _ s t, v => s.uses v + t.uses v
  | .loop _ x s t, v => s.uses v + (if x = v then 0 else 2 * t.uses v)

theorem Tm.uses_free : ∀ (t : Tm) (v : Int), t.free v = decide (0 < t.uses v)
  | .dig _, v => rfl
  | .var c, v => by simp only [Tm.free, Tm.uses]; by_cases h : c = v <;> simp [h]
  | .pre _ s, v => s.uses_free v
  | .two _ s t, v => by
    simp only [Tm.free, Tm.uses, s.uses_free v, t.uses_free v, ← Bool.decide_or]
    exact decide_eq_decide.2 (by omega)
  | .loop _ x s t, v => by
    simp only [Tm.free, Tm.uses, s.uses_free v, t.uses_free v]
    by_cases h : x = v
    · simp [h]
    · simp only [h, ne_eq, not_false_eq_true, decide_true, Bool.true_and, if_false, ← Bool.decide_or]
      exact decide_eq_decide.2 (by omega)
theorem Tm.uses_zero {t : Tm} {v : Int} (h : t.uses v = 0) : t.free v = false := by rw [t.uses_free, h]; rfl
/-- What stands once only stands where nothing is bound. -/
theorem Tm.uses_binds : ∀ (t : Tm) (v : Int) (u : Tm), t.uses v ≤ 1 → t.binds v u = false
  | .dig _, _, _, _ => rfl
  | .var _, _, _, _ => rfl
  | .pre _ s, v, u, h => s.uses_binds v u h
  | .two _ s t, v, u, h => by
    simp only [Tm.uses] at h
    simp only [Tm.binds, s.uses_binds v u (by omega), t.uses_binds v u (by omega), Bool.or_self]
  | .loop _ x s t, v, u, h => by
    simp only [Tm.uses] at h
    simp only [Tm.binds, s.uses_binds v u (by omega), Bool.false_or]
    by_cases hx : x = v
    · simp [hx]
    · rw [if_neg hx] at h
      have : t.free v = false := Tm.uses_zero (by omega)
      rw [this]; simp
theorem Tm.rep_small : ∀ (t : Tm) (v : Int) (u : Tm), t.uses v ≤ 1 → (t.uses v = 0 ∧ t.rep v u = t) ∨ (t.uses v = 1 ∧ (t.rep v u).size + 1 = t.size + u.size ∧ (t.rep v u).txt.length + 1 = t.txt.length + u.txt.length)
  | .dig _, v, u, h => .inl ⟨rfl, rfl⟩
  | .var c, v, u, h => by
    simp only [Tm.uses, Tm.rep]
    by_cases hc : c = v
    · simp only [hc, if_true]; right; simp [Tm.size, Tm.txt]; omega
    · simp [hc]
  | .pre c s, v, u, h => by
    rcases s.rep_small v u h with ⟨h1, h2⟩ | ⟨h1, h2, h3⟩
    · exact .inl ⟨h1, by simp [Tm.rep, h2]⟩
    · refine .inr ⟨h1, ?_, ?_⟩
      · simp only [Tm.rep, Tm.size]; omega
      · simp only [Tm.rep, Tm.txt, List.length_cons]; omega
  | .two c s t, v, u, h => by
    simp only [Tm.uses] at h ⊢
    rcases s.rep_small v u (by omega) with ⟨h1, h2⟩ | ⟨h1, h2, h3⟩
    · rcases t.rep_small v u (by omega) with ⟨g1, g2⟩ | ⟨g1, g2, g3⟩
      · exact .inl ⟨by omega, by simp [Tm.rep, h2, g2]⟩
      · refine .inr ⟨by omega, ?_, ?_⟩
        · simp only [Tm.rep, Tm.size, h2]; omega
        · simp only [Tm.rep, Tm.txt, h2, List.length_cons, List.length_append, List.length_nil]; omega
    · have g2 := t.rep_id v u (Tm.uses_zero (by omega))
      refine .inr ⟨by omega, ?_, ?_⟩
      · simp only [Tm.rep, Tm.size, g2.1]; omega
      · simp only [Tm.rep, Tm.txt, g2.1, List.length_cons, List.length_append, List.length_nil]; omega
  | .loop c x s t, v, u, h => by
    simp only [Tm.uses] at h ⊢
    have ht : (if x = v then t else t.rep v u) = t := by
      split
      · rfl
      · rename_i hx
        rw [if_neg hx] at h
        exact (t.rep_id v u (Tm.uses_zero (by omega))).1
    have hu : (if x = v then 0 else 2 * t.uses v) = 0 := by
      split
      · rfl
      · rename_i hx
        rw [if_neg hx] at h
        omega
    rw [hu] at h ⊢
    simp only [Nat.add_zero] at h ⊢
    rcases s.rep_small v u h with ⟨h1, h2⟩ | ⟨h1, h2, h3⟩
    · exact .inl ⟨h1, by simp only [Tm.rep, h2, ht]⟩
    · refine .inr ⟨h1, ?_, ?_⟩
      · simp only [Tm.rep, ht, Tm.size]; omega
      · simp only [Tm.rep, ht, Tm.txt, List.length_cons, List.length_append, List.length_nil]; omega
theorem Tm.lev_txt : ∀ t : Tm, 6 * t.levels ≤ t.txt.length
  | .dig _ => Nat.zero_le _
  | .var _ => Nat.zero_le _
  | .pre _ s => by have := s.lev_txt; simp only [Tm.levels, Tm.txt, List.length_cons]; omega
  | .two _ s t => by have := s.lev_txt; have := t.lev_txt; simp only [Tm.levels, Tm.txt, List.length_cons, List.length_append]; omega
  | .loop _ _ s t => by
    have := s.lev_txt; have := t.lev_txt; have := s.size_txt; have := s.size_pos
    simp only [Tm.levels, Tm.txt, List.length_cons, List.length_append]; omega
theorem Tm.uses_lev : ∀ (t : Tm) (v : Int), t.uses v ≤ 2 ^ t.levels * t.size
  | .dig _, v => Nat.zero_le _
  | .var c, v => by simp only [Tm.uses, Tm.levels, Tm.size]; split <;> omega
  | .pre _ s, v => by
    have := s.uses_lev v
    simp only [Tm.uses, Tm.levels, Tm.size]
    exact Nat.le_trans this (Nat.mul_le_mul_left _ (by omega))
  | .two _ s t, v => by
    have h1 := Nat.le_trans (s.uses_lev v) (Nat.mul_le_mul_right s.size (Nat.pow_le_pow_right (by omega) (Nat.le_max_left s.levels t.levels)))
    have h2 := Nat.le_trans (t.uses_lev v) (Nat.mul_le_mul_right t.size (Nat.pow_le_pow_right (by omega) (Nat.le_max_right s.levels t.levels)))
    simp only [Tm.uses, Tm.levels, Tm.size]
    refine Nat.le_trans (Nat.add_le_add h1 h2) ?_
    rw [← Nat.mul_add]
    exact Nat.mul_le_mul_left _ (by omega)
  | .loop _ x s t, v => by
    have h1 := Nat.le_trans (s.uses_lev v) (Nat.mul_le_mul_right s.size (Nat.pow_le_pow_right (by omega : 0 < 2) (Nat.le_max_left s.levels (1 + t.levels))))
    have h2 : 2 * t.uses v ≤ 2 ^ (max s.levels (1 + t.levels)) * t.size := by
      have h3 := Nat.mul_le_mul_left 2 (t.uses_lev v)
      have h4 : 2 * (2 ^ t.levels * t.size) = 2 ^ (1 + t.levels) * t.size := by rw [Nat.pow_add, Nat.pow_one, Nat.mul_assoc]
      rw [h4] at h3
      exact Nat.le_trans h3 (Nat.mul_le_mul_right t.size (Nat.pow_le_pow_right (by omega : 0 < 2) (Nat.le_max_right _ _)))
    have h5 : (if x = v then 0 else 2 * t.uses v) ≤ 2 ^ (max s.levels (1 + t.levels)) * t.size := by split <;> omega
    simp only [Tm.uses, Tm.levels, Tm.size]
    refine Nat.le_trans (Nat.add_le_add h1 h5) ?_
    rw [← Nat.mul_add]
    exact Nat.mul_le_mul_left _ (by omega)
theorem Tm.uses_hi {t : Tm} (v : Int) (h : t.txt.length ≤ 80) : t.uses v ≤ 655360 := by
  have h1 := t.lev_txt
  have h2 := t.size_txt
  have h3 := t.uses_lev v
  have h4 : 2 ^ t.levels ≤ 2 ^ 13 := Nat.pow_le_pow_right (by omega) (by omega)
  have h5 := Nat.mul_le_mul h4 (show t.size ≤ 80 by omega)
  omega

/-- Is a term a digit? -/
def Tm.digIs : Tm → Int → Bool
  | .dig c, d => decide (c = d)
  | _, _ => false
def Tm.varIs : Tm → Int → Bool
  | .var c, d => decide (c = d)
  | _, _ => false
/-- A digit that is not zero. -/
def Tm.isCon : Tm → Bool
  | .dig c => decide (c ≠ 48)
  | _ => false
theorem Tm.digIs_is {t : Tm} {d : Int} (h : t.digIs d = true) : t = .dig d := by
  cases t <;> simp [Tm.digIs] at h
  rw [h]
theorem Tm.varIs_is {t : Tm} {d : Int} (h : t.varIs d = true) : t = .var d := by
  cases t <;> simp [Tm.varIs] at h
  rw [h]

/-- What a term becomes by each of the rules. -/
def rFold : Tm → Option Tm
  | .two c (.dig m) (.dig n) => if c ≠ 64 ∧ arith c (m - 48) (n - 48) ≤ 9 then some (.dig (48 + arith c (m - 48) (n - 48))) else none
  | _ => none
def rNeut : Tm → Option Tm
  | .two c s t => if ((c = 43 ∨ c = 94) ∧ s.digIs 48 = true) ∨ (c = 42 ∧ s.digIs 49 = true) then some t
      else if ((c = 43 ∨ c = 94 ∨ c = 45) ∧ t.digIs 48 = true) ∨ (c = 42 ∧ t.digIs 49 = true) then some s else none
  | _ => none
def rTurn : Tm → Option Tm
  | .pre c (.pre d s) => if d = 82 then (if c = 82 then some s else if c = 83 ∨ c = 77 ∨ c = 78 then some (.pre c s) else none) else none
  | _ => none
def rLoop : Tm → Option Tm
  | .loop c v s t => if (c = 91 ∧ t.varIs v = true) ∨ (c ≠ 91 ∧ t.isCon = true) then some s else none
  | _ => none
def rLen : Tm → Option Tm
  | .pre c (.loop d _ s _) => if c = 78 ∧ d = 91 then some (.pre 78 s) else none
  | _ => none
def rFuse : Tm → Option Tm
  | .loop c v (.loop d x s t) u => if c = 91 ∧ d = 91 ∧ u.uses v ≤ 1 ∧ (x = v ∨ u.uses x = 0) then some (.loop 91 x s (u.rep v t)) else none
  | _ => none

theorem rFold_ok {t q : Tm} (h : rFold t = some q) (ho : t.Ok) : q.Ok ∧ q.size < t.size ∧ q.txt.length < t.txt.length := by
  unfold rFold at h
  split at h
  · rename_i c m n
    split at h
    · rename_i hc
      cases h
      have h1 := isD_ge ho.2.1
      have h2 := isD_ge ho.2.2
      have h3 := arith_pos (c := c) (show 0 ≤ m - 48 by omega) (show 0 ≤ n - 48 by omega)
      refine ⟨?_, by simp [Tm.size], by simp [Tm.txt]⟩
      show isD _ = true
      simp only [isD, decide_eq_true_eq]
      omega
    · cases h
  · cases h
theorem rNeut_ok {t q : Tm} (h : rNeut t = some q) (ho : t.Ok) : q.Ok ∧ q.size < t.size ∧ q.txt.length < t.txt.length := by
  unfold rNeut at h
  split at h
  · rename_i c x y
    split at h
    · cases h
      exact ⟨ho.2.2, by simp only [Tm.size]; omega, by simp only [Tm.txt, List.length_cons, List.length_append]; omega⟩
    · split at h
      · cases h
        exact ⟨ho.2.1, by have := y.size_pos; simp only [Tm.size]; omega, by simp only [Tm.txt, List.length_cons, List.length_append]; omega⟩
      · cases h
  · cases h
theorem rTurn_ok {t q : Tm} (h : rTurn t = some q) (ho : t.Ok) : q.Ok ∧ q.size < t.size ∧ q.txt.length < t.txt.length := by
  unfold rTurn at h
  split at h
  · split at h
    · split at h
      · cases h
        exact ⟨ho.2.2, by simp only [Tm.size]; omega, by simp only [Tm.txt, List.length_cons]; omega⟩
      · split at h
        · cases h
          exact ⟨⟨ho.1, ho.2.2⟩, by simp only [Tm.size]; omega, by simp only [Tm.txt, List.length_cons]; omega⟩
        · cases h
    · cases h
  · cases h
theorem rLoop_ok {t q : Tm} (h : rLoop t = some q) (ho : t.Ok) : q.Ok ∧ q.size < t.size ∧ q.txt.length < t.txt.length := by
  unfold rLoop at h
  split at h
  · rename_i c v x y
    split at h
    · cases h
      exact ⟨ho.2.2.1, by have := y.size_pos; simp only [Tm.size]; omega, by simp only [Tm.txt, List.length_cons, List.length_append]; omega⟩
    · cases h
  · cases h
theorem rLen_ok {t q : Tm} (h : rLen t = some q) (ho : t.Ok) : q.Ok ∧ q.size < t.size ∧ q.txt.length < t.txt.length := by
  unfold rLen at h
  split at h
  · rename_i c d v x y
    split at h
    · cases h
      exact ⟨⟨rfl, ho.2.2.2.1⟩, by have := y.size_pos; simp only [Tm.size]; omega, by simp only [Tm.txt, List.length_cons, List.length_append]; omega⟩
    · cases h
  · cases h
theorem rFuse_ok {t q : Tm} (h : rFuse t = some q) (ho : t.Ok) : q.Ok ∧ q.size < t.size ∧ q.txt.length < t.txt.length := by
  unfold rFuse at h
  split at h
  · rename_i c v d x s t u
    split at h
    · rename_i hc
      cases h
      have hi := ho.2.2.1
      refine ⟨⟨.inl rfl, hi.2.1, hi.2.2.1, u.rep_ok v t hi.2.2.2 ho.2.2.2⟩, ?_, ?_⟩
      · rcases u.rep_small v t hc.2.2.1 with ⟨h1, h2⟩ | ⟨h1, h2, h3⟩
        · simp only [Tm.size, h2]; omega
        · simp only [Tm.size]; omega
      · rcases u.rep_small v t hc.2.2.1 with ⟨h1, h2⟩ | ⟨h1, h2, h3⟩
        · simp only [Tm.txt, h2, List.length_cons, List.length_append]; omega
        · simp only [Tm.txt, List.length_cons, List.length_append, List.length_nil] at h3 ⊢; omega
    · cases h
  · cases h

/-- The rule of a number from 0 on, and how many there are. -/
def ruleN : Nat → Tm → Option Tm
  | 0 => rFold
  | 1 => rNeut
  | 2 => rTurn
  | 3 => rLoop
  | 4 => rLen
  | 5 => rFuse
  | _ => fun _ => none
theorem ruleN_ok : ∀ {k : Nat} {t q : Tm}, ruleN k t = some q → t.Ok → q.Ok ∧ q.size < t.size ∧ q.txt.length < t.txt.length
  | 0, _, _, h, ho => rFold_ok h ho
  | 1, _, _, h, ho => rNeut_ok h ho
  | 2, _, _, h, ho => rTurn_ok h ho
  | 3, _, _, h, ho => rLoop_ok h ho
  | 4, _, _, h, ho => rLen_ok h ho
  | 5, _, _, h, ho => rFuse_ok h ho
  | _ + 6, _, _, h, _ => by cases h

/-- The first rule from a number on that applies, as a number from 1 on, and what the term becomes; 0 and the term if there is none. -/
def rulF : Nat → Nat → Tm → Nat × Tm
  | 0, _, t => (0, t)
  | f + 1, k, t => match ruleN k t with
    | some q => (k + 1, q)
    | none => rulF f (k + 1) t
def rul (t : Tm) : Nat × Tm := rulF 6 0 t
theorem rulF_some {f k : Nat} {t q : Tm} (h : ruleN k t = some q) : rulF (f + 1) k t = (k + 1, q) := by rw [rulF, h]
theorem rulF_none {f k : Nat} {t : Tm} (h : ruleN k t = none) : rulF (f + 1) k t = rulF f (k + 1) t := by rw [rulF, h]
theorem rulF_is : ∀ (f k : Nat) (t : Tm), (rulF f k t = (0, t)) ∨ (∃ j q, k ≤ j ∧ j < k + f ∧ ruleN j t = some q ∧ rulF f k t = (j + 1, q))
  | 0, _, _ => .inl rfl
  | f + 1, k, t => by
    cases h : ruleN k t with
    | some q => exact .inr ⟨k, q, Nat.le_refl _, by omega, h, rulF_some h⟩
    | none =>
      rw [rulF_none h]
      rcases rulF_is f (k + 1) t with h1 | ⟨j, q, h1, h2, h3, h4⟩
      · exact .inl h1
      · exact .inr ⟨j, q, by omega, by omega, h3, h4⟩
theorem rul_is (t : Tm) : (rul t = (0, t)) ∨ (∃ j q, j < 6 ∧ ruleN j t = some q ∧ rul t = (j + 1, q)) := by
  rcases rulF_is 6 0 t with h | ⟨j, q, _, h2, h3, h4⟩
  · exact .inl h
  · exact .inr ⟨j, q, by omega, h3, h4⟩
theorem rul_ok {t : Tm} (ho : t.Ok) : (rul t).2.Ok ∧ (rul t).2.size ≤ t.size ∧ (rul t).2.txt.length ≤ t.txt.length ∧ (rul t).1 ≤ 6 ∧ ((rul t).1 = 0 → (rul t).2 = t) ∧ ((rul t).1 ≠ 0 → (rul t).2.size < t.size) := by
  rcases rul_is t with h | ⟨j, q, h1, h2, h3⟩
  · rw [h]; exact ⟨ho, Nat.le_refl _, Nat.le_refl _, Nat.zero_le _, fun _ => rfl, fun h => absurd rfl h⟩
  · rw [h3]
    have := ruleN_ok h2 ho
    exact ⟨this.1, Nat.le_of_lt this.2.1, Nat.le_of_lt this.2.2, Nat.succ_le_of_lt h1, fun h => absurd h (by simp), fun _ => this.2.1⟩

/-- A term simplified by all rules, its parts first, again as long as there was a rule; and which rules were used, in order. The first number bounds the size. -/
def simpF : Nat → Tm → Tm × List Nat
  | 0, t => (t, [])
  | f + 1, t =>
    let p : Tm × List Nat := match t with
      | .dig c => (.dig c, [])
      | .var c => (.var c, [])
      | .pre c s => (.pre c (simpF f s).1, (simpF f s).2)
      | .two c s u => (.two c (simpF f s).1 (simpF f u).1, (simpF f s).2 ++ (simpF f u).2)
      | .loop c v s u => (.loop c v (simpF f s).1 (simpF f u).1, (simpF f s).2 ++ (simpF f u).2)
    if (rul p.1).1 = 0 then p else ((simpF f (rul p.1).2).1, p.2 ++ ((rul p.1).1 :: (simpF f (rul p.1).2).2))
/-- The parts simplified. -/
def simpP (f : Nat) : Tm → Tm × List Nat
  | .dig c => (.dig c, [])
  | .var c => (.var c, [])
  | .pre c s => (.pre c (simpF f s).1, (simpF f s).2)
  | .two c s u => (.two c (simpF f s).1 (simpF f u).1, (simpF f s).2 ++ (simpF f u).2)
  | .loop c v s u => (.loop c v (simpF f s).1 (simpF f u).1, (simpF f s).2 ++ (simpF f u).2)
theorem simpF_succ (f : Nat) (t : Tm) : simpF (f + 1) t = if (rul (simpP f t).1).1 = 0 then simpP f t else ((simpF f (rul (simpP f t).1).2).1, (simpP f t).2 ++ ((rul (simpP f t).1).1 :: (simpF f (rul (simpP f t).1).2).2)) := by
  cases t <;> rfl
theorem simpF_ok : ∀ (f : Nat) (t : Tm), t.Ok → (simpF f t).1.Ok ∧ (simpF f t).1.size + (simpF f t).2.length ≤ t.size ∧ (simpF f t).1.txt.length ≤ t.txt.length ∧ (∀ j ∈ (simpF f t).2, 1 ≤ j ∧ j ≤ 6) ∧ ((simpF f t).2 = [] → (simpF f t).1 = t)
  | 0, t, ho => ⟨ho, Nat.le_refl _, Nat.le_refl _, (fun j h => by cases h), fun _ => rfl⟩
  | f + 1, t, ho => by
    have hp : (simpP f t).1.Ok ∧ (simpP f t).1.size + (simpP f t).2.length ≤ t.size ∧ (simpP f t).1.txt.length ≤ t.txt.length ∧ (∀ j ∈ (simpP f t).2, 1 ≤ j ∧ j ≤ 6) ∧ ((simpP f t).2 = [] → (simpP f t).1 = t) := by
      cases t with
      | dig c => exact ⟨ho, Nat.le_refl _, Nat.le_refl _, (fun j h => by cases h), fun _ => rfl⟩
      | var c => exact ⟨ho, Nat.le_refl _, Nat.le_refl _, (fun j h => by cases h), fun _ => rfl⟩
      | pre c s =>
        obtain ⟨h1, h2, h3, h4, h5⟩ := simpF_ok f s ho.2
        refine ⟨⟨ho.1, h1⟩, ?_, ?_, h4, fun e => ?_⟩
        · simp only [simpP, Tm.size]; omega
        · simp only [simpP, Tm.txt, List.length_cons]; omega
        · simp only [simpP] at e ⊢; rw [h5 e]
      | two c s u =>
        obtain ⟨h1, h2, h3, h4, h5⟩ := simpF_ok f s ho.2.1
        obtain ⟨g1, g2, g3, g4, g5⟩ := simpF_ok f u ho.2.2
        refine ⟨⟨ho.1, h1, g1⟩, ?_, ?_, fun j hj => ?_, fun e => ?_⟩
        · simp only [simpP, Tm.size, List.length_append]; omega
        · simp only [simpP, Tm.txt, List.length_cons, List.length_append]; omega
        · rcases List.mem_append.1 hj with h | h
          · exact h4 j h
          · exact g4 j h
        · simp only [simpP, List.append_eq_nil_iff] at e ⊢; rw [h5 e.1, g5 e.2]
      | loop c v s u =>
        obtain ⟨h1, h2, h3, h4, h5⟩ := simpF_ok f s ho.2.2.1
        obtain ⟨g1, g2, g3, g4, g5⟩ := simpF_ok f u ho.2.2.2
        refine ⟨⟨ho.1, ho.2.1, h1, g1⟩, ?_, ?_, fun j hj => ?_, fun e => ?_⟩
        · simp only [simpP, Tm.size, List.length_append]; omega
        · simp only [simpP, Tm.txt, List.length_cons, List.length_append]; omega
        · rcases List.mem_append.1 hj with h | h
          · exact h4 j h
          · exact g4 j h
        · simp only [simpP, List.append_eq_nil_iff] at e ⊢; rw [h5 e.1, g5 e.2]
    obtain ⟨h1, h2, h3, h4, h5⟩ := hp
    obtain ⟨r1, r2, r3, r4, r5, r6⟩ := rul_ok h1
    rw [simpF_succ]
    split
    · exact ⟨h1, h2, h3, h4, h5⟩
    · rename_i hr
      obtain ⟨g1, g2, g3, g4, g5⟩ := simpF_ok f (rul (simpP f t).1).2 r1
      have := r6 hr
      refine ⟨g1, ?_, Nat.le_trans g3 (Nat.le_trans r3 h3), fun j hj => ?_, fun e => ?_⟩
      · simp only [List.length_append, List.length_cons]; omega
      · rcases List.mem_append.1 hj with h | h
        · exact h4 j h
        · rcases List.mem_cons.1 h with h | h
          · omega
          · exact g4 j h
      · simp at e
end Go.Proofs.YtboddoaekcchpaaGreat
