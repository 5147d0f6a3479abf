/- Plain facts on terms: free variables, the depth of what a term gives, terms in place of variables. Nothing of the program. -/
import Derived.Test.YtboddoaekcchpaaGreatTmT
namespace Go.Proofs.YtboddoaekcchpaaGreat

/-- Does a variable stand somewhere in a term where it is not bound? -/
def Tm.free : Tm → Int → Bool
  | .dig _, _ => false
  | .var c, v => decide (c = v)
  | .pre _ s, v => s.free v
  | .two _ s t, v => s.free v || t.free v
  | .loop _ x s t, v => s.free v || (decide (x ≠ v) && t.free v)

/-- The depth of what a sign gives. -/
def dOne (c d : Int) : Int :=
  if (c = 83 ∨ c = 77) ∧ d = 1 then 0 else if c = 73 ∧ d = 0 then 1 else if c = 78 ∧ 1 ≤ d then 0 else if c = 82 ∧ 1 ≤ d then d
  else if c = 67 ∧ 2 ≤ d then d - 1 else if c = 80 ∧ d = 1 then 1 else -1
def dTwo (c x y : Int) : Int := if x = (if c = 64 then 1 else 0) ∧ y = 0 then 0 else -1
def dLoop (c x y : Int) : Int := if c = 123 then (if y = 0 then x else -1) else if 0 ≤ y ∧ y < 3 then y + 1 else -1
def upd (e : Int → Int) (v d : Int) : Int → Int := fun c => if c = v then d else e c

/-- The depth of what a term gives if variables have depths; -1 for none. -/
def Tm.depth (e : Int → Int) : Tm → Int
  | .dig _ => 0
  | .var c => e c
  | .pre c s => dOne c (s.depth e)
  | .two c s t => dTwo c (s.depth e) (t.depth e)
  | .loop c v s t => if 1 ≤ s.depth e then dLoop c (s.depth e) (t.depth (upd e v (s.depth e - 1))) else -1

/-- The depths of a and b. -/
def env0 : Int → Int := fun c => if c = 97 then 1 else if c = 98 then 2 else -1

theorem dOne_bd {c d : Int} (h : -1 ≤ d ∧ d ≤ 3) : -1 ≤ dOne c d ∧ dOne c d ≤ 3 := by unfold dOne; (repeat' split) <;> omega
theorem dTwo_bd (c x y : Int) : -1 ≤ dTwo c x y ∧ dTwo c x y ≤ 3 := by unfold dTwo; (repeat' split) <;> omega
theorem dLoop_bd {c x y : Int} (h : -1 ≤ x ∧ x ≤ 3) : -1 ≤ dLoop c x y ∧ dLoop c x y ≤ 3 := by unfold dLoop; (repeat' split) <;> omega
theorem upd_bd {e : Int → Int} (he : ∀ c, -1 ≤ e c ∧ e c ≤ 3) (v : Int) {d : Int} (hd : -1 ≤ d ∧ d ≤ 3) : ∀ c, -1 ≤ upd e v d c ∧ upd e v d c ≤ 3 := by
  intro c; unfold upd; split
  · exact hd
  · exact he c
theorem Tm.depth_bd : ∀ (t : Tm) (e : Int → Int), (∀ c, -1 ≤ e c ∧ e c ≤ 3) → -1 ≤ t.depth e ∧ t.depth e ≤ 3
  | .dig _, _, _ => by simp [Tm.depth]
  | .var c, e, he => he c
  | .pre c s, e, he => dOne_bd (s.depth_bd e he)
  | .two c s t, e, he => dTwo_bd _ _ _
  | .loop c v s t, e, he => by
    have h1 := s.depth_bd e he
    simp only [Tm.depth]
    split
    · exact dLoop_bd h1
    · omega
theorem env0_bd : ∀ c, -1 ≤ env0 c ∧ env0 c ≤ 3 := by intro c; unfold env0; (repeat' split) <;> omega

theorem dOne_neg {c d : Int} (h : 0 ≤ dOne c d) : 0 ≤ d := by
  unfold dOne at h
  by_cases hd : 0 ≤ d
  · exact hd
  · exfalso
    rw [if_neg (by omega), if_neg (by omega), if_neg (by omega), if_neg (by omega), if_neg (by omega), if_neg (by omega)] at h
    omega
theorem dTwo_neg {c x y : Int} (h : 0 ≤ dTwo c x y) : 0 ≤ x ∧ 0 ≤ y := by
  unfold dTwo at h
  by_cases hh : x = (if c = 64 then 1 else 0) ∧ y = 0
  case neg => rw [if_neg hh] at h; omega
  case pos =>
    refine ⟨?_, by omega⟩
    rw [hh.1]; split <;> omega
theorem dLoop_neg {c x y : Int} (h : 0 ≤ dLoop c x y) : 0 ≤ y := by
  unfold dLoop at h; (repeat' split at h) <;> omega

/-- What gives something has no free variables but those that stand for something. -/
theorem Tm.free_depth : ∀ (t : Tm) (e : Int → Int) (v : Int), 0 ≤ t.depth e → t.free v = true → 0 ≤ e v
  | .dig _, _, _, _, h => by simp [Tm.free] at h
  | .var c, e, v, hd, h => by
    simp only [Tm.free, decide_eq_true_eq] at h
    subst h; exact hd
  | .pre c s, e, v, hd, h => s.free_depth e v (dOne_neg hd) h
  | .two c s t, e, v, hd, h => by
    simp only [Tm.free, Bool.or_eq_true] at h
    have := dTwo_neg hd
    rcases h with h | h
    · exact s.free_depth e v this.1 h
    · exact t.free_depth e v this.2 h
  | .loop c x s t, e, v, hd, h => by
    simp only [Tm.free, Bool.or_eq_true, Bool.and_eq_true, decide_eq_true_eq] at h
    simp only [Tm.depth] at hd
    split at hd
    · rename_i h1
      rcases h with h | ⟨hx, h⟩
      · exact s.free_depth e v (by omega) h
      · have := t.free_depth _ v (dLoop_neg hd) h
        unfold upd at this
        rw [if_neg (fun e => hx e.symm)] at this
        exact this
    · omega
theorem Tm.depth_same : ∀ (t : Tm) (e e' : Int → Int), (∀ v, t.free v = true → e v = e' v) → t.depth e = t.depth e'
  | .dig _, _, _, _ => rfl
  | .var c, e, e', h => h c (by simp [Tm.free])
  | .pre c s, e, e', h => by simp only [Tm.depth]; rw [s.depth_same e e' h]
  | .two c s t, e, e', h => by
    simp only [Tm.depth]
    rw [s.depth_same e e' (fun v hv => h v (by simp [Tm.free, hv])), t.depth_same e e' (fun v hv => h v (by simp [Tm.free, hv]))]
  | .loop c x s t, e, e', h => by
    simp only [Tm.depth]
    have h1 := s.depth_same e e' (fun v hv => h v (by simp [Tm.free, hv]))
    rw [h1, t.depth_same (upd e x (s.depth e' - 1)) (upd e' x (s.depth e' - 1)) ?_]
    intro v hv
    unfold upd
    split
    · rfl
    · rename_i hx
      exact h v (by simp [Tm.free, hv]; exact .inr (fun e => hx e.symm))

/-- The term after a replacement; would a free variable of what comes in be bound? -/
def Tm.rep : Tm → Int → Tm → Tm
  | .dig c, _, _ => .dig c
  | .var c, v, u => if c = v then u else .var c
  | .pre c s, v, u => .pre c (s.rep v u)
  | .two c s t, v, u => .two c (s.rep v u) (t.rep v u)
  | .loop c x s t, v, u => .loop c x (s.rep v u) (if x = v then t else t.rep v u)
def Tm.binds : Tm → Int → Tm → Bool
  | .dig _, _, _ => false
  | .var _, _, _ => false
  | .pre _ s, v, u => s.binds v u
  | .two _ s t, v, u => s.binds v u || t.binds v u
  | .loop _ x s t, v, u => s.binds v u || ((decide (x ≠ v) && t.free v) && (u.free x || t.binds v u))

theorem Tm.rep_id : ∀ (t : Tm) (v : Int) (u : Tm), t.free v = false → t.rep v u = t ∧ t.binds v u = false
  | .dig _, v, u, _ => ⟨rfl, rfl⟩
  | .var c, v, u, h => by
    simp only [Tm.free, decide_eq_false_iff_not] at h
    exact ⟨by simp [Tm.rep, h], rfl⟩
  | .pre c s, v, u, h => by
    have := s.rep_id v u h
    exact ⟨by simp [Tm.rep, this.1], this.2⟩
  | .two c s t, v, u, h => by
    simp only [Tm.free, Bool.or_eq_false_iff] at h
    have h1 := s.rep_id v u h.1
    have h2 := t.rep_id v u h.2
    exact ⟨by simp [Tm.rep, h1.1, h2.1], by simp [Tm.binds, h1.2, h2.2]⟩
  | .loop c x s t, v, u, h => by
    simp only [Tm.free, Bool.or_eq_false_iff] at h
    have h1 := s.rep_id v u h.1
    constructor
    · simp only [Tm.rep, h1.1]
      split
      · rfl
      · rename_i hx
        have : t.free v = false := by simpa [hx] using h.2
        rw [(t.rep_id v u this).1]
    · simp only [Tm.binds, h1.2, h.2, Bool.false_and, Bool.or_self]
theorem Tm.rep_ok : ∀ (t : Tm) (v : Int) (u : Tm), u.Ok → t.Ok → (t.rep v u).Ok
  | .dig _, v, u, hu, h => h
  | .var c, v, u, hu, h => by
    simp only [Tm.rep]
    split
    · exact hu
    · exact h
  | .pre c s, v, u, hu, h => ⟨h.1, s.rep_ok v u hu h.2⟩
  | .two c s t, v, u, hu, h => ⟨h.1, s.rep_ok v u hu h.2.1, t.rep_ok v u hu h.2.2⟩
  | .loop c x s t, v, u, hu, h => ⟨h.1, h.2.1, s.rep_ok v u hu h.2.2.1, by
    split
    · exact h.2.2.2
    · exact t.rep_ok v u hu h.2.2.2⟩
theorem Tm.rep_len : ∀ (t : Tm) (v : Int) (u : Tm), u.txt.length ≤ 80 → (t.rep v u).txt.length ≤ 80 * t.txt.length
  | .dig _, v, u, hu => by simp [Tm.rep, Tm.txt]
  | .var c, v, u, hu => by simp only [Tm.rep]; split <;> simp [Tm.txt] <;> omega
  | .pre c s, v, u, hu => by have := s.rep_len v u hu; simp [Tm.rep, Tm.txt]; omega
  | .two c s t, v, u, hu => by have := s.rep_len v u hu; have := t.rep_len v u hu; simp [Tm.rep, Tm.txt]; omega
  | .loop c x s t, v, u, hu => by
    have := s.rep_len v u hu
    have := t.rep_len v u hu
    simp only [Tm.rep]
    split <;> simp [Tm.txt] <;> omega
/-- A variable in its own place changes nothing, and nothing is bound. -/
theorem Tm.rep_self : ∀ (t : Tm) (v : Int), t.rep v (.var v) = t ∧ t.binds v (.var v) = false
  | .dig _, v => ⟨rfl, rfl⟩
  | .var c, v => by constructor; (simp only [Tm.rep]; split <;> simp_all); rfl
  | .pre c s, v => by have h := s.rep_self v; exact ⟨by simp [Tm.rep, h.1], h.2⟩
  | .two c s t, v => by
    have h1 := s.rep_self v
    have h2 := t.rep_self v
    exact ⟨by simp [Tm.rep, h1.1, h2.1], by simp [Tm.binds, h1.2, h2.2]⟩
  | .loop c x s t, v => by
    have h1 := s.rep_self v
    have h2 := t.rep_self v
    constructor
    · simp [Tm.rep, h1.1, h2.1]
    · simp only [Tm.binds, h1.2, h2.2, Tm.free, Bool.or_false, Bool.false_or]
      by_cases hx : x = v
      · simp [hx]
      · have hx2 : ¬ v = x := fun e => hx e.symm
        simp [hx2]
/-- The free variables after a replacement are the other ones and those of what came in. -/
theorem Tm.rep_free : ∀ (t : Tm) (v : Int) (u : Tm) (c : Int), t.binds v u = false → (t.rep v u).free c = true → (t.free c = true ∧ c ≠ v) ∨ (u.free c = true ∧ t.free v = true)
  | .dig _, v, u, c, _, h => by simp [Tm.rep, Tm.free] at h
  | .var a, v, u, c, _, h => by
    simp only [Tm.rep] at h
    split at h
    · rename_i e; subst e; exact .inr ⟨h, by simp [Tm.free]⟩
    · rename_i e
      simp only [Tm.free, decide_eq_true_eq] at h
      subst h
      exact .inl ⟨by simp [Tm.free], e⟩
  | .pre a s, v, u, c, hb, h => s.rep_free v u c hb h
  | .two a s t, v, u, c, hb, h => by
    simp only [Tm.binds, Bool.or_eq_false_iff] at hb
    simp only [Tm.rep, Tm.free, Bool.or_eq_true] at h
    rcases h with h | h
    · rcases s.rep_free v u c hb.1 h with ⟨h1, h2⟩ | ⟨h1, h2⟩
      · exact .inl ⟨by simp [Tm.free, h1], h2⟩
      · exact .inr ⟨h1, by simp [Tm.free, h2]⟩
    · rcases t.rep_free v u c hb.2 h with ⟨h1, h2⟩ | ⟨h1, h2⟩
      · exact .inl ⟨by simp [Tm.free, h1], h2⟩
      · exact .inr ⟨h1, by simp [Tm.free, h2]⟩
  | .loop a x s t, v, u, c, hb, h => by
    simp only [Tm.binds, Bool.or_eq_false_iff] at hb
    simp only [Tm.rep, Tm.free, Bool.or_eq_true, Bool.and_eq_true, decide_eq_true_eq] at h
    rcases h with h | ⟨hx, h⟩
    · rcases s.rep_free v u c hb.1 h with ⟨h1, h2⟩ | ⟨h1, h2⟩
      · exact .inl ⟨by simp [Tm.free, h1], h2⟩
      · exact .inr ⟨h1, by simp [Tm.free, h2]⟩
    · split at h
      · rename_i e
        exact .inl ⟨by simp [Tm.free, h, hx], fun ec => hx (e.trans ec.symm)⟩
      · rename_i e
        cases hf : t.free v with
        | false =>
          rw [(t.rep_id v u hf).1] at h
          refine .inl ⟨by simp [Tm.free, h, hx], fun ec => ?_⟩
          rw [ec, hf] at h; cases h
        | true =>
          have hb2 : t.binds v u = false := by
            have := hb.2
            simp [e, hf] at this
            exact this.2
          rcases t.rep_free v u c hb2 h with ⟨h1, h2⟩ | ⟨h1, h2⟩
          · exact .inl ⟨by simp [Tm.free, h1, hx], h2⟩
          · exact .inr ⟨h1, by simp [Tm.free, h2, e]⟩
/-- The depth after a replacement by a term of the same depth. -/
theorem Tm.rep_depth : ∀ (t : Tm) (v : Int) (u : Tm) (e : Int → Int), t.binds v u = false → u.depth e = e v → (t.rep v u).depth e = t.depth e
  | .dig _, v, u, _, _, _ => rfl
  | .var a, v, u, e, _, h => by
    simp only [Tm.rep]
    split
    · rename_i ea; rw [h, ← ea]; rfl
    · rfl
  | .pre a s, v, u, e, hb, h => by simp only [Tm.rep, Tm.depth]; rw [s.rep_depth v u e hb h]
  | .two a s t, v, u, e, hb, h => by
    simp only [Tm.binds, Bool.or_eq_false_iff] at hb
    simp only [Tm.rep, Tm.depth]; rw [s.rep_depth v u e hb.1 h, t.rep_depth v u e hb.2 h]
  | .loop a x s t, v, u, e, hb, h => by
    simp only [Tm.binds, Bool.or_eq_false_iff] at hb
    simp only [Tm.rep, Tm.depth]
    rw [s.rep_depth v u e hb.1 h]
    split
    · congr 1
      split
      · rfl
      · rename_i hxv
        cases hf : t.free v with
        | false => rw [(t.rep_id v u hf).1]
        | true =>
          have hb2 := hb.2
          simp [hxv, hf] at hb2
          refine t.rep_depth v u _ hb2.2 ?_
          have e1 : upd e x (s.depth e - 1) v = e v := by unfold upd; exact if_neg (fun ee => hxv ee.symm)
          rw [e1, ← h]
          refine u.depth_same _ _ (fun c hc => ?_)
          unfold upd
          rw [if_neg]
          intro ec
          rw [← ec, hc] at hb2
          simp at hb2
    · rfl

end Go.Proofs.YtboddoaekcchpaaGreat
