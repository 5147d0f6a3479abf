/- A region that draws its order and whose operations are partly guarded ('&&', '||'): one step for each operation, whatever the order; which operations run is known ahead. Nothing of the program. -/
import Derived.Test.YtboddoaekcchpaaGreatInvR
namespace Go.Proofs.YtboddoaekcchpaaGreat
open Go.RowKit

/-- The truth value that a slot yields. -/
def yv (v : Value) : Option Bool := match v with
  | .bool b => some b
  | _ => none
/-- Does an operation run, if the guards yield this? -/
def actB (gb : Nat → Option Bool) (o : Oper) : Bool := match o.guard with
  | none => true
  | some (j, p) => gb j == some p

theorem yielded_is {ops : Array Oper} {tmps : Array Value} {j d : Nat} {q : Oper} (hq : ops[j]? = some q) (hd : q.dst = some d) : yielded ops tmps j = yv (tmps.getD d undef) := by
  unfold yielded yv
  simp only [hq, Option.bind_some, hd]
  rcases Nat.lt_or_ge d tmps.size with h | h
  · simp only [Array.getD_eq_getD_getElem?, Array.getElem?_eq_getElem h, Option.getD_some]
    cases tmps[d] <;> rfl
  · simp only [Array.getD_eq_getD_getElem?, Array.getElem?_eq_none h, Option.getD_none]
    rfl

section
variable {P : Program} {ops : Array Oper} {Q : Exit → Act → World → Prop}

theorem wp_region_invG {id : Nat} {B : Array Value} {u : World} (R : Nat → Value → World → Prop) (gb : Nat → Option Bool) (hm : P.follows .mixedOrders = true)
    (hmono : ∀ i v w w', R i v w → w.grownBy w' none → R i v w')
    (hac : ∀ (i : Nat) (o : Oper), ops[i]? = some o → ∀ e ∈ o.after, e.on < i)
    (hg : ∀ (i : Nat) (o : Oper) (j : Nat) (p : Bool), ops[i]? = some o → o.guard = some (j, p) → (∃ e ∈ o.after, Region.binds .any e = true ∧ e.on = j) ∧ ∃ q d, ops[j]? = some q ∧ q.dst = some d)
    (hgb : ∀ (i : Nat) (o : Oper) (j : Nat) (p : Bool) v w, ops[i]? = some o → o.guard = some (j, p) → R j v w → yv v = gb j)
    (hskip : ∀ (i : Nat) (o : Oper) w, ops[i]? = some o → actB gb o = false → R i undef w)
    (hdst : ∀ (i : Nat) (o : Oper), ops[i]? = some o → ∃ d, o.dst = some d ∧ d < B.size ∧ ∀ (j : Nat) (p : Oper), ops[j]? = some p → p.dst = some d → j = i)
    (hend : ∀ a w, RInv ops B u R (Array.replicate ops.size true) a w → Q .normal a w)
    (hstep : ∀ (i : Nat) (o : Oper) a w, ops[i]? = some o → actB gb o = true → a.defers = [] → u.grownBy w none → (∀ k, (∀ (i : Nat) (o : Oper), ops[i]? = some o → o.dst ≠ some k) → a.tmps.getD k undef = B.getD k undef) →
      (∀ (j : Nat) (p : Oper) (d : Nat), (∃ e ∈ o.after, Region.binds .any e = true ∧ e.on = j) → ops[j]? = some p → p.dst = some d → R j (a.tmps.getD d undef) w) →
      o.wp P a w (fun a' w' => ∃ v, a' = a.put o.dst v ∧ w.grownBy w' none ∧ R i v w') Q)
    (w : World) (hu : u.grownBy { w with drawn := w.drawn + 1 } none) : (Code.region id ops true).wp P Q { tmps := B, defers := [] } w := by
  refine wp_region_any hm (wpAny_inv (RInv ops B u R) (fun _ _ _ h => h.ls) hac ?_ ?_ _ _ _ _ ?_ ?_)
  · intro listed a w hI hall
    refine hend a w ⟨by simp, hI.size, hI.defs, hI.gr, hI.far, fun i o d ho hd _ => hI.done i o d ho hd (hall i (Array.getElem?_eq_some_iff.1 ho).1)⟩
  · intro i o listed a w ho hI hl hd
    have hdep : ∀ (j : Nat) (p : Oper) (d : Nat), (∃ e ∈ o.after, Region.binds .any e = true ∧ e.on = j) → ops[j]? = some p → p.dst = some d → R j (a.tmps.getD d undef) w := fun j p d ⟨e, he, hb, hj⟩ hp hpd => hI.done j p d hp hpd (by
      have := hd e he hb
      rw [hj] at this
      have hjl : j < listed.size := by rw [hI.ls]; exact (Array.getElem?_eq_some_iff.1 hp).1
      simp only [Array.getD_eq_getD_getElem?, Array.getElem?_eq_getElem hjl, Option.getD_some] at this ⊢
      exact this)
    obtain ⟨d, hod, hdB, huniq⟩ := hdst i o ho
    have hil : i < listed.size := by rw [hI.ls]; exact (Array.getElem?_eq_some_iff.1 ho).1
    have hfin : ∀ (v : Value) (w' : World), w.grownBy w' none → R i v w' → RInv ops B u R (listed.setIfInBounds i true) (a.put o.dst v) w' := by
      intro v w' hgr hR
      have hput : a.put o.dst v = { a with tmps := a.tmps.setIfInBounds d v } := by rw [hod]; rfl
      rw [hput]
      refine ⟨by simp [hI.ls], by simp [hI.size], hI.defs, hI.gr.trans hgr, fun k hk => ?_, fun j p e hp hpe hlj => ?_⟩
      · rw [← hI.far k hk]
        have : d ≠ k := fun e => hk i o ho (by rw [hod, e])
        simp [Array.getD_eq_getD_getElem?, this]
      · by_cases hji : j = i
        · subst hji
          rw [ho] at hp; cases hp
          rw [hod] at hpe; cases hpe
          have : (a.tmps.setIfInBounds d v).getD d undef = v := by simp [Array.getD_eq_getD_getElem?, hI.size, hdB]
          rw [this]; exact hR
        · have hde : d ≠ e := fun h => hji (huniq j p hp (by rw [hpe, h]))
          have : (a.tmps.setIfInBounds d v).getD e undef = a.tmps.getD e undef := by simp [Array.getD_eq_getD_getElem?, hde]
          rw [this]
          refine hmono _ _ _ _ (hI.done j p e hp hpe ?_) hgr
          have hji' : ¬ i = j := fun h => hji h.symm
          simpa [Array.getD_eq_getD_getElem?, hji'] using hlj
    have hw : Region.wanted o (yielded ops a.tmps) = actB gb o := by
      unfold Region.wanted actB
      cases hgu : o.guard with
      | none => rfl
      | some jp =>
        obtain ⟨j, p⟩ := jp
        obtain ⟨hdj, q, dq, hq, hqd⟩ := hg i o j p ho hgu
        simp only
        rw [yielded_is hq hqd, hgb i o j p _ w ho hgu (hdep j q dq hdj hq hqd)]
    unfold wpOp
    rw [ho]
    simp only [hw]
    cases hact : actB gb o with
    | false =>
      simp only [Bool.false_eq_true, if_false]
      exact hfin undef w ⟨rfl, rfl, rfl, Nat.le_refl _, fun _ _ _ => rfl⟩ (hskip i o w ho hact)
    | true =>
      simp only [if_true]
      left
      refine Oper.wp_mono ?_ (hstep i o a w ho hact hI.defs hI.gr hI.far hdep)
      rintro a' w' ⟨v, rfl, hgr, hR⟩
      exact hfin v w' hgr hR
  · exact ⟨by simp, rfl, rfl, hu, fun _ _ => rfl, fun i o d ho _ hl => by
      have hi := (Array.getElem?_eq_some_iff.1 ho).1
      simp [Array.getD_eq_getD_getElem?, hi] at hl⟩
  · unfold unl
    refine Nat.le_trans (List.countP_le_length) ?_
    simp

/-- The closed facts on a region's operations. -/
def regOkG (n : Nat) (ops : Array Oper) : Bool :=
  ops.all (fun o => (match o.guard with | none => true | some (j, _) => depB o j && (match ops[j]? with | some q => q.dst.isSome | none => false)) && (match o.dst with | some d => decide (d < n) | none => false)) &&
  (List.range ops.size).all fun i => match ops[i]? with
    | some o => o.after.all (fun e => decide (e.on < i)) && (List.range ops.size).all fun j => match ops[j]? with
      | some p => (p.dst != o.dst) || (i == j)
      | none => true
    | none => true

/-- One operation's step, where it runs; and what holds where it does not. -/
def StepG (P : Program) (Q : Exit → Act → World → Prop) (ops : Array Oper) (B : Array Value) (u : World) (R : Nat → Value → World → Prop) (gb : Nat → Option Bool) (i : Nat) (o : Oper) : Prop :=
  (actB gb o = true → StepOk P Q ops B u R i o) ∧ (actB gb o = false → ∀ w, R i undef w) ∧ (∀ j p, o.guard = some (j, p) → ∀ v w, R j v w → yv v = gb j)

theorem wp_region_gsteps {id : Nat} {B : Array Value} {u : World} (n : Nat) (hB : B.size = n) (hok : regOkG n ops = true) (R : Nat → Value → World → Prop) (gb : Nat → Option Bool) (hm : P.follows .mixedOrders = true)
    (hmono : ∀ i v w w', R i v w → w.grownBy w' none → R i v w')
    (hend : ∀ a w, a.defers = [] → u.grownBy w none → (∀ k, slotFree ops k = true → a.tmps.getD k undef = B.getD k undef) → (∀ (i : Nat) (o : Oper) (d : Nat), ops[i]? = some o → o.dst = some d → R i (a.tmps.getD d undef) w) → Q .normal a w)
    (hstep : AllFrom (StepG P Q ops B u R gb) 0 ops.toList)
    (w : World) (hu : u.grownBy { w with drawn := w.drawn + 1 } none) : (Code.region id ops true).wp P Q { tmps := B, defers := [] } w := by
  unfold regOkG at hok
  rw [Bool.and_eq_true, Array.all_eq_true', List.all_eq_true] at hok
  obtain ⟨h1, h2⟩ := hok
  have hmemo : ∀ (i : Nat) (o : Oper), ops[i]? = some o → o ∈ ops := fun i o ho => Array.mem_of_getElem? ho
  have h2' : ∀ (i : Nat) (o : Oper), ops[i]? = some o → (o.after.all (fun e => decide (e.on < i)) = true) ∧ ∀ (j : Nat) (p : Oper), ops[j]? = some p → p.dst = o.dst → j = i := by
    intro i o ho
    have := h2 i (List.mem_range.2 (Array.getElem?_eq_some_iff.1 ho).1)
    simp only [ho, Bool.and_eq_true, List.all_eq_true] at this
    refine ⟨this.1, fun j p hp hd => ?_⟩
    have := this.2 j (List.mem_range.2 (Array.getElem?_eq_some_iff.1 hp).1)
    simp only [hp, Bool.or_eq_true, bne_iff_ne, ne_eq, beq_iff_eq] at this
    rcases this with h | h
    · exact absurd hd h
    · exact h.symm
  have hfree : ∀ k, slotFree ops k = true → ∀ (i : Nat) (o : Oper), ops[i]? = some o → o.dst ≠ some k := by
    intro k hk i o ho
    unfold slotFree at hk
    rw [Array.all_eq_true'] at hk
    have := hk o (hmemo i o ho)
    simpa using this
  have hdepB : ∀ (o : Oper) (j : Nat), depB o j = true → ∃ e ∈ o.after, Region.binds .any e = true ∧ e.on = j := by
    intro o j hj
    unfold depB at hj
    rw [Array.any_eq_true'] at hj
    obtain ⟨e, he, hb⟩ := hj
    simp only [Bool.and_eq_true, beq_iff_eq] at hb
    exact ⟨e, he, hb.1, hb.2⟩
  have hS : ∀ (i : Nat) (o : Oper), ops[i]? = some o → StepG P Q ops B u R gb i o := by
    intro i o ho
    have := allFrom_at hstep (i := i) (o := o) (by simpa using ho)
    rwa [Nat.zero_add] at this
  refine wp_region_invG R gb hm hmono ?_ ?_ ?_ ?_ ?_ ?_ ?_ w hu
  · intro i o ho e he
    have := (h2' i o ho).1
    rw [Array.all_eq_true'] at this
    simpa using this e he
  · intro i o j p ho hgu
    have := h1 o (hmemo i o ho)
    simp only [hgu, Bool.and_eq_true] at this
    refine ⟨hdepB o j this.1.1, ?_⟩
    have h3 := this.1.2
    cases hq : ops[j]? with
    | none => rw [hq] at h3; simp at h3
    | some q =>
      rw [hq] at h3
      obtain ⟨d, hd⟩ := Option.isSome_iff_exists.1 h3
      exact ⟨q, d, rfl, hd⟩
  · intro i o j p v w ho hgu hR
    exact (hS i o ho).2.2 j p hgu v w hR
  · intro i o w ho hact
    exact (hS i o ho).2.1 hact w
  · intro i o ho
    have := h1 o (hmemo i o ho)
    simp only [Bool.and_eq_true] at this
    cases hd : o.dst with
    | none => rw [hd] at this; simp at this
    | some d =>
      rw [hd] at this
      refine ⟨d, rfl, by rw [hB]; simpa using this.2, fun j p hp hpd => (h2' i o ho).2 j p hp (by rw [hpd, hd])⟩
  · intro a w hI
    refine hend a w hI.defs hI.gr (fun k hk => hI.far k (hfree k hk)) (fun i o d ho hd => hI.done i o d ho hd ?_)
    have hi := (Array.getElem?_eq_some_iff.1 ho).1
    simp [Array.getD_eq_getD_getElem?, hi]
  · intro i o a w ho hact hd hg hf hdep
    exact (hS i o ho).1 hact a w hd hg (fun k hk => hf k (hfree k hk)) (fun j p d hj hp hpd => hdep j p d (hdepB o j hj) hp hpd)
end

end Go.Proofs.YtboddoaekcchpaaGreat
