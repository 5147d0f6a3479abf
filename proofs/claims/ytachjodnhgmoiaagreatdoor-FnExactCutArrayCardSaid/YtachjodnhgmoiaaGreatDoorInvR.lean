/- A region that draws its order, by what holds of each operation's answer: one step for each operation, whatever the order. Nothing of the program. -/
import Derived.Orders
import Derived.Test.YtachjodnhgmoiaaGreatDoorGr
namespace Go.Proofs.YtachjodnhgmoiaaGreatDoor
open Go.RowKit

theorem countP_lt {α : Type} {p q : α → Bool} : ∀ {l : List α} {i : α}, (∀ x ∈ l, p x = true → q x = true) → i ∈ l → q i = true → p i = false → l.countP p < l.countP q
  | a :: l, i, h, hi, hq, hp => by
    have hle : ∀ {m : List α}, (∀ x ∈ m, p x = true → q x = true) → m.countP p ≤ m.countP q := fun {m} hm => List.countP_mono_left hm
    rw [List.countP_cons, List.countP_cons]
    rcases List.mem_cons.1 hi with rfl | hi
    · have := hle (fun x hx => h x (List.mem_cons_of_mem _ hx))
      simp [hq, hp]; omega
    · have := countP_lt (fun x hx => h x (List.mem_cons_of_mem _ hx)) hi hq hp
      have h2 := h a (List.mem_cons_self)
      cases hpa : p a
      · simp; omega
      · rw [h2 hpa]; simp; omega

/-- How many operations are not listed. -/
def unl (listed : Array Bool) : Nat := (List.range listed.size).countP fun i => !listed.getD i true
theorem unl_set {listed : Array Bool} {i : Nat} (hi : i < listed.size) (h : listed.getD i true = false) : unl (listed.setIfInBounds i true) < unl listed := by
  unfold unl
  rw [Array.size_setIfInBounds]
  refine countP_lt (i := i) (fun x hx hp => ?_) (List.mem_range.2 hi) (by simp [h]) (by simp [Array.getD, hi])
  simp only [Array.getD_eq_getD_getElem?, Array.getElem?_setIfInBounds] at hp ⊢
  by_cases e : i = x
  · subst e; simp [hi] at hp
  · simpa [e] using hp

section
variable {P : Program} {ops : Array Oper} {Q : Exit → Act → World → Prop} {md : Region.Mode}

theorem wpAny_inv (Inv : Array Bool → Act → World → Prop) (hsz : ∀ listed a w, Inv listed a w → listed.size = ops.size)
    (hac : ∀ (i : Nat) (o : Oper), ops[i]? = some o → ∀ e ∈ o.after, e.on < i)
    (hend : ∀ listed a w, Inv listed a w → (∀ i, i < ops.size → listed.getD i true = true) → Q .normal a w)
    (hstep : ∀ (i : Nat) (o : Oper) listed a w, ops[i]? = some o → Inv listed a w → listed.getD i true = false → (∀ e ∈ o.after, Region.binds md e = true → listed.getD e.on false = true) → wpOp P ops Q i (Inv (listed.setIfInBounds i true)) a w) :
    ∀ (fuel : Nat) (listed : Array Bool) (a : Act) (w : World), Inv listed a w → unl listed ≤ fuel → wpAny P md ops Q fuel listed a w := by
  have hready : ∀ (listed : Array Bool), listed.size = ops.size → Region.ready md ops listed = [] → ∀ i, i < ops.size → listed.getD i true = true := by
    intro listed hs hr i
    induction i using Nat.strongRecOn with
    | _ i ih =>
      intro hi
      cases hl : listed.getD i true with
      | true => rfl
      | false =>
        exfalso
        have hmem : i ∈ Region.ready md ops listed := by
          unfold Region.ready
          refine List.mem_filter.2 ⟨List.mem_range.2 hi, ?_⟩
          obtain ⟨o, ho⟩ : ∃ o, ops[i]? = some o := ⟨_, Array.getElem?_eq_getElem hi⟩
          simp only [hl, ho, Option.map_some, Option.getD_some, Bool.not_false, Bool.true_and]
          rw [Array.all_eq_true']
          intro e he
          have hlt := hac i o ho e he
          have := ih e.on hlt (by omega)
          have h2 : listed.getD e.on false = true := by
            simp only [Array.getD_eq_getD_getElem?, Array.getElem?_eq_getElem (show e.on < listed.size by omega), Option.getD_some] at this ⊢
            exact this
          simp [h2]
        rw [hr] at hmem
        cases hmem
  have hmem : ∀ (listed : Array Bool) (i : Nat), i ∈ Region.ready md ops listed → ∃ o, ops[i]? = some o ∧ listed.getD i true = false ∧ (∀ e ∈ o.after, Region.binds md e = true → listed.getD e.on false = true) := by
    intro listed i hi
    unfold Region.ready at hi
    obtain ⟨h1, h2⟩ := List.mem_filter.1 hi
    obtain ⟨o, ho⟩ : ∃ o, ops[i]? = some o := ⟨_, Array.getElem?_eq_getElem (List.mem_range.1 h1)⟩
    simp only [ho, Option.map_some, Option.getD_some, Bool.and_eq_true, Bool.not_eq_true', Array.all_eq_true'] at h2
    refine ⟨o, ho, h2.1, fun e he hb => ?_⟩
    have := h2.2 e he
    simpa [hb] using this
  intro fuel
  induction fuel with
  | zero =>
    intro listed a w hI hu
    have hall : ∀ i, i < ops.size → listed.getD i true = true := by
      intro i hi
      cases hl : listed.getD i true with
      | true => rfl
      | false =>
        have := unl_set (listed := listed) (i := i) (by rw [hsz _ _ _ hI]; exact hi) hl
        omega
    refine ⟨?_, hend _ _ _ hI hall⟩
    cases hr : Region.ready md ops listed with
    | nil => rfl
    | cons i l =>
      exfalso
      obtain ⟨o, ho, hl, _⟩ := hmem listed i (by rw [hr]; simp)
      have := hall i (Array.getElem?_eq_some_iff.1 ho).1
      rw [hl] at this; cases this
  | succ fuel ih =>
    intro listed a w hI hu
    refine ⟨fun hr => hend _ _ _ hI (hready listed (hsz _ _ _ hI) hr), fun i hi => ?_⟩
    obtain ⟨o, ho, hl, hd⟩ := hmem listed i hi
    refine wpOp_mono (fun a' w' hI' => ih _ a' w' hI' ?_) (hstep i o listed a w ho hI hl hd)
    have := unl_set (listed := listed) (i := i) (by rw [hsz _ _ _ hI]; exact (Array.getElem?_eq_some_iff.1 ho).1) hl
    omega

/-- What holds while a region runs: the slots that it does not write are as they were, the world has grown, and each operation that ran has answered as it is to. -/
structure RInv (ops : Array Oper) (B : Array Value) (u : World) (R : Nat → Value → World → Prop) (listed : Array Bool) (a : Act) (w : World) : Prop where
  ls : listed.size = ops.size
  size : a.tmps.size = B.size
  defs : a.defers = []
  gr : u.grownBy w none
  far : ∀ k, (∀ (i : Nat) (o : Oper), ops[i]? = some o → o.dst ≠ some k) → a.tmps.getD k undef = B.getD k undef
  done : ∀ (i : Nat) (o : Oper) (d : Nat), ops[i]? = some o → o.dst = some d → listed.getD i true = true → R i (a.tmps.getD d undef) w

/-- The law: one step for each operation. -/
theorem wp_region_inv {id : Nat} {B : Array Value} {u : World} (R : Nat → Value → World → Prop) (hm : P.follows .mixedOrders = true)
    (hmono : ∀ i v w w', R i v w → w.grownBy w' none → R i v w')
    (hac : ∀ (i : Nat) (o : Oper), ops[i]? = some o → ∀ e ∈ o.after, e.on < i)
    (hg : ∀ (i : Nat) (o : Oper), ops[i]? = some o → o.guard = none)
    (hdst : ∀ (i : Nat) (o : Oper), ops[i]? = some o → ∃ d, o.dst = some d ∧ d < B.size ∧ ∀ (j : Nat) (p : Oper), ops[j]? = some p → p.dst = some d → j = i)
    (hend : ∀ a w, RInv ops B u R (Array.replicate ops.size true) a w → Q .normal a w)
    (hstep : ∀ (i : Nat) (o : Oper) a w, ops[i]? = some o → a.defers = [] → u.grownBy w none → (∀ k, (∀ (i : Nat) (o : Oper), ops[i]? = some o → o.dst ≠ some k) → a.tmps.getD k undef = B.getD k undef) →
      (∀ (j : Nat) (p : Oper) (d : Nat), (∃ e ∈ o.after, Region.binds .any e = true ∧ e.on = j) → ops[j]? = some p → p.dst = some d → R j (a.tmps.getD d undef) w) →
      o.wp P a w (fun a' w' => ∃ v, a' = a.put o.dst v ∧ w.grownBy w' none ∧ R i v w') Q)
    (w : World) (hu : u.grownBy { w with drawn := w.drawn + 1 } none) : (Code.region id ops true).wp P Q { tmps := B, defers := [] } w := by
  refine wp_region_any hm (wpAny_inv (RInv ops B u R) (fun _ _ _ h => h.ls) hac ?_ ?_ _ _ _ _ ?_ ?_)
  · intro listed a w hI hall
    refine hend a w ⟨by simp, hI.size, hI.defs, hI.gr, hI.far, fun i o d ho hd _ => hI.done i o d ho hd (hall i (Array.getElem?_eq_some_iff.1 ho).1)⟩
  · intro i o listed a w ho hI hl hd
    unfold wpOp
    rw [ho]
    have hw : Region.wanted o (yielded ops a.tmps) = true := by simp [Region.wanted, hg i o ho]
    simp only [hw, if_true]
    left
    have hs := hstep i o a w ho hI.defs hI.gr hI.far (fun j p d ⟨e, he, hb, hj⟩ hp hpd => hI.done j p d hp hpd (by
      have := hd e he hb
      rw [hj] at this
      have hjl : j < listed.size := by rw [hI.ls]; exact (Array.getElem?_eq_some_iff.1 hp).1
      simp only [Array.getD_eq_getD_getElem?, Array.getElem?_eq_getElem hjl, Option.getD_some] at this ⊢
      exact this))
    refine Oper.wp_mono ?_ hs
    rintro a' w' ⟨v, rfl, hgr, hR⟩
    obtain ⟨d, hod, hdB, huniq⟩ := hdst i o ho
    have hil : i < listed.size := by rw [hI.ls]; exact (Array.getElem?_eq_some_iff.1 ho).1
    have hput : a.put o.dst v = { a with tmps := a.tmps.setIfInBounds d v } := by rw [hod]; rfl
    rw [hput]
    refine ⟨by simp [hI.ls], by simp [hI.size], hI.defs, hI.gr.trans hgr, fun k hk => ?_, fun j p e hp hpe hlj => ?_⟩
    · rw [← hI.far k hk]
      have : d ≠ k := fun e => hk i o ho (by rw [hod, e])
      simp [Array.getD_eq_getD_getElem?, this]
    · by_cases hji : j = i
      · subst hji
        rw [ho] at hp; cases hp
        rw [hod] at hpe; cases hpe
        have : (a.tmps.setIfInBounds d v).getD d undef = v := by simp [Array.getD_eq_getD_getElem?, hI.size, hdB]
        rw [this]; exact hR
      · have hde : d ≠ e := fun h => hji (huniq j p hp (by rw [hpe, h]))
        have : (a.tmps.setIfInBounds d v).getD e undef = a.tmps.getD e undef := by simp [Array.getD_eq_getD_getElem?, hde]
        rw [this]
        refine hmono _ _ _ _ (hI.done j p e hp hpe ?_) hgr
        have hji' : ¬ i = j := fun h => hji h.symm
        simpa [Array.getD_eq_getD_getElem?, hji'] using hlj
  · exact ⟨by simp, rfl, rfl, hu, fun _ _ => rfl, fun i o d ho _ hl => by
      have hi := (Array.getElem?_eq_some_iff.1 ho).1
      simp [Array.getD_eq_getD_getElem?, hi] at hl⟩
  · unfold unl
    refine Nat.le_trans (List.countP_le_length) ?_
    simp
/-- The closed facts on a region's operations. -/
def regOkB (n : Nat) (ops : Array Oper) : Bool :=
  ops.all (fun o => o.guard.isNone && (match o.dst with | some d => decide (d < n) | none => false)) &&
  (List.range ops.size).all fun i => match ops[i]? with
    | some o => o.after.all (fun e => decide (e.on < i)) && (List.range ops.size).all fun j => match ops[j]? with
      | some p => (p.dst != o.dst) || (i == j)
      | none => true
    | none => true
def slotFree (ops : Array Oper) (k : Nat) : Bool := ops.all fun o => o.dst != some k
def depB (o : Oper) (j : Nat) : Bool := o.after.any fun e => Region.binds .any e && (e.on == j)

/-- One operation's step. -/
def StepOk (P : Program) (Q : Exit → Act → World → Prop) (ops : Array Oper) (B : Array Value) (u : World) (R : Nat → Value → World → Prop) (i : Nat) (o : Oper) : Prop :=
  ∀ a w, a.defers = [] → u.grownBy w none → (∀ k, slotFree ops k = true → a.tmps.getD k undef = B.getD k undef) →
    (∀ (j : Nat) (p : Oper) (d : Nat), depB o j = true → ops[j]? = some p → p.dst = some d → R j (a.tmps.getD d undef) w) →
    o.wp P a w (fun a' w' => ∃ v, a' = a.put o.dst v ∧ w.grownBy w' none ∧ R i v w') Q
def AllFrom (S : Nat → Oper → Prop) : Nat → List Oper → Prop
  | _, [] => True
  | k, o :: l => S k o ∧ AllFrom S (k + 1) l
theorem allFrom_at {S : Nat → Oper → Prop} {l : List Oper} : ∀ {k i : Nat} {o : Oper}, AllFrom S k l → l[i]? = some o → S (k + i) o := by
  induction l with
  | nil => intro k i o _ h; simp at h
  | cons a l ih =>
    intro k i o h ho
    cases i with
    | zero => simp at ho; subst ho; exact h.1
    | succ i =>
      have := ih (k := k + 1) (i := i) h.2 (by simpa using ho)
      have e : k + (i + 1) = k + 1 + i := by omega
      rw [e]
      exact this

theorem wp_region_steps {id : Nat} {B : Array Value} {u : World} (n : Nat) (hB : B.size = n) (hok : regOkB n ops = true) (R : Nat → Value → World → Prop) (hm : P.follows .mixedOrders = true)
    (hmono : ∀ i v w w', R i v w → w.grownBy w' none → R i v w')
    (hend : ∀ a w, a.defers = [] → u.grownBy w none → (∀ k, slotFree ops k = true → a.tmps.getD k undef = B.getD k undef) → (∀ (i : Nat) (o : Oper) (d : Nat), ops[i]? = some o → o.dst = some d → R i (a.tmps.getD d undef) w) → Q .normal a w)
    (hstep : AllFrom (StepOk P Q ops B u R) 0 ops.toList)
    (w : World) (hu : u.grownBy { w with drawn := w.drawn + 1 } none) : (Code.region id ops true).wp P Q { tmps := B, defers := [] } w := by
  unfold regOkB at hok
  rw [Bool.and_eq_true, Array.all_eq_true', List.all_eq_true] at hok
  obtain ⟨h1, h2⟩ := hok
  have hmemo : ∀ (i : Nat) (o : Oper), ops[i]? = some o → o ∈ ops := fun i o ho => Array.mem_of_getElem? ho
  have h2' : ∀ (i : Nat) (o : Oper), ops[i]? = some o → (o.after.all (fun e => decide (e.on < i)) = true) ∧ ∀ (j : Nat) (p : Oper), ops[j]? = some p → p.dst = o.dst → j = i := by
    intro i o ho
    have := h2 i (List.mem_range.2 (Array.getElem?_eq_some_iff.1 ho).1)
    simp only [ho, Bool.and_eq_true, List.all_eq_true] at this
    refine ⟨this.1, fun j p hp hd => ?_⟩
    have := this.2 j (List.mem_range.2 (Array.getElem?_eq_some_iff.1 hp).1)
    simp only [hp, Bool.or_eq_true, bne_iff_ne, ne_eq, beq_iff_eq] at this
    rcases this with h | h
    · exact absurd hd h
    · exact h.symm
  have hfree : ∀ k, slotFree ops k = true → ∀ (i : Nat) (o : Oper), ops[i]? = some o → o.dst ≠ some k := by
    intro k hk i o ho
    unfold slotFree at hk
    rw [Array.all_eq_true'] at hk
    have := hk o (hmemo i o ho)
    simpa using this
  refine wp_region_inv R hm hmono ?_ ?_ ?_ ?_ ?_ w hu
  · intro i o ho e he
    have := (h2' i o ho).1
    rw [Array.all_eq_true'] at this
    simpa using this e he
  · intro i o ho
    have := h1 o (hmemo i o ho)
    simp only [Bool.and_eq_true, Option.isNone_iff_eq_none] at this
    exact this.1
  · intro i o ho
    have := h1 o (hmemo i o ho)
    simp only [Bool.and_eq_true] at this
    cases hd : o.dst with
    | none => rw [hd] at this; simp at this
    | some d =>
      rw [hd] at this
      refine ⟨d, rfl, by rw [hB]; simpa using this.2, fun j p hp hpd => (h2' i o ho).2 j p hp (by rw [hpd, hd])⟩
  · intro a w hI
    refine hend a w hI.defs hI.gr (fun k hk => hI.far k (hfree k hk)) (fun i o d ho hd => hI.done i o d ho hd ?_)
    have hi := (Array.getElem?_eq_some_iff.1 ho).1
    simp [Array.getD_eq_getD_getElem?, hi]
  · intro i o a w ho hd hg hf hdep
    have hS := allFrom_at hstep (i := i) (o := o) (by simpa using ho)
    rw [Nat.zero_add] at hS
    refine hS a w hd hg (fun k hk => hf k (hfree k hk)) (fun j p d hj hp hpd => hdep j p d ?_ hp hpd)
    unfold depB at hj
    rw [Array.any_eq_true'] at hj
    obtain ⟨e, he, hb⟩ := hj
    simp only [Bool.and_eq_true, beq_iff_eq] at hb
    exact ⟨e, he, hb.1, hb.2⟩
end

end Go.Proofs.YtachjodnhgmoiaaGreatDoor
