/- A region that draws its order, within a round: each operation's answer is known ahead (and no memory that is there is written); one step for each operation, whatever the order. Nothing of the program. -/
import Derived.Test.YtachjodnhgmoiaaGreatDoorInvR
import Derived.Test.YtachjodnhgmoiaaGreatDoorStillIn
namespace Go.Proofs.YtachjodnhgmoiaaGreatDoor
open Go.RowKit

section
variable {l : Nat} {n : Nat} {P : Program} {ops : Array Oper} {Q : Exit → Act → World → Prop} {md : Region.Mode}

theorem wpIn_of_wpO {o : Oper} (hd : ∀ c, o.op ≠ .defer c) {a : Act} {w : World} {K : Act → World → Prop} (h : o.wp P a w K Q) : o.wpIn (Fence.wide.inRound l) n P a w K Q := by
  unfold Oper.wp at h
  unfold Oper.wpIn
  refine ⟨fun f _ => trivial, ?_⟩
  rw [Oper.semAt_eq _ _ _ hd]
  generalize (execOp a.eval o).run P w = r at *
  cases r with
  | ok x w' =>
    cases x <;> simp only [Oper.upon] at h <;> simp only [Oper.uponIn]
    case enter f args => exact ⟨fun h => by simp [Fence.wide] at h, CallsIn.inRound l (callsIn_wide.2 h)⟩
    case row row args => exact ⟨fun h => by simp [Fence.wide] at h, (fun c cs _ => by obtain ⟨v, w2, r, s⟩ := h c cs; exact ⟨v, w2, r, stepsIn_wide.2 s⟩)⟩
    all_goals exact h
  | halt x w' => cases x <;> simp only [Oper.upon] at h <;> simp only [Oper.uponIn]; exact h


theorem wpAnyIn_inv (Inv : Array Bool → Act → World → Prop) (hsz : ∀ listed a w, Inv listed a w → listed.size = ops.size)
    (hac : ∀ (i : Nat) (o : Oper), ops[i]? = some o → ∀ e ∈ o.after, Region.binds md e = true → e.on < i)
    (hend : ∀ listed a w, Inv listed a w → (∀ i, i < ops.size → listed.getD i true = true) → Q .normal a w)
    (hstep : ∀ (i : Nat) (o : Oper) listed a w, ops[i]? = some o → Inv listed a w → listed.getD i true = false → (∀ e ∈ o.after, Region.binds md e = true → listed.getD e.on false = true) → wpOpIn (Fence.wide.inRound l) n P ops Q i (Inv (listed.setIfInBounds i true)) a w) :
    ∀ (fuel : Nat) (listed : Array Bool) (a : Act) (w : World), Inv listed a w → unl listed ≤ fuel → wpAnyIn (Fence.wide.inRound l) n P md ops Q fuel listed a w := by
  have hready : ∀ (listed : Array Bool), listed.size = ops.size → Region.ready md ops listed = [] → ∀ i, i < ops.size → listed.getD i true = true := by
    intro listed hs hr i
    induction i using Nat.strongRecOn with
    | _ i ih =>
      intro hi
      cases hl : listed.getD i true with
      | true => rfl
      | false =>
        exfalso
        have hmem : i ∈ Region.ready md ops listed := by
          unfold Region.ready
          refine List.mem_filter.2 ⟨List.mem_range.2 hi, ?_⟩
          obtain ⟨o, ho⟩ : ∃ o, ops[i]? = some o := ⟨_, Array.getElem?_eq_getElem hi⟩
          simp only [hl, ho, Option.map_some, Option.getD_some, Bool.not_false, Bool.true_and]
          rw [Array.all_eq_true']
          intro e he
          cases hb : Region.binds md e with
          | false => rfl
          | true =>
          have hlt := hac i o ho e he hb
          have := ih e.on hlt (by omega)
          have h2 : listed.getD e.on false = true := by
            simp only [Array.getD_eq_getD_getElem?, Array.getElem?_eq_getElem (show e.on < listed.size by omega), Option.getD_some] at this ⊢
            exact this
          simp [h2]
        rw [hr] at hmem
        cases hmem
  have hmem : ∀ (listed : Array Bool) (i : Nat), i ∈ Region.ready md ops listed → ∃ o, ops[i]? = some o ∧ listed.getD i true = false ∧ (∀ e ∈ o.after, Region.binds md e = true → listed.getD e.on false = true) := by
    intro listed i hi
    unfold Region.ready at hi
    obtain ⟨h1, h2⟩ := List.mem_filter.1 hi
    obtain ⟨o, ho⟩ : ∃ o, ops[i]? = some o := ⟨_, Array.getElem?_eq_getElem (List.mem_range.1 h1)⟩
    simp only [ho, Option.map_some, Option.getD_some, Bool.and_eq_true, Bool.not_eq_true', Array.all_eq_true'] at h2
    refine ⟨o, ho, h2.1, fun e he hb => ?_⟩
    have := h2.2 e he
    simpa [hb] using this
  intro fuel
  induction fuel with
  | zero =>
    intro listed a w hI hu
    have hall : ∀ i, i < ops.size → listed.getD i true = true := by
      intro i hi
      cases hl : listed.getD i true with
      | true => rfl
      | false =>
        have := unl_set (listed := listed) (i := i) (by rw [hsz _ _ _ hI]; exact hi) hl
        omega
    refine ⟨?_, hend _ _ _ hI hall⟩
    cases hr : Region.ready md ops listed with
    | nil => rfl
    | cons i l =>
      exfalso
      obtain ⟨o, ho, hl, _⟩ := hmem listed i (by rw [hr]; simp)
      have := hall i (Array.getElem?_eq_some_iff.1 ho).1
      rw [hl] at this; cases this
  | succ fuel ih =>
    intro listed a w hI hu
    refine ⟨fun hr => hend _ _ _ hI (hready listed (hsz _ _ _ hI) hr), fun i hi => ?_⟩
    obtain ⟨o, ho, hl, hd⟩ := hmem listed i hi
    refine wpOpIn_mono (fun a' w' hI' => ih _ a' w' hI' ?_) (hstep i o listed a w ho hI hl hd)
    have := unl_set (listed := listed) (i := i) (by rw [hsz _ _ _ hI]; exact (Array.getElem?_eq_some_iff.1 ho).1) hl
    omega


/-- The closed facts on a region's operations. -/
def regOkV (n : Nat) (ops : Array Oper) : Bool :=
  ops.all (fun o => o.guard.isNone && (match o.dst with | some d => decide (d < n) | none => false)) &&
  (List.range ops.size).all fun i => match ops[i]? with
    | some o => o.after.all (fun e => !Region.binds .any e || decide (e.on < i)) && (List.range ops.size).all fun j => match ops[j]? with
      | some p => (p.dst != o.dst) || (i == j)
      | none => true
    | none => true
/-- What slots hold when each operation has given its value. -/
def putVals : List Oper → List Value → Array Value → Array Value
  | o :: os, v :: vs, t => putVals os vs (match o.dst with | some d => t.setIfInBounds d v | none => t)
  | _, _, t => t

theorem putVals_size : ∀ (os : List Oper) (vs : List Value) (t : Array Value), (putVals os vs t).size = t.size
  | [], _, _ => rfl
  | _ :: _, [], _ => rfl
  | o :: os, v :: vs, t => by
    rw [putVals, putVals_size os vs]
    cases o.dst <;> simp
theorem putVals_free : ∀ (os : List Oper) (vs : List Value) (t : Array Value) (k : Nat), (∀ o ∈ os, o.dst ≠ some k) → (putVals os vs t).getD k undef = t.getD k undef
  | [], _, _, _, _ => rfl
  | _ :: _, [], _, _, _ => rfl
  | o :: os, v :: vs, t, k, h => by
    rw [putVals, putVals_free os vs _ k (fun p hp => h p (by simp [hp]))]
    have h1 := h o (by simp)
    cases hd : o.dst with
    | none => rfl
    | some d =>
      rw [hd] at h1
      have : d ≠ k := fun e => h1 (by rw [e])
      simp [Array.getD_eq_getD_getElem?, this]
theorem putVals_at : ∀ (os : List Oper) (vs : List Value) (t : Array Value) (i : Nat) (o : Oper) (d : Nat), os.length ≤ vs.length → os[i]? = some o → o.dst = some d → d < t.size → (∀ (j : Nat) (p : Oper), os[j]? = some p → p.dst = some d → j = i) → (putVals os vs t).getD d undef = vs.getD i undef
  | [], _, _, _, _, _, _, h, _, _, _ => by simp at h
  | _ :: _, [], _, _, _, _, h, _, _, _, _ => by simp at h
  | o :: os, v :: vs, t, 0, q, d, hl, hq, hd, hs, hu => by
    simp only [List.getElem?_cons_zero, Option.some.injEq] at hq
    subst hq
    rw [putVals, hd, putVals_free os vs _ d (fun p hp he => by
      obtain ⟨j, hj⟩ := List.getElem?_of_mem hp
      have := hu (j + 1) p (by simpa using hj) he
      omega)]
    simp [Array.getD_eq_getD_getElem?, hs]
  | o :: os, v :: vs, t, i + 1, q, d, hl, hq, hd, hs, hu => by
    have hq' : os[i]? = some q := by simpa using hq
    rw [putVals, putVals_at os vs _ i q d (by simpa using hl) hq' hd (by cases o.dst <;> simpa using hs) (fun j p hj he => by
      have := hu (j + 1) p (by simpa using hj) he
      omega)]
    simp

/-- One operation's step. -/
def StepV (P : Program) (Q : Exit → Act → World → Prop) (ops : Array Oper) (B : Array Value) (u : World) (vals : List Value) (i : Nat) (o : Oper) : Prop :=
  ∀ a w, a.defers = [] → u.grownBy w none → (∀ k, slotFree ops k = true → a.tmps.getD k undef = B.getD k undef) →
    (∀ (j : Nat) (p : Oper) (d : Nat), depB o j = true → ops[j]? = some p → p.dst = some d → a.tmps.getD d undef = vals.getD j undef) →
    o.wp P a w (fun a' w' => a' = a.put o.dst (vals.getD i undef) ∧ w.grownBy w' none) Q

/-- What holds while a region runs. -/
structure VInv (ops : Array Oper) (B : Array Value) (u : World) (vals : List Value) (listed : Array Bool) (a : Act) (w : World) : Prop where
  ls : listed.size = ops.size
  size : a.tmps.size = B.size
  defs : a.defers = []
  gr : u.grownBy w none
  far : ∀ k, slotFree ops k = true → a.tmps.getD k undef = B.getD k undef
  done : ∀ (i : Nat) (o : Oper) (d : Nat), ops[i]? = some o → o.dst = some d → listed.getD i true = true → a.tmps.getD d undef = vals.getD i undef

theorem getD_ext {A B : Array Value} (hs : A.size = B.size) (h : ∀ k, k < A.size → A.getD k undef = B.getD k undef) : A = B := by
  refine Array.ext hs fun k h1 h2 => ?_
  have := h k h1
  simpa [Array.getD, h1, h2] using this

/-- The law: all values are known; 'C' is what the slots hold in the end. -/
theorem wpIn_region_vals {id : Nat} {B C : Array Value} {u : World} (vals : List Value) (m : Nat) (hB : B.size = m) (hC : C.size = m) (hok : regOkV m ops = true) (hdf : noDeferB ops = true) (hm : P.follows .mixedOrders = true)
    (hfree : ∀ k, k < m → slotFree ops k = true → C.getD k undef = B.getD k undef)
    (hval : ∀ (i : Nat) (o : Oper) (d : Nat), ops[i]? = some o → o.dst = some d → C.getD d undef = vals.getD i undef)
    (hend : ∀ w, u.grownBy w none → Q .normal { tmps := C, defers := [] } w)
    (hstep : AllFrom (StepV P Q ops B u vals) 0 ops.toList)
    (w : World) (hu : u.grownBy w.drew none) : (Code.region id ops true).wpIn (Fence.wide.inRound l) n P Q { tmps := B, defers := [] } w := by
  have hok0 := hok
  unfold regOkV at hok
  rw [Bool.and_eq_true, Array.all_eq_true', List.all_eq_true] at hok
  obtain ⟨h1, h2⟩ := hok
  have hmemo : ∀ (i : Nat) (o : Oper), ops[i]? = some o → o ∈ ops := fun i o ho => Array.mem_of_getElem? ho
  have h2' : ∀ (i : Nat) (o : Oper), ops[i]? = some o → (o.after.all (fun e => !Region.binds .any e || decide (e.on < i)) = true) ∧ ∀ (j : Nat) (p : Oper), ops[j]? = some p → p.dst = o.dst → j = i := by
    intro i o ho
    have := h2 i (List.mem_range.2 (Array.getElem?_eq_some_iff.1 ho).1)
    simp only [ho, Bool.and_eq_true, List.all_eq_true] at this
    refine ⟨this.1, fun j p hp hd => ?_⟩
    have := this.2 j (List.mem_range.2 (Array.getElem?_eq_some_iff.1 hp).1)
    simp only [hp, Bool.or_eq_true, bne_iff_ne, ne_eq, beq_iff_eq] at this
    rcases this with h | h
    · exact absurd hd h
    · exact h.symm
  have hfr : ∀ k, slotFree ops k = true → ∀ (i : Nat) (o : Oper), ops[i]? = some o → o.dst ≠ some k := by
    intro k hk i o ho
    unfold slotFree at hk
    rw [Array.all_eq_true'] at hk
    have := hk o (hmemo i o ho)
    simpa using this
  have hdst : ∀ (i : Nat) (o : Oper), ops[i]? = some o → ∃ d, o.dst = some d ∧ d < B.size ∧ ∀ (j : Nat) (p : Oper), ops[j]? = some p → p.dst = some d → j = i := by
    intro i o ho
    have := h1 o (hmemo i o ho)
    simp only [Bool.and_eq_true] at this
    cases hd : o.dst with
    | none => rw [hd] at this; simp at this
    | some d =>
      rw [hd] at this
      exact ⟨d, rfl, by rw [hB]; simpa using this.2, fun j p hp hpd => (h2' i o ho).2 j p hp (by rw [hpd, hd])⟩
  refine wpIn_region_any hm (wpAnyIn_inv (VInv ops B u vals) (fun _ _ _ h => h.ls) ?_ ?_ ?_ _ _ _ _ ?_ ?_)
  · intro i o ho e he hb
    have := (h2' i o ho).1
    rw [Array.all_eq_true'] at this
    simpa [hb] using this e he
  · intro listed a w hI hall
    have hc : a.tmps = C := by
      refine getD_ext (by rw [hI.size, hB, hC]) fun k hk => ?_
      cases hs : slotFree ops k with
      | true => rw [hI.far k hs, hfree k (by rw [← hB, ← hI.size]; exact hk) hs]
      | false =>
        unfold slotFree at hs
        rw [Array.all_eq_false] at hs
        obtain ⟨i, hi, ho⟩ := hs
        simp only [bne_iff_ne, ne_eq, Classical.not_not] at ho
        have hoi : ops[i]? = some ops[i] := Array.getElem?_eq_getElem hi
        rw [hval i _ k hoi ho]
        exact hI.done i _ k hoi ho (hall i hi)
    have e : a = { tmps := C, defers := [] } := by
      have := hI.defs
      cases a
      simp only at hc this
      subst hc this
      rfl
    rw [e]
    exact hend w hI.gr
  · intro i o listed a w ho hI hl hd
    unfold wpOpIn
    rw [ho]
    have hg : o.guard = none := by
      have := h1 o (hmemo i o ho)
      simp only [Bool.and_eq_true, Option.isNone_iff_eq_none] at this
      exact this.1
    have hw : Region.wanted o (yielded ops a.tmps) = true := by simp [Region.wanted, hg]
    simp only [hw, if_true]
    refine wpIn_of_wpO (noDefer_of hdf o (hmemo i o ho)) ?_
    have hS := allFrom_at hstep (i := i) (o := o) (by simpa using ho)
    rw [Nat.zero_add] at hS
    have hs := hS a w hI.defs hI.gr hI.far (fun j p d hj hp hpd => hI.done j p d hp hpd (by
      unfold depB at hj
      rw [Array.any_eq_true'] at hj
      obtain ⟨e, he, hb⟩ := hj
      simp only [Bool.and_eq_true, beq_iff_eq] at hb
      have := hd e he hb.1
      rw [hb.2] at this
      have hjl : j < listed.size := by rw [hI.ls]; exact (Array.getElem?_eq_some_iff.1 hp).1
      simp only [Array.getD_eq_getD_getElem?, Array.getElem?_eq_getElem hjl, Option.getD_some] at this ⊢
      exact this))
    refine Oper.wp_mono ?_ hs
    rintro a' w' ⟨rfl, hgr⟩
    obtain ⟨d, hod, hdB, huniq⟩ := hdst i o ho
    have hil : i < listed.size := by rw [hI.ls]; exact (Array.getElem?_eq_some_iff.1 ho).1
    have hput : a.put o.dst (vals.getD i undef) = { a with tmps := a.tmps.setIfInBounds d (vals.getD i undef) } := by rw [hod]; rfl
    rw [hput]
    refine ⟨by simp [hI.ls], by simp [hI.size], hI.defs, hI.gr.trans hgr, fun k hk => ?_, fun j p e hp hpe hlj => ?_⟩
    · rw [← hI.far k hk]
      have : d ≠ k := fun e => hfr k hk i o ho (by rw [hod, e])
      simp [Array.getD_eq_getD_getElem?, this]
    · by_cases hji : j = i
      · subst hji
        rw [ho] at hp; cases hp
        rw [hod] at hpe; cases hpe
        simp [Array.getD_eq_getD_getElem?, hI.size, hdB]
      · have hde : d ≠ e := fun h => hji (huniq j p hp (by rw [hpe, h]))
        have : (a.tmps.setIfInBounds d (vals.getD i undef)).getD e undef = a.tmps.getD e undef := by simp [Array.getD_eq_getD_getElem?, hde]
        rw [this]
        refine hI.done j p e hp hpe ?_
        have hji' : ¬ i = j := fun h => hji h.symm
        simpa [Array.getD_eq_getD_getElem?, hji'] using hlj
  · exact ⟨by simp, rfl, rfl, hu, fun _ _ => rfl, fun i o d ho _ hl => by
      have hi := (Array.getElem?_eq_some_iff.1 ho).1
      simp [Array.getD_eq_getD_getElem?, hi] at hl⟩
  · unfold unl
    refine Nat.le_trans (List.countP_le_length) ?_
    simp

/-- The law, with what the slots hold computed. -/
theorem wpIn_region_put {id : Nat} {B : Array Value} {u : World} (vals : List Value) (m : Nat) (hB : B.size = m) (hv : ops.size ≤ vals.length) (hok : regOkV m ops = true) (hdf : noDeferB ops = true) (hm : P.follows .mixedOrders = true)
    (hend : ∀ w, u.grownBy w none → Q .normal { tmps := putVals ops.toList vals B, defers := [] } w)
    (hstep : AllFrom (StepV P Q ops B u vals) 0 ops.toList)
    (w : World) (hu : u.grownBy w.drew none) : (Code.region id ops true).wpIn (Fence.wide.inRound l) n P Q { tmps := B, defers := [] } w := by
  refine wpIn_region_vals vals m hB (by rw [putVals_size, hB]) hok hdf hm (fun k _ hs => ?_) (fun i o d ho hd => ?_) hend hstep w hu
  · refine putVals_free _ _ _ _ (fun o ho he => ?_)
    unfold slotFree at hs
    rw [Array.all_eq_true'] at hs
    have := hs o (by simpa using ho)
    simp [he] at this
  · unfold regOkV at hok
    rw [Bool.and_eq_true, Array.all_eq_true', List.all_eq_true] at hok
    obtain ⟨h1, h2⟩ := hok
    have hdm : d < m := by
      have := h1 o (Array.mem_of_getElem? ho)
      simp only [hd, Bool.and_eq_true, decide_eq_true_eq] at this
      exact this.2
    refine putVals_at _ _ _ i o d (by simpa using hv) (by simpa using ho) hd (by omega) (fun j p hj he => ?_)
    have := h2 i (List.mem_range.2 (Array.getElem?_eq_some_iff.1 ho).1)
    have hj' : ops[j]? = some p := by simpa using hj
    simp only [ho, Bool.and_eq_true, List.all_eq_true] at this
    have := this.2 j (List.mem_range.2 (Array.getElem?_eq_some_iff.1 hj').1)
    simp only [hj', Bool.or_eq_true, bne_iff_ne, ne_eq, beq_iff_eq] at this
    rcases this with h | h
    · exact absurd (by rw [he, hd]) h
    · exact h.symm

end

end Go.Proofs.YtachjodnhgmoiaaGreatDoor
