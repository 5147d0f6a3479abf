/- A region that draws its order and ends in one store, which waits for all that is ahead of it: one step for each operation, whatever the order; then the store. Nothing of the program. -/
import Derived.Test.YtdfanconjiiceaaInvR
namespace Go.Proofs.Ytdfanconjiiceaa
open Go.RowKit

section
variable {P : Program} {ops : Array Oper} {Q : Exit → Act → World → Prop}

/-- The closed facts on a region's operations: that at L has no slot and waits for all others. -/
def regOkL (n L : Nat) (ops : Array Oper) : Bool :=
  ops.all (fun o => o.guard.isNone) &&
  (List.range ops.size).all fun i => match ops[i]? with
    | some o => o.after.all (fun e => !Region.binds .any e || decide (e.on < i)) &&
      (if i = L then (List.range ops.size).all (fun j => j == L || depB o j) && o.dst.isNone
       else (match o.dst with | some d => decide (d < n) | none => false) && (List.range ops.size).all fun j => match ops[j]? with
        | some p => (p.dst != o.dst) || (i == j)
        | none => true)
    | none => true

/-- What holds while the operations ahead of the last one run. -/
structure LInv (ops : Array Oper) (n L : Nat) (B : Array Value) (u : World) (R : Nat → Value → World → Prop) (listed : Array Bool) (a : Act) (w : World) : Prop where
  ls : listed.size = ops.size
  not : listed.getD L true = false
  size : a.tmps.size = n
  defs : a.defers = []
  gr : u.grownBy w none
  far : ∀ k, slotFree ops k = true → a.tmps.getD k undef = B.getD k undef
  done : ∀ (i : Nat) (o : Oper) (d : Nat), ops[i]? = some o → o.dst = some d → listed.getD i true = true → R i (a.tmps.getD d undef) w

theorem wpAny_invG {md : Region.Mode} (Inv : Array Bool → Act → World → Prop) (hsz : ∀ listed a w, Inv listed a w → listed.size = ops.size)
    (hac : ∀ (i : Nat) (o : Oper), ops[i]? = some o → ∀ e ∈ o.after, Region.binds md e = true → e.on < i)
    (hend : ∀ listed a w, Inv listed a w → (∀ i, i < ops.size → listed.getD i true = true) → Q .normal a w)
    (hstep : ∀ (i : Nat) (o : Oper) listed a w, ops[i]? = some o → Inv listed a w → listed.getD i true = false → (∀ e ∈ o.after, Region.binds md e = true → listed.getD e.on false = true) → wpOp P ops Q i (Inv (listed.setIfInBounds i true)) a w) :
    ∀ (fuel : Nat) (listed : Array Bool) (a : Act) (w : World), Inv listed a w → unl listed ≤ fuel → wpAny P md ops Q fuel listed a w := by
  have hready : ∀ (listed : Array Bool), listed.size = ops.size → Region.ready md ops listed = [] → ∀ i, i < ops.size → listed.getD i true = true := by
    intro listed hs hr i
    induction i using Nat.strongRecOn with
    | _ i ih =>
      intro hi
      cases hl : listed.getD i true with
      | true => rfl
      | false =>
        exfalso
        have hmem : i ∈ Region.ready md ops listed := by
          unfold Region.ready
          refine List.mem_filter.2 ⟨List.mem_range.2 hi, ?_⟩
          obtain ⟨o, ho⟩ : ∃ o, ops[i]? = some o := ⟨_, Array.getElem?_eq_getElem hi⟩
          simp only [hl, ho, Option.map_some, Option.getD_some, Bool.not_false, Bool.true_and]
          rw [Array.all_eq_true']
          intro e he
          cases hb : Region.binds md e with
          | false => rfl
          | true =>
          have hlt := hac i o ho e he hb
          have := ih e.on hlt (by omega)
          have h2 : listed.getD e.on false = true := by
            simp only [Array.getD_eq_getD_getElem?, Array.getElem?_eq_getElem (show e.on < listed.size by omega), Option.getD_some] at this ⊢
            exact this
          simp [h2]
        rw [hr] at hmem
        cases hmem
  have hmem : ∀ (listed : Array Bool) (i : Nat), i ∈ Region.ready md ops listed → ∃ o, ops[i]? = some o ∧ listed.getD i true = false ∧ (∀ e ∈ o.after, Region.binds md e = true → listed.getD e.on false = true) := by
    intro listed i hi
    unfold Region.ready at hi
    obtain ⟨h1, h2⟩ := List.mem_filter.1 hi
    obtain ⟨o, ho⟩ : ∃ o, ops[i]? = some o := ⟨_, Array.getElem?_eq_getElem (List.mem_range.1 h1)⟩
    simp only [ho, Option.map_some, Option.getD_some, Bool.and_eq_true, Bool.not_eq_true', Array.all_eq_true'] at h2
    refine ⟨o, ho, h2.1, fun e he hb => ?_⟩
    have := h2.2 e he
    simpa [hb] using this
  intro fuel
  induction fuel with
  | zero =>
    intro listed a w hI hu
    have hall : ∀ i, i < ops.size → listed.getD i true = true := by
      intro i hi
      cases hl : listed.getD i true with
      | true => rfl
      | false =>
        have := unl_set (listed := listed) (i := i) (by rw [hsz _ _ _ hI]; exact hi) hl
        omega
    refine ⟨?_, hend _ _ _ hI hall⟩
    cases hr : Region.ready md ops listed with
    | nil => rfl
    | cons i l =>
      exfalso
      obtain ⟨o, ho, hl, _⟩ := hmem listed i (by rw [hr]; simp)
      have := hall i (Array.getElem?_eq_some_iff.1 ho).1
      rw [hl] at this; cases this
  | succ fuel ih =>
    intro listed a w hI hu
    refine ⟨fun hr => hend _ _ _ hI (hready listed (hsz _ _ _ hI) hr), fun i hi => ?_⟩
    obtain ⟨o, ho, hl, hd⟩ := hmem listed i hi
    refine wpOp_mono (fun a' w' hI' => ih _ a' w' hI' ?_) (hstep i o listed a w ho hI hl hd)
    have := unl_set (listed := listed) (i := i) (by rw [hsz _ _ _ hI]; exact (Array.getElem?_eq_some_iff.1 ho).1) hl
    omega

/-- The law. -/
theorem wp_region_last {id : Nat} {B : Array Value} {u : World} (n L : Nat) (hB : B.size = n) (hL : L < ops.size) (hok : regOkL n L ops = true) (R : Nat → Value → World → Prop) (hm : P.follows .mixedOrders = true)
    (hmono : ∀ i v w w', R i v w → w.grownBy w' none → R i v w')
    (hlast : ∀ (o : Oper) a w, ops[L]? = some o → a.defers = [] → u.grownBy w none → a.tmps.size = n → (∀ k, slotFree ops k = true → a.tmps.getD k undef = B.getD k undef) → (∀ (i : Nat) (o : Oper) (d : Nat), ops[i]? = some o → o.dst = some d → R i (a.tmps.getD d undef) w) →
      o.wp P a w (fun a' w' => Q .normal a' w') Q)
    (hstep : AllFrom (fun i o => i = L ∨ StepOk P Q ops B u R i o) 0 ops.toList)
    (w : World) (hu : u.grownBy w.drew none) : (Code.region id ops true).wp P Q { tmps := B, defers := [] } w := by
  unfold regOkL at hok
  rw [Bool.and_eq_true, Array.all_eq_true', List.all_eq_true] at hok
  obtain ⟨h1, h2⟩ := hok
  have hmemo : ∀ (i : Nat) (o : Oper), ops[i]? = some o → o ∈ ops := fun i o ho => Array.mem_of_getElem? ho
  have hlt : ∀ (i : Nat) (o : Oper), ops[i]? = some o → i < ops.size := fun i o ho => (Array.getElem?_eq_some_iff.1 ho).1
  have hg : ∀ (i : Nat) (o : Oper), ops[i]? = some o → o.guard = none := fun i o ho => by
    have := h1 o (hmemo i o ho)
    simpa using this
  have hac : ∀ (i : Nat) (o : Oper), ops[i]? = some o → ∀ e ∈ o.after, Region.binds .any e = true → e.on < i := fun i o ho e he hb => by
    have := h2 i (List.mem_range.2 (hlt i o ho))
    simp only [ho, Bool.and_eq_true] at this
    have := this.1
    rw [Array.all_eq_true'] at this
    simpa [hb] using this e he
  have hone : ∀ (i : Nat) (o : Oper), ops[i]? = some o → i ≠ L → ∃ d, o.dst = some d ∧ d < n ∧ ∀ (j : Nat) (p : Oper), ops[j]? = some p → p.dst = some d → j = i := fun i o ho hi => by
    have := h2 i (List.mem_range.2 (hlt i o ho))
    simp only [ho, if_neg hi, Bool.and_eq_true, List.all_eq_true] at this
    obtain ⟨_, h4, h5⟩ := this
    cases hd : o.dst with
    | none => rw [hd] at h4; cases h4
    | some d =>
      rw [hd] at h4
      refine ⟨d, rfl, by simpa using h4, fun j p hp hpd => ?_⟩
      have := h5 j (List.mem_range.2 (hlt j p hp))
      simp only [hp, Bool.or_eq_true, bne_iff_ne, ne_eq, beq_iff_eq] at this
      rcases this with h | h
      · exact absurd (hpd.trans hd.symm) h
      · exact h.symm
  have hLw : ∀ (o : Oper), ops[L]? = some o → ∀ j, j < ops.size → j ≠ L → depB o j = true := fun o ho j hj hjL => by
    have := h2 L (List.mem_range.2 hL)
    simp only [ho, if_true, Bool.and_eq_true, List.all_eq_true] at this
    have := this.2.1 j (List.mem_range.2 hj)
    simpa [hjL] using this
  have hLd : ∀ (o : Oper), ops[L]? = some o → o.dst = none := fun o ho => by
    have := h2 L (List.mem_range.2 hL)
    simp only [ho, if_true, Bool.and_eq_true] at this
    simpa using this.2.2
  have hfr : ∀ k, slotFree ops k = true → ∀ (i : Nat) (o : Oper), ops[i]? = some o → o.dst ≠ some k := by
    intro k hk i o ho
    unfold slotFree at hk
    rw [Array.all_eq_true'] at hk
    have := hk o (hmemo i o ho)
    simpa using this
  have hdepl : ∀ (o : Oper) (listed : Array Bool) (j : Nat), (∀ e ∈ o.after, Region.binds .any e = true → listed.getD e.on false = true) → depB o j = true → listed.getD j false = true := fun o listed j hd hj => by
    unfold depB at hj
    rw [Array.any_eq_true'] at hj
    obtain ⟨e, he, hb⟩ := hj
    simp only [Bool.and_eq_true, beq_iff_eq] at hb
    have := hd e he hb.1
    rwa [hb.2] at this
  refine wp_region_any hm (wpAny_invG (fun listed a w => LInv ops n L B u R listed a w ∨ (listed.size = ops.size ∧ (∀ i, i < ops.size → listed.getD i true = true) ∧ Q .normal a w)) (fun _ _ _ h => h.elim (·.ls) (·.1)) hac ?_ ?_ _ _ _ _ ?_ ?_)
  · intro listed a w hI hall
    rcases hI with hI | hI
    · have := hall L hL
      rw [hI.not] at this
      cases this
    · exact hI.2.2
  · intro i o listed a w ho hI hl hd
    rcases hI with hI | hI
    · unfold wpOp
      rw [ho]
      have hw : Region.wanted o (yielded ops a.tmps) = true := by simp [Region.wanted, hg i o ho]
      simp only [hw, if_true]
      left
      have hil : i < listed.size := by rw [hI.ls]; exact hlt i o ho
      by_cases hiL : i = L
      · subst hiL
        have hall : ∀ j, j < ops.size → j ≠ i → listed.getD j true = true := fun j hj hji => by
          have := hdepl o listed j hd (hLw o ho j hj hji)
          have hjl : j < listed.size := by rw [hI.ls]; exact hj
          simp only [Array.getD_eq_getD_getElem?, Array.getElem?_eq_getElem hjl, Option.getD_some] at this ⊢
          exact this
        refine Oper.wp_mono ?_ (hlast o a w ho hI.defs hI.gr hI.size hI.far (fun j p d hp hpd => hI.done j p d hp hpd (hall j (hlt j p hp) (fun e => by
          subst e
          rw [hLd p hp] at hpd
          cases hpd))))
        intro a' w' hQ
        refine .inr ⟨by simp [hI.ls], fun j hj => ?_, hQ⟩
        by_cases hji : j = i
        · subst hji
          simp [Array.getD_eq_getD_getElem?, hil]
        · have hji' : ¬ i = j := fun h => hji h.symm
          have := hall j hj hji
          simpa [Array.getD_eq_getD_getElem?, hji'] using this
      · have hS := allFrom_at hstep (i := i) (o := o) (by simpa using ho)
        rw [Nat.zero_add] at hS
        have hS := hS.resolve_left hiL
        have hs := hS a w hI.defs hI.gr hI.far (fun j p d hj hp hpd => hI.done j p d hp hpd (by
          have := hdepl o listed j hd hj
          have hjl : j < listed.size := by rw [hI.ls]; exact hlt j p hp
          simp only [Array.getD_eq_getD_getElem?, Array.getElem?_eq_getElem hjl, Option.getD_some] at this ⊢
          exact this))
        refine Oper.wp_mono ?_ hs
        rintro a' w' ⟨v, rfl, hgr, hR⟩
        obtain ⟨d, hod, hdB, huniq⟩ := hone i o ho hiL
        have hput : a.put o.dst v = { a with tmps := a.tmps.setIfInBounds d v } := by rw [hod]; rfl
        rw [hput]
        refine .inl ⟨by simp [hI.ls], ?_, by simp [hI.size], hI.defs, hI.gr.trans hgr, fun k hk => ?_, fun j p e hp hpe hlj => ?_⟩
        · have := hI.not
          simpa [Array.getD_eq_getD_getElem?, hiL] using this
        · rw [← hI.far k hk]
          have : d ≠ k := fun e => hfr k hk i o ho (by rw [hod, e])
          simp [Array.getD_eq_getD_getElem?, this]
        · by_cases hji : j = i
          · subst hji
            rw [ho] at hp; cases hp
            rw [hod] at hpe; cases hpe
            have : (a.tmps.setIfInBounds d v).getD d undef = v := by simp [Array.getD_eq_getD_getElem?, hI.size, hdB]
            rw [this]; exact hR
          · have hde : d ≠ e := fun h => hji (huniq j p hp (by rw [hpe, h]))
            have : (a.tmps.setIfInBounds d v).getD e undef = a.tmps.getD e undef := by simp [Array.getD_eq_getD_getElem?, hde]
            rw [this]
            refine hmono _ _ _ _ (hI.done j p e hp hpe ?_) hgr
            have hji' : ¬ i = j := fun h => hji h.symm
            simpa [Array.getD_eq_getD_getElem?, hji'] using hlj
    · have := hI.2.1 i (hlt i o ho)
      rw [hl] at this
      cases this
  · exact .inl ⟨by simp, by simp [Array.getD_eq_getD_getElem?, hL], hB, rfl, hu, fun _ _ => rfl, fun i o d ho _ hl => by
      have hi := hlt i o ho
      simp [Array.getD_eq_getD_getElem?, hi] at hl⟩
  · unfold unl
    refine Nat.le_trans (List.countP_le_length) ?_
    simp
end

end Go.Proofs.Ytdfanconjiiceaa
