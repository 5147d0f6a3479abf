/- A region that draws its order, with calls that write: one step for each operation, whatever the order; what all steps keep speaks of how much was spent. Nothing of the program. -/
import Derived.Test.YtmofoeljajdhmaaInvR
namespace Go.Proofs.Ytmofoeljajdhmaa
open Go.RowKit

theorem sum_upd (f f' : Nat → Nat) (i c : Nat) (hi : f' i = f i + c) (hne : ∀ j, j ≠ i → f' j = f j) : ∀ n, ((List.range n).map f').sum = ((List.range n).map f).sum + if i < n then c else 0
  | 0 => by simp
  | n + 1 => by
    have ih := sum_upd f f' i c hi hne n
    rw [List.range_succ, List.map_append, List.map_append, List.sum_append, List.sum_append, ih]
    simp only [List.map_cons, List.map_nil, List.sum_cons, List.sum_nil]
    by_cases h : n = i
    · subst h
      rw [hi]
      have h1 : ¬ n < n := by omega
      have h2 : n < n + 1 := by omega
      rw [if_neg h1, if_pos h2]; omega
    · rw [hne n h]
      by_cases h3 : i < n
      · have h4 : i < n + 1 := by omega
        rw [if_pos h3, if_pos h4]; omega
      · have h4 : ¬ i < n + 1 := by omega
        rw [if_neg h3, if_neg h4]; omega
theorem sum_le (f g : Nat → Nat) (h : ∀ j, f j ≤ g j) : ∀ n, ((List.range n).map f).sum ≤ ((List.range n).map g).sum
  | 0 => by simp
  | n + 1 => by
    have ih := sum_le f g h n
    rw [List.range_succ, List.map_append, List.map_append, List.sum_append, List.sum_append]
    simp only [List.map_cons, List.map_nil, List.sum_cons, List.sum_nil]
    have := h n
    omega

/-- What the listed operations spent. -/
def spent (cost : Nat → Nat) (listed : Array Bool) : Nat := ((List.range listed.size).map fun i => if listed.getD i false = true then cost i else 0).sum
def spentAll (cost : Nat → Nat) (n : Nat) : Nat := ((List.range n).map cost).sum
theorem spent_none (cost : Nat → Nat) (n : Nat) : spent cost (Array.replicate n false) = 0 := by
  unfold spent
  have : ∀ m, ((List.range m).map fun i => if (Array.replicate n false).getD i false = true then cost i else 0).sum = 0 := by
    intro m
    induction m with
    | zero => simp
    | succ m ih =>
      rw [List.range_succ, List.map_append, List.sum_append, ih]
      simp [Array.getD_eq_getD_getElem?, Array.getElem?_replicate]
      intro h1
      split at h1 <;> simp at h1
  exact this _
theorem spent_set {cost : Nat → Nat} {listed : Array Bool} {i : Nat} (hi : i < listed.size) (h : listed.getD i true = false) : spent cost (listed.setIfInBounds i true) = spent cost listed + cost i := by
  unfold spent
  rw [Array.size_setIfInBounds]
  have h0 : listed.getD i false = false := by
    simp only [Array.getD_eq_getD_getElem?, Array.getElem?_eq_getElem hi, Option.getD_some] at h ⊢
    exact h
  have := sum_upd (fun i => if listed.getD i false = true then cost i else 0) (fun j => if (listed.setIfInBounds i true).getD j false = true then cost j else 0) i (cost i)
    (by simp [h0, Array.getD_eq_getD_getElem?, hi]) (fun j hj => by
      have hj' : ¬ i = j := fun e => hj e.symm
      simp [Array.getD_eq_getD_getElem?, hj']) listed.size
  rw [this, if_pos hi]
theorem spent_le (cost : Nat → Nat) (listed : Array Bool) : spent cost listed ≤ spentAll cost listed.size := by
  unfold spent spentAll
  refine sum_le _ _ (fun j => ?_) _
  split <;> omega

section
variable {P : Program} {ops : Array Oper} {Q : Exit → Act → World → Prop} {md : Region.Mode}

structure JInv (ops : Array Oper) (B : Array Value) (u : World) (G : World → World → Prop) (R : Nat → Value → World → Prop) (cost : Nat → Nat) (J : Nat → World → Prop) (listed : Array Bool) (a : Act) (w : World) : Prop where
  ls : listed.size = ops.size
  size : a.tmps.size = B.size
  defs : a.defers = []
  gr : G u w
  far : ∀ k, (∀ (i : Nat) (o : Oper), ops[i]? = some o → o.dst ≠ some k) → a.tmps.getD k undef = B.getD k undef
  done : ∀ (i : Nat) (o : Oper) (d : Nat), ops[i]? = some o → o.dst = some d → listed.getD i true = true → R i (a.tmps.getD d undef) w
  kept : J (spent cost listed) w

/-- One operation's step. -/
def StepJ (P : Program) (Q : Exit → Act → World → Prop) (ops : Array Oper) (B : Array Value) (u : World) (G : World → World → Prop) (R : Nat → Value → World → Prop) (cost : Nat → Nat) (J : Nat → World → Prop) (i : Nat) (o : Oper) : Prop :=
  ∀ a w k, a.defers = [] → G u w → (∀ k, slotFree ops k = true → a.tmps.getD k undef = B.getD k undef) →
    (∀ (j : Nat) (p : Oper) (d : Nat), depB o j = true → ops[j]? = some p → p.dst = some d → R j (a.tmps.getD d undef) w) → J k w → k + cost i ≤ spentAll cost ops.size →
    o.wp P a w (fun a' w' => ∃ v, a' = a.put o.dst v ∧ G w w' ∧ R i v w' ∧ J (k + cost i) w') Q

theorem wp_region_jsteps {id : Nat} {B : Array Value} {u : World} (n : Nat) (hB : B.size = n) (hok : regOkB n ops = true) (G : World → World → Prop) (R : Nat → Value → World → Prop) (cost : Nat → Nat) (J : Nat → World → Prop) (hm : P.follows .mixedOrders = true)
    (htr : ∀ w1 w2 w3, G w1 w2 → G w2 w3 → G w1 w3)
    (hmono : ∀ i v w w', R i v w → G w w' → R i v w')
    (hend : ∀ a w, a.defers = [] → G u w → (∀ k, slotFree ops k = true → a.tmps.getD k undef = B.getD k undef) → (∀ (i : Nat) (o : Oper) (d : Nat), ops[i]? = some o → o.dst = some d → R i (a.tmps.getD d undef) w) → (∃ k, k ≤ spentAll cost ops.size ∧ J k w) → Q .normal a w)
    (hstep : AllFrom (StepJ P Q ops B u G R cost J) 0 ops.toList)
    (w : World) (hu : G u { w with drawn := w.drawn + 1 }) (hj : J 0 { w with drawn := w.drawn + 1 }) : (Code.region id ops true).wp P Q { tmps := B, defers := [] } w := by
  unfold regOkB at hok
  rw [Bool.and_eq_true, Array.all_eq_true', List.all_eq_true] at hok
  obtain ⟨h1, h2⟩ := hok
  have hmemo : ∀ (i : Nat) (o : Oper), ops[i]? = some o → o ∈ ops := fun i o ho => Array.mem_of_getElem? ho
  have h2' : ∀ (i : Nat) (o : Oper), ops[i]? = some o → (o.after.all (fun e => decide (e.on < i)) = true) ∧ ∀ (j : Nat) (p : Oper), ops[j]? = some p → p.dst = o.dst → j = i := by
    intro i o ho
    have := h2 i (List.mem_range.2 (Array.getElem?_eq_some_iff.1 ho).1)
    simp only [ho, Bool.and_eq_true, List.all_eq_true] at this
    refine ⟨this.1, fun j p hp hd => ?_⟩
    have := this.2 j (List.mem_range.2 (Array.getElem?_eq_some_iff.1 hp).1)
    simp only [hp, Bool.or_eq_true, bne_iff_ne, ne_eq, beq_iff_eq] at this
    rcases this with h | h
    · exact absurd hd h
    · exact h.symm
  have hfree : ∀ k, slotFree ops k = true → ∀ (i : Nat) (o : Oper), ops[i]? = some o → o.dst ≠ some k := by
    intro k hk i o ho
    unfold slotFree at hk
    rw [Array.all_eq_true'] at hk
    have := hk o (hmemo i o ho)
    simpa using this
  have hac : ∀ (i : Nat) (o : Oper), ops[i]? = some o → ∀ e ∈ o.after, e.on < i := by
    intro i o ho e he
    have := (h2' i o ho).1
    rw [Array.all_eq_true'] at this
    simpa using this e he
  have hg : ∀ (i : Nat) (o : Oper), ops[i]? = some o → o.guard = none := by
    intro i o ho
    have := h1 o (hmemo i o ho)
    simp only [Bool.and_eq_true, Option.isNone_iff_eq_none] at this
    exact this.1
  have hdst : ∀ (i : Nat) (o : Oper), ops[i]? = some o → ∃ d, o.dst = some d ∧ d < B.size ∧ ∀ (j : Nat) (p : Oper), ops[j]? = some p → p.dst = some d → j = i := by
    intro i o ho
    have := h1 o (hmemo i o ho)
    simp only [Bool.and_eq_true] at this
    cases hd : o.dst with
    | none => rw [hd] at this; simp at this
    | some d =>
      rw [hd] at this
      refine ⟨d, rfl, by rw [hB]; simpa using this.2, fun j p hp hpd => (h2' i o ho).2 j p hp (by rw [hpd, hd])⟩
  refine wp_region_any hm (wpAny_inv (JInv ops B u G R cost J) (fun _ _ _ h => h.ls) hac ?_ ?_ _ _ _ _ ?_ ?_)
  · intro listed a w hI hall
    refine hend a w hI.defs hI.gr (fun k hk => hI.far k (hfree k hk)) (fun i o d ho hd => hI.done i o d ho hd (hall i (Array.getElem?_eq_some_iff.1 ho).1)) ⟨_, ?_, hI.kept⟩
    have := spent_le cost listed
    rw [hI.ls] at this
    exact this
  · intro i o listed a w ho hI hl hd
    unfold wpOp
    rw [ho]
    have hw : Region.wanted o (yielded ops a.tmps) = true := by simp [Region.wanted, hg i o ho]
    simp only [hw, if_true]
    left
    have hil : i < listed.size := by rw [hI.ls]; exact (Array.getElem?_eq_some_iff.1 ho).1
    have hsp := spent_set (cost := cost) hil hl
    have hS := allFrom_at hstep (i := i) (o := o) (by simpa using ho)
    rw [Nat.zero_add] at hS
    have hs := hS a w (spent cost listed) hI.defs hI.gr (fun k hk => hI.far k (hfree k hk)) (fun j p d hj hp hpd => hI.done j p d hp hpd (by
      unfold depB at hj
      rw [Array.any_eq_true'] at hj
      obtain ⟨e, he, hb⟩ := hj
      simp only [Bool.and_eq_true, beq_iff_eq] at hb
      have := hd e he hb.1
      rw [hb.2] at this
      have hjl : j < listed.size := by rw [hI.ls]; exact (Array.getElem?_eq_some_iff.1 hp).1
      simp only [Array.getD_eq_getD_getElem?, Array.getElem?_eq_getElem hjl, Option.getD_some] at this ⊢
      exact this)) hI.kept (by
        have := spent_le cost (listed.setIfInBounds i true)
        rw [hsp, Array.size_setIfInBounds, hI.ls] at this
        exact this)
    refine Oper.wp_mono ?_ hs
    rintro a' w' ⟨v, rfl, hgr, hR, hJ⟩
    obtain ⟨d, hod, hdB, huniq⟩ := hdst i o ho
    have hput : a.put o.dst v = { a with tmps := a.tmps.setIfInBounds d v } := by rw [hod]; rfl
    rw [hput]
    refine ⟨by simp [hI.ls], by simp [hI.size], hI.defs, htr _ _ _ hI.gr hgr, fun k hk => ?_, fun j p e hp hpe hlj => ?_, by rw [hsp]; exact hJ⟩
    · rw [← hI.far k hk]
      have : d ≠ k := fun e => hk i o ho (by rw [hod, e])
      simp [Array.getD_eq_getD_getElem?, this]
    · by_cases hji : j = i
      · subst hji
        rw [ho] at hp; cases hp
        rw [hod] at hpe; cases hpe
        have : (a.tmps.setIfInBounds d v).getD d undef = v := by simp [Array.getD_eq_getD_getElem?, hI.size, hdB]
        rw [this]; exact hR
      · have hde : d ≠ e := fun h => hji (huniq j p hp (by rw [hpe, h]))
        have : (a.tmps.setIfInBounds d v).getD e undef = a.tmps.getD e undef := by simp [Array.getD_eq_getD_getElem?, hde]
        rw [this]
        refine hmono _ _ _ _ (hI.done j p e hp hpe ?_) hgr
        have hji' : ¬ i = j := fun h => hji h.symm
        simpa [Array.getD_eq_getD_getElem?, hji'] using hlj
  · exact ⟨by simp, rfl, rfl, hu, fun _ _ => rfl, fun i o d ho _ hl => by
      have hi := (Array.getElem?_eq_some_iff.1 ho).1
      simp [Array.getD_eq_getD_getElem?, hi] at hl, by rw [spent_none]; exact hj⟩
  · unfold unl
    refine Nat.le_trans (List.countP_le_length) ?_
    simp
end

end Go.Proofs.Ytmofoeljajdhmaa
