/- A region that draws its order, within a round: a load that nothing but the last steps wait for, reads and quiet calls, one operation that makes memory, and the rest in a chain. It is walked in the order of the text. -/
import Derived.Test.YtbideeajdhejoaaStillIn
namespace Go.Proofs.Ytbideeajdhejoaa

section
variable {F : Fence} {n : Nat} {P : Program} {ops : Array Oper} {md : Region.Mode} {w : World}

/-- As 'sinkB', but for the first operation. -/
def sinkL (md : Region.Mode) (ops : Array Oper) (n : Nat) : Bool :=
  (List.range n).all fun i => i == 0 || (List.range (n + 1)).any fun j => decide (i < j) && Region.waitsFor md ops j i

/-- Whatever is listed, what it waits for is. -/
def ClosedL (md : Region.Mode) (ops : Array Oper) (listed : Array Bool) : Prop :=
  ∀ j oj, ops[j]? = some oj → listed.getD j false = true → ∀ e ∈ oj.after, Region.binds md e = true → listed.getD e.on false = true
theorem ClosedL.set {i : Nat} {listed : Array Bool} (inv : ClosedL md ops listed) (hi : i ∈ Region.ready md ops listed) : ClosedL md ops (listed.setIfInBounds i true) := by
  obtain ⟨_, oi, hoi, hall⟩ := mem_ready.1 hi
  intro j oj hj hl e he hb
  by_cases hij : i = j
  · subst hij
    have : oj = oi := Option.some.inj (hj.symm.trans hoi)
    subst this
    exact getD_set_true (hall e he hb)
  · rw [getD_set_ne false hij] at hl
    exact getD_set_true (inv j oj hj hl e he hb)

theorem tail_waitsL {n : Nat} {listed : Array Bool} (hs : sinkL md ops n = true) (hc : Region.chainB md ops n = true) (hn : n < ops.size) (inv : HeadInv md ops n listed) :
    ∀ (d i : Nat), n - i = d → 1 ≤ i → i < n → listed.getD i true = false → ∀ t, n ≤ t → t ∉ Region.ready md ops listed := by
  intro d
  induction d using Nat.strongRecOn with
  | _ d ih =>
    intro i hd h1i hi hun t ht hr
    obtain ⟨_, ot, hot, hall⟩ := mem_ready.1 hr
    have htlt : t < ops.size := (Array.getElem?_eq_some_iff.1 hot).1
    by_cases htn : t = n
    · subst htn
      have h1 := List.all_eq_true.1 hs i (List.mem_range.2 hi)
      simp only [Bool.or_eq_true, beq_iff_eq] at h1
      have h1 := h1.resolve_left (by omega)
      obtain ⟨j, hj, hj2⟩ := List.any_eq_true.1 h1
      simp only [Bool.and_eq_true, decide_eq_true_eq] at hj2
      obtain ⟨oj, hoj, e, he, hb, hon⟩ := Region.waitsFor_spec hj2.2
      have hjle : j ≤ t := by have := List.mem_range.1 hj; omega
      by_cases hjt : j = t
      · subst hjt
        have : oj = ot := Option.some.inj (hoj.symm.trans hot)
        subst this
        have h2 := hall e he hb
        rw [hon, getD_both hun] at h2
        cases h2
      · cases hl : listed.getD j false with
        | true =>
          have h2 := inv.closed j oj hoj hl e he hb
          rw [hon, getD_both hun] at h2
          cases h2
        | false =>
          have hjs : j < listed.size := by rw [inv.size]; omega
          exact ih (t - j) (by omega) j rfl (by omega) (by omega) (getD_in hjs hl) t (Nat.le_refl _) hr
    · have h1 := List.all_eq_true.1 hc t (List.mem_range.2 htlt)
      simp only [Bool.or_eq_true, decide_eq_true_eq] at h1
      rcases h1 with h1 | h1
      · omega
      · obtain ⟨o', ho', e, he, hb, hon⟩ := Region.waitsFor_spec h1
        have : o' = ot := Option.some.inj (ho'.symm.trans hot)
        subst this
        have h2 := hall e he hb
        rw [hon, getD_both (inv.tail (t - 1) (by omega) (by omega))] at h2
        cases h2

theorem ready_pos {i : Nat} {listed : Array Bool} (hz : listed.getD 0 false = true) (hr : i ∈ Region.ready md ops listed) : 1 ≤ i := by
  rcases Nat.eq_zero_or_pos i with rfl | h
  · have h0 := (mem_ready.1 hr).1
    rw [getD_both h0] at hz
    cases hz
  · exact h

theorem wpAnyL_firstL {n i : Nat} {oi : Oper} {v : Value} {L : Array Bool → Act → Prop} (hi : ops[i]? = some oi) (hsel : ∀ (j : Nat) (o : Oper) cs b, ops[j]? = some o → o.op ≠ .select cs b)
    (hs : sinkL md ops n = true) (hc : Region.chainB md ops n = true) (hn : n < ops.size) (hin : i < n)
    (hdone : ∀ listed a, L listed a → ∀ j ∈ Region.ready md ops listed, n ≤ j) :
    ∀ (f : Nat) (listed : Array Bool) (a : Act), HeadInv md ops n listed → listed.getD 0 false = true →
      (∀ j oj, ops[j]? = some oj → j ≠ i → listed.getD j true = false → (∀ e ∈ oj.after, Region.binds md e = true → e.on ≠ i) → oi.apart ops oj = true) →
      i ∈ Region.ready md ops listed → YieldsAt P ops w oi v a →
      wpAnyL P md ops w n L f (listed.setIfInBounds i true) (a.put oi.dst v) → wpAnyL P md ops w n L (f + 1) listed a := by
  intro f
  induction f with
  | zero =>
    intro listed a inv hz _ hr hy H
    have hun := (mem_ready.1 hr).1
    refine ⟨fun h => (by rw [h] at hr; cases hr), fun j hj => ?_⟩
    have hjn : j < n := by
      rcases Nat.lt_or_ge j n with h | h
      · exact h
      · exact absurd hj (tail_waitsL hs hc hn inv _ i rfl (ready_pos hz hr) hin hun j h)
    refine ⟨hjn, ?_⟩
    by_cases hji : j = i
    · subst hji; exact hy.stOp hi H
    · have := hdone _ _ H j (ready_mono hj hji)
      omega
  | succ f ih =>
    intro listed a inv hz hfree hr hy H
    have hun := (mem_ready.1 hr).1
    refine ⟨fun h => (by rw [h] at hr; cases hr), fun j hj => ?_⟩
    have hjn : j < n := by
      rcases Nat.lt_or_ge j n with h | h
      · exact h
      · exact absurd hj (tail_waitsL hs hc hn inv _ i rfl (ready_pos hz hr) hin hun j h)
    refine ⟨hjn, ?_⟩
    by_cases hji : j = i
    · subst hji; exact hy.stOp hi H
    · have h1 := (H.2 j (ready_mono hj hji)).2
      obtain ⟨hjun, oj, hoj, hall⟩ := mem_ready.1 hj
      have hnot : ∀ e ∈ oj.after, Region.binds md e = true → e.on ≠ i := fun e he hb heq => by
        have h1 := hall e he hb
        rw [heq, getD_both hun] at h1
        cases h1
      have h2 := stOp_put hoj (hfree j oj hoj hji hjun hnot) (fun cs b => hsel i oi cs b hi) (fun cs b => hsel j oj cs b hoj) hy h1
      have hfree' : ∀ k ok, ops[k]? = some ok → k ≠ i → (listed.setIfInBounds j true).getD k true = false →
          (∀ e ∈ ok.after, Region.binds md e = true → e.on ≠ i) → oi.apart ops ok = true := fun k ok hk hki hun hno => by
        refine hfree k ok hk hki ?_ hno
        by_cases hjk : j = k
        · subst hjk; exact hjun
        · rw [getD_set_ne true hjk] at hun; exact hun
      refine stOp_mono (fun a' h3 => ih (listed.setIfInBounds j true) a' (inv.set hj hjn) (getD_set_true hz) hfree' (ready_mono hr (Ne.symm hji)) h3.1 ?_) h2
      rw [Array.setIfInBounds_comm _ _ hji]
      exact h3.2

theorem wpAnyL_lexL {n g : Nat} {Lq : Act → Prop} (hsel : Region.noSelect ops = true) (hs : sinkL md ops n = true) (hc : Region.chainB md ops n = true) (hn : n < ops.size) :
    ∀ (l : List Oper) (k : Nat) (listed : Array Bool) (a : Act), (∀ j, j < l.length → l[j]? = ops[k + j]?) → k + l.length = n → HeadInv md ops n listed → listed.getD 0 false = true →
    Region.lexHead md ops g l.length k listed = true → wpStill P ops w Lq l a →
    wpAnyL P md ops w n (fun listed' a' => Region.seqB md ops g n listed' = true ∧ HeadInv md ops n listed' ∧ Lq a') l.length listed a
  | [], k, listed, a, _, hk, inv, _, hB, h => by
    have : k = n := by simpa using hk
    subst this
    exact ⟨by simpa [Region.lexHead] using hB, inv, h⟩
  | o :: l, k, listed, a, hl, hk, inv, hz, hB, h => by
    have h0 : ops[k]? = some o := by simpa using (hl 0 (by simp)).symm
    simp only [List.length_cons, Region.lexHead, Bool.and_eq_true] at hB
    obtain ⟨⟨hr, hf⟩, hB'⟩ := hB
    have hkn : k < n := by simp only [List.length_cons] at hk; omega
    have hr' : k ∈ Region.ready md ops listed := by simpa using hr
    have hst : stOp P ops w k (wpStill P ops w Lq l) a := by unfold stOp; simp only [h0]; exact h
    obtain ⟨v, hy, hK⟩ := yieldsAt_of_stOp h0 hst
    exact wpAnyL_firstL h0 (Region.noSelect_spec hsel) hs hc hn hkn (fun listed' a' hL => seqB_ready hL.1) l.length listed a inv hz (Region.free_spec h0 hf) hr' hy
      (wpAnyL_lexL hsel hs hc hn l (k + 1) _ _ (fun j hj => by have := hl (j + 1) (by simp; omega); simpa [Nat.add_assoc, Nat.add_comm 1 j] using this) (by simp only [List.length_cons] at hk; omega) (inv.set hr' hkn) (getD_set_true hz) hB' hK)

/-- As 'wpAnyIn', and between any two operations the world is as J says of what has been done. -/
def wpAnyInJ (F : Fence) (n : Nat) (P : Program) (md : Region.Mode) (ops : Array Oper) (J : Array Bool → World → Prop) (Q : Exit → Act → World → Prop) : Nat → Array Bool → Act → World → Prop
  | 0, listed, a, w => J listed w ∧ Region.ready md ops listed = [] ∧ Q .normal a w
  | fuel + 1, listed, a, w =>
    J listed w ∧ (Region.ready md ops listed = [] → Q .normal a w) ∧
    ∀ i ∈ Region.ready md ops listed, wpOpIn F n P ops Q i (wpAnyInJ F n P md ops J Q fuel (listed.setIfInBounds i true)) a w

theorem wpAnyIn_of_J {J : Array Bool → World → Prop} {Q : Exit → Act → World → Prop} : ∀ (fuel : Nat) (listed : Array Bool) (a : Act) (w : World), wpAnyInJ F n P md ops J Q fuel listed a w → wpAnyIn F n P md ops Q fuel listed a w
  | 0, _, _, _, h => h.2
  | fuel + 1, _, _, _, h => ⟨h.2.1, fun i hi => wpOpIn_mono (fun _ _ h' => wpAnyIn_of_J fuel _ _ _ h') (h.2.2 i hi)⟩

/-- It yields v wherever the world is as J says, so long as it has not been done. -/
def YieldsJ (P : Program) (md : Region.Mode) (ops : Array Oper) (J : Array Bool → World → Prop) (i : Nat) (o : Oper) (v : Value) (a : Act) : Prop :=
  Region.wanted o (yielded ops a.tmps) = true ∧ ∀ listed w, ClosedL md ops listed → listed.getD i true = false → J listed w → (execOp a.eval o).run P w = .ok (.value v) w

theorem YieldsJ.of_same {J : Array Bool → World → Prop} {i : Nat} {o : Oper} {v : Value} {a a' : Act} (hy : YieldsJ P md ops J i o v a) (he : execOp a'.eval o = execOp a.eval o)
    (hw : Region.wanted o (yielded ops a'.tmps) = Region.wanted o (yielded ops a.tmps)) : YieldsJ P md ops J i o v a' := by
  unfold YieldsJ at *
  rw [he, hw]
  exact hy

theorem wpOpIn_putJ (hF : Lets F) (hd : noDefer ops) {J : Array Bool → World → Prop} {i j : Nat} {oi oj : Oper} {v : Value} {Q : Exit → Act → World → Prop} (hj : ops[j]? = some oj) (hap : oi.apart ops oj = true)
    (hsi : ∀ cs b, oi.op ≠ .select cs b) (hsj : ∀ cs b, oj.op ≠ .select cs b)
    (hQ : ∀ c a w, Q (.panic c) (a.put oi.dst v) w → Q (.panic c) a w) {K : Act → World → Prop} {a : Act}
    (hy : YieldsJ P md ops J i oi v a) (h : wpOpIn F n P ops Q j K (a.put oi.dst v) w) :
    wpOpIn F n P ops Q j (fun a' w' => YieldsJ P md ops J i oi v a' ∧ K (a'.put oi.dst v) w') a w := by
  obtain ⟨h1, h2, h3⟩ := Oper.apart_spec hap
  have keep : ∀ (a : Act), YieldsJ P md ops J i oi v a → ∀ u, YieldsJ P md ops J i oi v (a.put oj.dst u) := fun a hy u =>
    hy.of_same (execOp_put oi hsi a oj.dst u h3) (wanted_put oi a oj.dst u h3)
  have keepD : ∀ d, YieldsJ P md ops J i oi v { a with defers := d :: a.defers } := fun d => hy.of_same rfl rfl
  have hdj := hd oj (Array.mem_of_getElem? hj)
  unfold wpOpIn at *
  simp only [hj] at *
  rw [wanted_put oj a oi.dst v h1] at h
  split
  · rename_i hw
    simp only [hw, if_true] at h
    unfold Oper.wpIn at *
    refine ⟨fun f _ => hF.fn f, ?_⟩
    have h := h.2
    rw [Oper.semAt_eq _ _ _ hdj, execOp_put oj hsj a oi.dst v h1] at h
    rw [Oper.semAt_eq _ _ _ hdj]
    generalize (execOp a.eval oj).run P w = r at *
    cases r with
    | ok x w' =>
      cases x <;> simp only [Oper.uponIn] at h ⊢
      case value u => exact ⟨keep a hy u, by rw [← Act.put_comm a v u h2]; exact h⟩
      case skip => exact ⟨keep a hy _, by rw [← Act.put_comm a v undef h2]; exact h⟩
      case defer d =>
        refine ⟨keep _ (keepD d) _, ?_⟩
        rw [← Act.put_comm _ v undef h2, ← Act.put_defers]
        exact h
      case enter f args =>
        refine ⟨h.1, CallsIn.mono h.2 fun e w'' he => ?_⟩
        cases e with
        | returned u => exact ⟨keep a hy u, by rw [← Act.put_comm a v u h2]; exact he⟩
        | panicked c => exact hQ _ _ _ he
        | outgrown => exact he
      case row row args => exact ⟨h.1, RowsIn.mono h.2 fun u w'' he => ⟨keep a hy u, by rw [← Act.put_comm a v u h2]; exact he⟩⟩
      case round l f tmps assign body =>
        refine ⟨h.1, RoundIn.mono h.2 fun e w'' he => ?_⟩
        cases e with
        | returned u => exact ⟨keep a hy u, by rw [← Act.put_comm a v u h2]; exact he⟩
        | panicked c => exact hQ _ _ _ he
        | outgrown => exact he
    | halt x w' =>
      cases x <;> simp only [Oper.uponIn] at h ⊢
      case panic u => exact hQ _ _ _ h
  · rename_i hw
    simp only [hw] at h
    exact ⟨fun f _ => hF.fn f, keep a hy _, by rw [← Act.put_comm a v undef h2]; exact h.2⟩

theorem wpAnyInJ_first (hF : Lets F) (hd : noDefer ops) {J : Array Bool → World → Prop} {Q : Exit → Act → World → Prop} {i : Nat} {oi : Oper} {v : Value} (hi : ops[i]? = some oi) (hsel : ∀ (j : Nat) (o : Oper) cs b, ops[j]? = some o → o.op ≠ .select cs b)
    (hQ : ∀ c a w, Q (.panic c) (a.put oi.dst v) w → Q (.panic c) a w) (hJm : ∀ listed w, J (listed.setIfInBounds i true) w → J listed w) :
    ∀ (fuel : Nat) (listed : Array Bool) (a : Act) (w : World), ClosedL md ops listed →
      (∀ j oj, ops[j]? = some oj → j ≠ i → listed.getD j true = false → (∀ e ∈ oj.after, Region.binds md e = true → e.on ≠ i) → oi.apart ops oj = true) →
      i ∈ Region.ready md ops listed → YieldsJ P md ops J i oi v a →
      wpAnyInJ F n P md ops J Q fuel (listed.setIfInBounds i true) (a.put oi.dst v) w → wpAnyInJ F n P md ops J Q (fuel + 1) listed a w := by
  have now : ∀ (fuel : Nat) (listed : Array Bool) (a : Act) (w : World), ClosedL md ops listed → i ∈ Region.ready md ops listed → YieldsJ P md ops J i oi v a → J listed w →
      wpAnyInJ F n P md ops J Q fuel (listed.setIfInBounds i true) (a.put oi.dst v) w → wpOpIn F n P ops Q i (wpAnyInJ F n P md ops J Q fuel (listed.setIfInBounds i true)) a w := fun fuel listed a w hcl hr hy hj H => by
    unfold wpOpIn
    simp only [hi, hy.1, if_true, Oper.wpIn]
    rw [Oper.semAt_eq _ _ _ (hd oi (Array.mem_of_getElem? hi)), hy.2 listed w hcl (mem_ready.1 hr).1 hj]
    exact ⟨fun f _ => hF.fn f, H⟩
  intro fuel
  induction fuel with
  | zero =>
    intro listed a w hcl _ hr hy H
    have hj := hJm _ _ H.1
    refine ⟨hj, fun h => (by rw [h] at hr; cases hr), fun j hjr => ?_⟩
    by_cases hji : j = i
    · subst hji; exact now 0 listed a w hcl hr hy hj H
    · have := ready_mono hjr hji
      rw [H.2.1] at this
      cases this
  | succ fuel ih =>
    intro listed a w hcl hfree hr hy H
    have hj := hJm _ _ H.1
    refine ⟨hj, fun h => (by rw [h] at hr; cases hr), fun j hjr => ?_⟩
    by_cases hji : j = i
    · subst hji; exact now (fuel + 1) listed a w hcl hr hy hj H
    · have h1 := H.2.2 j (ready_mono hjr hji)
      obtain ⟨hjun, oj, hoj, hall⟩ := mem_ready.1 hjr
      have hnot : ∀ e ∈ oj.after, Region.binds md e = true → e.on ≠ i := fun e he hb heq => by
        have h1 := hall e he hb
        have h0 := (mem_ready.1 hr).1
        rw [heq, getD_both h0] at h1
        cases h1
      have h2 := wpOpIn_putJ hF hd hoj (hfree j oj hoj hji hjun hnot) (fun cs b => hsel i oi cs b hi) (fun cs b => hsel j oj cs b hoj) hQ hy h1
      have hfree' : ∀ k ok, ops[k]? = some ok → k ≠ i → (listed.setIfInBounds j true).getD k true = false →
          (∀ e ∈ ok.after, Region.binds md e = true → e.on ≠ i) → oi.apart ops ok = true := fun k ok hk hki hun hno => by
        refine hfree k ok hk hki ?_ hno
        by_cases hjk : j = k
        · subst hjk; exact hjun
        · rw [getD_set_ne true hjk] at hun; exact hun
      refine wpOpIn_mono (fun a' w' h3 => ih (listed.setIfInBounds j true) a' w' (hcl.set hjr) hfree' (ready_mono hr (Ne.symm hji)) h3.1 ?_) h2
      rw [Array.setIfInBounds_comm _ _ hji]
      exact h3.2

theorem wpAnyInJ_of_head (hF : Lets F) (hd : noDefer ops) {J : Array Bool → World → Prop} {k g : Nat} {L : Array Bool → Act → Prop} {Q' : Exit → Act → World → Prop} (hJ : ∀ listed, J listed w) (hL : ∀ listed a, L listed a → wpAnyInJ F n P md ops J Q' g listed a w) :
    ∀ (f : Nat) (listed : Array Bool) (a : Act), wpAnyL P md ops w k L f listed a → wpAnyInJ F n P md ops J Q' (f + g) listed a w
  | 0, listed, a, h => by rw [Nat.zero_add]; exact hL _ _ h
  | f + 1, listed, a, h => by
    rw [show f + 1 + g = (f + g) + 1 by omega]
    exact ⟨hJ listed, fun h0 => absurd h0 h.1, fun i hi => wpOpIn_of_stOp hF hd (fun a' h' => wpAnyInJ_of_head hF hd hJ hL f _ a' h') (h.2 i hi).2⟩

/-- The world is good until operation m has been done. -/
def JG (m : Nat) (good : World → Prop) (listed : Array Bool) (w : World) : Prop := listed.getD m false = true ∨ good w

theorem wpAnyInJ_tail {m : Nat} {good : World → Prop} {Q' : Exit → Act → World → Prop} : ∀ (l : List Oper) (k : Nat) (listed : Array Bool) (a : Act) (w : World), (∀ j, l[j]? = ops[k + j]?) → listed.getD m false = true →
    Region.seqB md ops l.length k listed = true → wpListIn F n P ops Q' l a w → wpAnyInJ F n P md ops (JG m good) Q' l.length listed a w
  | [], _, _, _, _, _, hm, hB, h => ⟨.inl hm, by simpa [Region.seqB] using hB, h⟩
  | o :: l, k, listed, a, w, hl, hm, hB, h => by
    have h0 : ops[k]? = some o := by simpa using (hl 0).symm
    simp only [List.length_cons, Region.seqB, Bool.and_eq_true, decide_eq_true_eq] at hB
    refine ⟨.inl hm, fun h1 => (by rw [hB.1] at h1; cases h1), fun i hi => ?_⟩
    rw [hB.1] at hi
    have hik : i = k := by simpa using hi
    subst hik
    have hw : wpOpIn F n P ops Q' i (wpListIn F n P ops Q' l) a w := by unfold wpOpIn; simp only [h0]; exact h
    exact wpOpIn_mono (fun a' w' h' => wpAnyInJ_tail l (i + 1) _ a' w' (fun j => by have := hl (j + 1); simpa [Nat.add_assoc, Nat.add_comm 1 j] using this) (getD_set_true hm) hB.2 h') hw

theorem wpAnyInJ_end {m : Nat} {good : World → Prop} {Q' : Exit → Act → World → Prop} (o : Oper) (l : List Oper) (listed : Array Bool) (a : Act) (w : World) (hl : ∀ j, (o :: l)[j]? = ops[m + j]?) (hm : m < listed.size) (hg : good w)
    (hB : Region.seqB md ops (o :: l).length m listed = true) (h : wpListIn F n P ops Q' (o :: l) a w) : wpAnyInJ F n P md ops (JG m good) Q' (o :: l).length listed a w := by
  have h0 : ops[m]? = some o := by simpa using (hl 0).symm
  simp only [List.length_cons, Region.seqB, Bool.and_eq_true, decide_eq_true_eq] at hB
  refine ⟨.inr hg, fun h1 => (by rw [hB.1] at h1; cases h1), fun i hi => ?_⟩
  rw [hB.1] at hi
  have hik : i = m := by simpa using hi
  subst hik
  have hw : wpOpIn F n P ops Q' i (wpListIn F n P ops Q' l) a w := by unfold wpOpIn; simp only [h0]; exact h
  exact wpOpIn_mono (fun a' w' h' => wpAnyInJ_tail l (i + 1) _ a' w' (fun j => by have := hl (j + 1); simpa [Nat.add_assoc, Nat.add_comm 1 j] using this) (by simp [hm]) hB.2 h') hw

/-- By program: operation 0 may be taken first, and is waited for by operation k + 1; the others up to k come in the order of the text, and from k on they wait for each other. -/
def lateB (ops : Array Oper) (k : Nat) : Bool :=
  Region.noSelect ops && decide (1 ≤ k ∧ k + 1 < ops.size) && sinkL .any ops k && Region.chainB .any ops k && (Region.ready .any ops (Array.replicate ops.size false)).contains 0 && Region.free .any ops (Array.replicate ops.size false) 0 &&
  Region.waitsFor .any ops (k + 1) 0 && Region.lexHead .any ops (ops.size - k) (k - 1) 1 ((Array.replicate ops.size false).setIfInBounds 0 true)

theorem wpIn_region_late (hF : Lets F) {id : Nat} {Q : Exit → Act → World → Prop} {a : Act} {o0 ok om : Oper} {l1 l2 : List Oper} (good : World → Prop) (v : Value) (k : Nat) (hk : l1.length + 1 = k) (hm : P.follows .mixedOrders = true)
    (hB : lateB (o0 :: (l1 ++ ok :: om :: l2)).toArray k = true) (hdf : noDeferB (o0 :: (l1 ++ ok :: om :: l2)).toArray = true)
    (hQ : ∀ c a w, Q (.panic c) (a.put o0.dst v) w → Q (.panic c) a w) (hg : good w.drew) (h0g : o0.guard = none) (hkg : ok.guard = none) (hv : ∀ w', good w' → (execOp a.eval o0).run P w' = .ok (.value v) w')
    (h : wpStill P (o0 :: (l1 ++ ok :: om :: l2)).toArray w.drew (fun a' => ok.wpIn F n P a' w.drew (fun a'' w'' => good w'' ∧ wpListIn F n P (o0 :: (l1 ++ ok :: om :: l2)).toArray Q (om :: l2) a'' w'') Q) l1 (a.put o0.dst v)) :
    (Code.region id (o0 :: (l1 ++ ok :: om :: l2)).toArray true).wpIn F n P Q a w := by
  obtain ⟨L, hL⟩ : ∃ L, o0 :: (l1 ++ ok :: om :: l2) = L := ⟨_, rfl⟩
  rw [hL] at hB hdf h ⊢
  have hLl : L.length = k + 2 + l2.length := by rw [← hL]; simp; omega
  simp only [lateB, Bool.and_eq_true, decide_eq_true_eq, List.size_toArray] at hB
  obtain ⟨⟨⟨⟨⟨⟨⟨hsel, hn1, hn2⟩, hs⟩, hc⟩, hr0⟩, hf0⟩, hw0⟩, hlex⟩ := hB
  have hd := noDefer_of hdf
  have g0 : L.toArray[0]? = some o0 := by rw [← hL]; simp
  have gk : L[k]? = some ok := by rw [← hL, show k = l1.length + 1 from hk.symm, List.getElem?_cons_succ, List.getElem?_append_right (by omega)]; simp
  have gl : ∀ j, (om :: l2)[j]? = L[k + 1 + j]? := fun j => by
    rw [← hL, show k + 1 + j = (l1.length + (j + 1)) + 1 from by omega, List.getElem?_cons_succ, List.getElem?_append_right (by omega), show l1.length + (j + 1) - l1.length = j + 1 from by omega, List.getElem?_cons_succ]
  have gh : ∀ j, j < l1.length → l1[j]? = L[1 + j]? := fun j hj => by
    rw [← hL, show 1 + j = j + 1 from by omega, List.getElem?_cons_succ, List.getElem?_append_left hj]
  obtain ⟨z, hz⟩ : ∃ z, Array.replicate L.length false = z := ⟨_, rfl⟩
  rw [hz] at hr0 hf0 hlex
  have zs : z.size = L.length := by rw [← hz]; simp
  have inv1 : HeadInv .any L.toArray k (z.setIfInBounds 0 true) := by
    refine ⟨by simp [zs], fun j oj hj hl e he hb => ?_, fun t ht ht2 => ?_⟩
    · by_cases h0j : 0 = j
      · subst h0j
        rw [g0] at hj
        cases hj
        obtain ⟨_, o', ho', hall⟩ := mem_ready.1 (show 0 ∈ Region.ready .any L.toArray z by simpa using hr0)
        rw [g0] at ho'
        cases ho'
        have := hall e he hb
        rw [← hz, getD_replicate_false] at this
        cases this
      · rw [getD_set_ne false h0j, ← hz, getD_replicate_false] at hl
        cases hl
    · rw [getD_set_ne true (by omega)]
      exact getD_in (by rw [zs]; simpa using ht2) (by rw [← hz]; exact getD_replicate_false _ _)
  have hz1 : (z.setIfInBounds 0 true).getD 0 false = true := by
    have : 0 < z.size := by rw [zs]; omega
    simp [this]
  have H := wpAnyL_lexL (md := .any) (g := L.length - k) (w := w.drew) (P := P) hsel hs hc (by simp; omega) l1 1 (z.setIfInBounds 0 true) (a.put o0.dst v) (fun j hj => by simpa using gh j hj) (by omega) inv1 hz1 (by rw [show l1.length = k - 1 from by omega]; exact hlex) h
  have H2 := wpAnyInJ_of_head (F := F) (n := n) hF hd (J := JG (k + 1) good) (Q' := Q) (g := L.length - k) (fun _ => .inr hg) (fun listed a' hL2 => by
    obtain ⟨hseq, hinv, hk2⟩ := hL2
    rw [show L.length - k = (om :: l2).length + 1 from by rw [hLl]; simp; omega] at hseq ⊢
    simp only [Region.seqB, Bool.and_eq_true, decide_eq_true_eq] at hseq
    refine ⟨.inr hg, fun h1 => (by rw [hseq.1] at h1; cases h1), fun i hi => ?_⟩
    rw [hseq.1] at hi
    have hik : i = k := by simpa using hi
    subst hik
    unfold wpOpIn
    simp only [List.getElem?_toArray, gk, Region.wanted, hkg, if_true]
    refine Oper.wpIn_mono (fun a'' w'' h3 => ?_) hk2
    exact wpAnyInJ_end om l2 _ a'' w'' (fun j => by simpa using gl j) (by simp [hinv.size]; omega) h3.1 hseq.2 h3.2) _ _ _ H
  have hJm : ∀ listed w, JG (k + 1) good (listed.setIfInBounds 0 true) w → JG (k + 1) good listed w := fun listed w hj => by
    rcases hj with hj | hj
    · rw [getD_set_ne false (by omega)] at hj
      exact .inl hj
    · exact .inr hj
  have hy : YieldsJ P .any L.toArray (JG (k + 1) good) 0 o0 v a := by
    refine ⟨by simp [Region.wanted, h0g], fun listed w' hcl hun hj => hv w' ?_⟩
    rcases hj with hj | hj
    · obtain ⟨om', hom, e, he, hb, hon⟩ := Region.waitsFor_spec hw0
      have := hcl _ om' hom hj e he hb
      rw [hon, getD_both hun] at this
      cases this
    · exact hj
  have hcl0 : ClosedL .any L.toArray z := fun j oj _ hl => by rw [← hz, getD_replicate_false] at hl; cases hl
  have H3 := wpAnyInJ_first hF hd (Q := Q) g0 (Region.noSelect_spec hsel) hQ hJm _ z a w.drew hcl0 (Region.free_spec g0 hf0) (by simpa using hr0) hy H2
  refine wpIn_region_any hm ?_
  have H4 := wpAnyIn_of_J _ _ _ _ H3
  rw [show l1.length + (L.length - k) + 1 = L.toArray.size from by simp; omega, ← hz] at H4
  simpa using H4
/-- The same, of a list that is written out. -/
theorem wpIn_region_late2 (hF : Lets F) {id : Nat} {Q : Exit → Act → World → Prop} {a : Act} {L : List Oper} {o0 ok om : Oper} (good : World → Prop) (v : Value) (k : Nat) (hk1 : 1 ≤ k) (g0 : L[0]? = some o0) (gk : L[k]? = some ok) (gm : L[k + 1]? = some om) (hm : P.follows .mixedOrders = true)
    (hB : lateB L.toArray k = true) (hdf : noDeferB L.toArray = true)
    (hQ : ∀ c a w, Q (.panic c) (a.put o0.dst v) w → Q (.panic c) a w) (hg : good w.drew) (h0g : o0.guard = none) (hkg : ok.guard = none) (hv : ∀ w', good w' → (execOp a.eval o0).run P w' = .ok (.value v) w')
    (h : wpStill P L.toArray w.drew (fun a' => ok.wpIn F n P a' w.drew (fun a'' w'' => good w'' ∧ wpListIn F n P L.toArray Q (L.drop (k + 1)) a'' w'') Q) ((L.take k).drop 1) (a.put o0.dst v)) :
    (Code.region id L.toArray true).wpIn F n P Q a w := by
  have hlt : k + 1 < L.length := (List.getElem?_eq_some_iff.1 gm).1
  have e2 : L.drop (k + 1) = om :: L.drop (k + 2) := by
    rw [List.drop_eq_getElem_cons hlt, (List.getElem?_eq_some_iff.1 gm).2]
  have e1 : L.drop k = ok :: om :: L.drop (k + 2) := by
    rw [List.drop_eq_getElem_cons (by omega), (List.getElem?_eq_some_iff.1 gk).2, e2]
  have hL : L = o0 :: ((L.take k).drop 1 ++ ok :: om :: L.drop (k + 2)) := by
    have e3 : L.take k ++ L.drop k = L := List.take_append_drop k L
    cases hLc : L with
    | nil => rw [hLc] at hlt; simp at hlt
    | cons x xs =>
      rw [hLc] at g0 e1 e3
      simp only [List.getElem?_cons_zero, Option.some.injEq] at g0
      subst g0
      obtain ⟨j, rfl⟩ : ∃ j, k = j + 1 := ⟨k - 1, by omega⟩
      rw [List.take_succ_cons, List.drop_succ_cons, List.drop_zero, ← e1]
      simp
  have H := wpIn_region_late (n := n) (P := P) (w := w) (id := id) (Q := Q) (a := a) (o0 := o0) (ok := ok) (om := om) (l1 := (L.take k).drop 1) (l2 := L.drop (k + 2)) hF good v k (by simp; omega) hm
  rw [← hL, ← e2] at H
  exact H hB hdf hQ hg h0g hkg hv h
end

end Go.Proofs.Ytbideeajdhejoaa
