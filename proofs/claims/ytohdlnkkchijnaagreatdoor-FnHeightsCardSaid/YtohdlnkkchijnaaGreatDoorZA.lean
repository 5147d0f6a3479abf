/- 13 texts in one: InvR IntC Drw StrsF DrZ TakeC Whole SeqS SplitI TApp TText STxt STxtA. -/
import Derived.Orders
import Derived.Test.YtohdlnkkchijnaaGreatDoorGr
import Derived.Test.YtohdlnkkchijnaaGreatDoorPr
import Derived.IntWalk
import Derived.Below
import Derived.Test.YtohdlnkkchijnaaGreatDoorOwn
import Derived.Test.YtohdlnkkchijnaaGreatDoorTxt
import Derived.Test.YtohdlnkkchijnaaGreatDoorDig
import Derived.Test.YtohdlnkkchijnaaGreatDoorOne
import Derived.ProofKit
import Derived.Lib.SmallJoins
import Derived.Deep.Matrix
import Derived.SizedLaws
import Derived.Deep.WholeRow
import Derived.BigQuiet
import Derived.Deep.QuietTactic
import Derived.Test.YtohdlnkkchijnaaGreatDoorMach2
import Derived.Deep.RegionLaw
import Derived.Test.YtohdlnkkchijnaaGreatDoorInsI
import Derived.RangeFuncNested
import Derived.RangeFuncBound
import Derived.RangeFuncCalls
import Derived.RangeFuncLeaves
import Derived.Shelf.Abstract
import Derived.Shelf.RegionOpen
import Derived.WalkKit
import Derived.OwnWalkIn
import Derived.TacticsInMore
import Derived.LoopNIn
import Derived.LoopIn
import Derived.Test.YtohdlnkkchijnaaGreatDoorCutP
import Derived.Test.YtohdlnkkchijnaaGreatDoorSgn
import Derived.Test.YtohdlnkkchijnaaGreatDoorTReadL
import Derived.Test.YtohdlnkkchijnaaGreatDoorTSizeF
import Derived.Deep.AppendLies
import Derived.Deep.DeepCutAuto
import Derived.Lib.UnsafeStr
import Derived.Lib.SlBytesRow
import Derived.Test.YtohdlnkkchijnaaGreatDoorSSizeF
import Derived.Deep.RegionHeld3
import Derived.Laws.Concat
import Derived.Test.YtohdlnkkchijnaaGreatDoorTSignF
namespace Go.Proofs.YtohdlnkkchijnaaGreatDoor
/-! InvR -/
section
open Go.RowKit

theorem countP_lt {α : Type} {p q : α → Bool} : ∀ {l : List α} {i : α}, (∀ x ∈ l, p x = true → q x = true) → i ∈ l → q i = true → p i = false → l.countP p < l.countP q
  | a :: l, i, h, hi, hq, hp => by
    have hle : ∀ {m : List α}, (∀ x ∈ m, p x = true → q x = true) → m.countP p ≤ m.countP q := fun {m} hm => List.countP_mono_left hm
    rw [List.countP_cons, List.countP_cons]
    rcases List.mem_cons.1 hi with rfl | hi
    · have := hle (fun x hx => h x (List.mem_cons_of_mem _ hx))
      simp [hq, hp]; omega
    · have := countP_lt (fun x hx => h x (List.mem_cons_of_mem _ hx)) hi hq hp
      have h2 := h a (List.mem_cons_self)
      cases hpa : p a
      · simp; omega
      · rw [h2 hpa]; simp; omega

/-- How many operations are not listed. -/
def unl (listed : Array Bool) : Nat := (List.range listed.size).countP fun i => !listed.getD i true
theorem unl_set {listed : Array Bool} {i : Nat} (hi : i < listed.size) (h : listed.getD i true = false) : unl (listed.setIfInBounds i true) < unl listed := by
  unfold unl
  rw [Array.size_setIfInBounds]
  refine countP_lt (i := i) (fun x hx hp => ?_) (List.mem_range.2 hi) (by simp [h]) (by simp [Array.getD, hi])
  simp only [Array.getD_eq_getD_getElem?, Array.getElem?_setIfInBounds] at hp ⊢
  by_cases e : i = x
  · subst e; simp [hi] at hp
  · simpa [e] using hp

section
variable {P : Program} {ops : Array Oper} {Q : Exit → Act → World → Prop} {md : Region.Mode}

theorem wpAny_inv (Inv : Array Bool → Act → World → Prop) (hsz : ∀ listed a w, Inv listed a w → listed.size = ops.size)
    (hac : ∀ (i : Nat) (o : Oper), ops[i]? = some o → ∀ e ∈ o.after, e.on < i)
    (hend : ∀ listed a w, Inv listed a w → (∀ i, i < ops.size → listed.getD i true = true) → Q .normal a w)
    (hstep : ∀ (i : Nat) (o : Oper) listed a w, ops[i]? = some o → Inv listed a w → listed.getD i true = false → (∀ e ∈ o.after, Region.binds md e = true → listed.getD e.on false = true) → wpOp P ops Q i (Inv (listed.setIfInBounds i true)) a w) :
    ∀ (fuel : Nat) (listed : Array Bool) (a : Act) (w : World), Inv listed a w → unl listed ≤ fuel → wpAny P md ops Q fuel listed a w := by
  have hready : ∀ (listed : Array Bool), listed.size = ops.size → Region.ready md ops listed = [] → ∀ i, i < ops.size → listed.getD i true = true := by
    intro listed hs hr i
    induction i using Nat.strongRecOn with
    | _ i ih =>
      intro hi
      cases hl : listed.getD i true with
      | true => rfl
      | false =>
        exfalso
        have hmem : i ∈ Region.ready md ops listed := by
          unfold Region.ready
          refine List.mem_filter.2 ⟨List.mem_range.2 hi, ?_⟩
          obtain ⟨o, ho⟩ : ∃ o, ops[i]? = some o := ⟨_, Array.getElem?_eq_getElem hi⟩
          simp only [hl, ho, Option.map_some, Option.getD_some, Bool.not_false, Bool.true_and]
          rw [Array.all_eq_true']
          intro e he
          have hlt := hac i o ho e he
          have := ih e.on hlt (by omega)
          have h2 : listed.getD e.on false = true := by
            simp only [Array.getD_eq_getD_getElem?, Array.getElem?_eq_getElem (show e.on < listed.size by omega), Option.getD_some] at this ⊢
            exact this
          simp [h2]
        rw [hr] at hmem
        cases hmem
  have hmem : ∀ (listed : Array Bool) (i : Nat), i ∈ Region.ready md ops listed → ∃ o, ops[i]? = some o ∧ listed.getD i true = false ∧ (∀ e ∈ o.after, Region.binds md e = true → listed.getD e.on false = true) := by
    intro listed i hi
    unfold Region.ready at hi
    obtain ⟨h1, h2⟩ := List.mem_filter.1 hi
    obtain ⟨o, ho⟩ : ∃ o, ops[i]? = some o := ⟨_, Array.getElem?_eq_getElem (List.mem_range.1 h1)⟩
    simp only [ho, Option.map_some, Option.getD_some, Bool.and_eq_true, Bool.not_eq_true', Array.all_eq_true'] at h2
    refine ⟨o, ho, h2.1, fun e he hb => ?_⟩
    have := h2.2 e he
    simpa [hb] using this
  intro fuel
  induction fuel with
  | zero =>
    intro listed a w hI hu
    have hall : ∀ i, i < ops.size → listed.getD i true = true := by
      intro i hi
      cases hl : listed.getD i true with
      | true => rfl
      | false =>
        have := unl_set (listed := listed) (i := i) (by rw [hsz _ _ _ hI]; exact hi) hl
        omega
    refine ⟨?_, hend _ _ _ hI hall⟩
    cases hr : Region.ready md ops listed with
    | nil => rfl
    | cons i l =>
      exfalso
      obtain ⟨o, ho, hl, _⟩ := hmem listed i (by rw [hr]; simp)
      have := hall i (Array.getElem?_eq_some_iff.1 ho).1
      rw [hl] at this; cases this
  | succ fuel ih =>
    intro listed a w hI hu
    refine ⟨fun hr => hend _ _ _ hI (hready listed (hsz _ _ _ hI) hr), fun i hi => ?_⟩
    obtain ⟨o, ho, hl, hd⟩ := hmem listed i hi
    refine wpOp_mono (fun a' w' hI' => ih _ a' w' hI' ?_) (hstep i o listed a w ho hI hl hd)
    have := unl_set (listed := listed) (i := i) (by rw [hsz _ _ _ hI]; exact (Array.getElem?_eq_some_iff.1 ho).1) hl
    omega

/-- What holds while a region runs: the slots that it does not write are as they were, the world has grown, and each operation that ran has answered as it is to. -/
structure RInv (ops : Array Oper) (B : Array Value) (u : World) (R : Nat → Value → World → Prop) (listed : Array Bool) (a : Act) (w : World) : Prop where
  ls : listed.size = ops.size
  size : a.tmps.size = B.size
  defs : a.defers = []
  gr : u.grownBy w none
  far : ∀ k, (∀ (i : Nat) (o : Oper), ops[i]? = some o → o.dst ≠ some k) → a.tmps.getD k undef = B.getD k undef
  done : ∀ (i : Nat) (o : Oper) (d : Nat), ops[i]? = some o → o.dst = some d → listed.getD i true = true → R i (a.tmps.getD d undef) w

/-- The law: one step for each operation. -/
theorem wp_region_inv {id : Nat} {B : Array Value} {u : World} (R : Nat → Value → World → Prop) (hm : P.follows .mixedOrders = true)
    (hmono : ∀ i v w w', R i v w → w.grownBy w' none → R i v w')
    (hac : ∀ (i : Nat) (o : Oper), ops[i]? = some o → ∀ e ∈ o.after, e.on < i)
    (hg : ∀ (i : Nat) (o : Oper), ops[i]? = some o → o.guard = none)
    (hdst : ∀ (i : Nat) (o : Oper), ops[i]? = some o → ∃ d, o.dst = some d ∧ d < B.size ∧ ∀ (j : Nat) (p : Oper), ops[j]? = some p → p.dst = some d → j = i)
    (hend : ∀ a w, RInv ops B u R (Array.replicate ops.size true) a w → Q .normal a w)
    (hstep : ∀ (i : Nat) (o : Oper) a w, ops[i]? = some o → a.defers = [] → u.grownBy w none → (∀ k, (∀ (i : Nat) (o : Oper), ops[i]? = some o → o.dst ≠ some k) → a.tmps.getD k undef = B.getD k undef) →
      (∀ (j : Nat) (p : Oper) (d : Nat), (∃ e ∈ o.after, Region.binds .any e = true ∧ e.on = j) → ops[j]? = some p → p.dst = some d → R j (a.tmps.getD d undef) w) →
      o.wp P a w (fun a' w' => ∃ v, a' = a.put o.dst v ∧ w.grownBy w' none ∧ R i v w') Q)
    (w : World) (hu : u.grownBy { w with drawn := w.drawn + 1 } none) : (Code.region id ops true).wp P Q { tmps := B, defers := [] } w := by
  refine wp_region_any hm (wpAny_inv (RInv ops B u R) (fun _ _ _ h => h.ls) hac ?_ ?_ _ _ _ _ ?_ ?_)
  · intro listed a w hI hall
    refine hend a w ⟨by simp, hI.size, hI.defs, hI.gr, hI.far, fun i o d ho hd _ => hI.done i o d ho hd (hall i (Array.getElem?_eq_some_iff.1 ho).1)⟩
  · intro i o listed a w ho hI hl hd
    unfold wpOp
    rw [ho]
    have hw : Region.wanted o (yielded ops a.tmps) = true := by simp [Region.wanted, hg i o ho]
    simp only [hw, if_true]
    left
    have hs := hstep i o a w ho hI.defs hI.gr hI.far (fun j p d ⟨e, he, hb, hj⟩ hp hpd => hI.done j p d hp hpd (by
      have := hd e he hb
      rw [hj] at this
      have hjl : j < listed.size := by rw [hI.ls]; exact (Array.getElem?_eq_some_iff.1 hp).1
      simp only [Array.getD_eq_getD_getElem?, Array.getElem?_eq_getElem hjl, Option.getD_some] at this ⊢
      exact this))
    refine Oper.wp_mono ?_ hs
    rintro a' w' ⟨v, rfl, hgr, hR⟩
    obtain ⟨d, hod, hdB, huniq⟩ := hdst i o ho
    have hil : i < listed.size := by rw [hI.ls]; exact (Array.getElem?_eq_some_iff.1 ho).1
    have hput : a.put o.dst v = { a with tmps := a.tmps.setIfInBounds d v } := by rw [hod]; rfl
    rw [hput]
    refine ⟨by simp [hI.ls], by simp [hI.size], hI.defs, hI.gr.trans hgr, fun k hk => ?_, fun j p e hp hpe hlj => ?_⟩
    · rw [← hI.far k hk]
      have : d ≠ k := fun e => hk i o ho (by rw [hod, e])
      simp [Array.getD_eq_getD_getElem?, this]
    · by_cases hji : j = i
      · subst hji
        rw [ho] at hp; cases hp
        rw [hod] at hpe; cases hpe
        have : (a.tmps.setIfInBounds d v).getD d undef = v := by simp [Array.getD_eq_getD_getElem?, hI.size, hdB]
        rw [this]; exact hR
      · have hde : d ≠ e := fun h => hji (huniq j p hp (by rw [hpe, h]))
        have : (a.tmps.setIfInBounds d v).getD e undef = a.tmps.getD e undef := by simp [Array.getD_eq_getD_getElem?, hde]
        rw [this]
        refine hmono _ _ _ _ (hI.done j p e hp hpe ?_) hgr
        have hji' : ¬ i = j := fun h => hji h.symm
        simpa [Array.getD_eq_getD_getElem?, hji'] using hlj
  · exact ⟨by simp, rfl, rfl, hu, fun _ _ => rfl, fun i o d ho _ hl => by
      have hi := (Array.getElem?_eq_some_iff.1 ho).1
      simp [Array.getD_eq_getD_getElem?, hi] at hl⟩
  · unfold unl
    refine Nat.le_trans (List.countP_le_length) ?_
    simp
/-- The closed facts on a region's operations. -/
def regOkB (n : Nat) (ops : Array Oper) : Bool :=
  ops.all (fun o => o.guard.isNone && (match o.dst with | some d => decide (d < n) | none => false)) &&
  (List.range ops.size).all fun i => match ops[i]? with
    | some o => o.after.all (fun e => decide (e.on < i)) && (List.range ops.size).all fun j => match ops[j]? with
      | some p => (p.dst != o.dst) || (i == j)
      | none => true
    | none => true
def slotFree (ops : Array Oper) (k : Nat) : Bool := ops.all fun o => o.dst != some k
def depB (o : Oper) (j : Nat) : Bool := o.after.any fun e => Region.binds .any e && (e.on == j)

/-- One operation's step. -/
def StepOk (P : Program) (Q : Exit → Act → World → Prop) (ops : Array Oper) (B : Array Value) (u : World) (R : Nat → Value → World → Prop) (i : Nat) (o : Oper) : Prop :=
  ∀ a w, a.defers = [] → u.grownBy w none → (∀ k, slotFree ops k = true → a.tmps.getD k undef = B.getD k undef) →
    (∀ (j : Nat) (p : Oper) (d : Nat), depB o j = true → ops[j]? = some p → p.dst = some d → R j (a.tmps.getD d undef) w) →
    o.wp P a w (fun a' w' => ∃ v, a' = a.put o.dst v ∧ w.grownBy w' none ∧ R i v w') Q
def AllFrom (S : Nat → Oper → Prop) : Nat → List Oper → Prop
  | _, [] => True
  | k, o :: l => S k o ∧ AllFrom S (k + 1) l
theorem allFrom_at {S : Nat → Oper → Prop} {l : List Oper} : ∀ {k i : Nat} {o : Oper}, AllFrom S k l → l[i]? = some o → S (k + i) o := by
  induction l with
  | nil => intro k i o _ h; simp at h
  | cons a l ih =>
    intro k i o h ho
    cases i with
    | zero => simp at ho; subst ho; exact h.1
    | succ i =>
      have := ih (k := k + 1) (i := i) h.2 (by simpa using ho)
      have e : k + (i + 1) = k + 1 + i := by omega
      rw [e]
      exact this

theorem wp_region_steps {id : Nat} {B : Array Value} {u : World} (n : Nat) (hB : B.size = n) (hok : regOkB n ops = true) (R : Nat → Value → World → Prop) (hm : P.follows .mixedOrders = true)
    (hmono : ∀ i v w w', R i v w → w.grownBy w' none → R i v w')
    (hend : ∀ a w, a.defers = [] → u.grownBy w none → (∀ k, slotFree ops k = true → a.tmps.getD k undef = B.getD k undef) → (∀ (i : Nat) (o : Oper) (d : Nat), ops[i]? = some o → o.dst = some d → R i (a.tmps.getD d undef) w) → Q .normal a w)
    (hstep : AllFrom (StepOk P Q ops B u R) 0 ops.toList)
    (w : World) (hu : u.grownBy { w with drawn := w.drawn + 1 } none) : (Code.region id ops true).wp P Q { tmps := B, defers := [] } w := by
  unfold regOkB at hok
  rw [Bool.and_eq_true, Array.all_eq_true', List.all_eq_true] at hok
  obtain ⟨h1, h2⟩ := hok
  have hmemo : ∀ (i : Nat) (o : Oper), ops[i]? = some o → o ∈ ops := fun i o ho => Array.mem_of_getElem? ho
  have h2' : ∀ (i : Nat) (o : Oper), ops[i]? = some o → (o.after.all (fun e => decide (e.on < i)) = true) ∧ ∀ (j : Nat) (p : Oper), ops[j]? = some p → p.dst = o.dst → j = i := by
    intro i o ho
    have := h2 i (List.mem_range.2 (Array.getElem?_eq_some_iff.1 ho).1)
    simp only [ho, Bool.and_eq_true, List.all_eq_true] at this
    refine ⟨this.1, fun j p hp hd => ?_⟩
    have := this.2 j (List.mem_range.2 (Array.getElem?_eq_some_iff.1 hp).1)
    simp only [hp, Bool.or_eq_true, bne_iff_ne, ne_eq, beq_iff_eq] at this
    rcases this with h | h
    · exact absurd hd h
    · exact h.symm
  have hfree : ∀ k, slotFree ops k = true → ∀ (i : Nat) (o : Oper), ops[i]? = some o → o.dst ≠ some k := by
    intro k hk i o ho
    unfold slotFree at hk
    rw [Array.all_eq_true'] at hk
    have := hk o (hmemo i o ho)
    simpa using this
  refine wp_region_inv R hm hmono ?_ ?_ ?_ ?_ ?_ w hu
  · intro i o ho e he
    have := (h2' i o ho).1
    rw [Array.all_eq_true'] at this
    simpa using this e he
  · intro i o ho
    have := h1 o (hmemo i o ho)
    simp only [Bool.and_eq_true, Option.isNone_iff_eq_none] at this
    exact this.1
  · intro i o ho
    have := h1 o (hmemo i o ho)
    simp only [Bool.and_eq_true] at this
    cases hd : o.dst with
    | none => rw [hd] at this; simp at this
    | some d =>
      rw [hd] at this
      refine ⟨d, rfl, by rw [hB]; simpa using this.2, fun j p hp hpd => (h2' i o ho).2 j p hp (by rw [hpd, hd])⟩
  · intro a w hI
    refine hend a w hI.defs hI.gr (fun k hk => hI.far k (hfree k hk)) (fun i o d ho hd => hI.done i o d ho hd ?_)
    have hi := (Array.getElem?_eq_some_iff.1 ho).1
    simp [Array.getD_eq_getD_getElem?, hi]
  · intro i o a w ho hd hg hf hdep
    have hS := allFrom_at hstep (i := i) (o := o) (by simpa using ho)
    rw [Nat.zero_add] at hS
    refine hS a w hd hg (fun k hk => hf k (hfree k hk)) (fun j p d hj hp hpd => hdep j p d ?_ hp hpd)
    unfold depB at hj
    rw [Array.any_eq_true'] at hj
    obtain ⟨e, he, hb⟩ := hj
    simp only [Bool.and_eq_true, beq_iff_eq] at hb
    exact ⟨e, he, hb.1, hb.2⟩
end
end

/-! IntC -/
section
open Go.RowKit

/-- The slice's cells are these ints. -/
def Ints (w : World) (A : Option Addr) (zs : List Int) : Prop :=
  0 < zs.length → ∃ b off, A = some ⟨b, off, none⟩ ∧ b < w.heap.size ∧ ∀ (j : Nat) (z : Int), zs[j]? = some z → w.cell? ⟨b, off + j, none⟩ = some (.int .i64 z)
theorem Ints.grown {w w' : World} {A : Option Addr} {zs : List Int} {row : Option Nat} (h : Ints w A zs) (hg : w.grownBy w' row) (hne : ∀ b off, A = some ⟨b, off, none⟩ → some b ≠ row) : Ints w' A zs := fun hl => by
  obtain ⟨b, off, rfl, hb, hc⟩ := h hl
  exact ⟨b, off, rfl, Nat.lt_of_lt_of_le hb hg.size, fun j z hj => hg.cell (hc j z hj) (hne b off rfl)⟩
theorem Ints.at_ {w : World} {A : Option Addr} {zs : List Int} {j : Nat} (h : Ints w A zs) (hj : j < zs.length) : ∃ b off, A = some ⟨b, off, none⟩ ∧ w.cell? ⟨b, off + j, none⟩ = some (.int .i64 zs[j]) := by
  obtain ⟨b, off, hA, _, hc⟩ := h (by omega)
  exact ⟨b, off, hA, hc j _ (List.getElem?_eq_getElem hj)⟩
theorem Ints.of_own {w : World} {base e : Nat} {A : Option Addr} {k c : Nat} {zs : List Int} (h : w.ownsRow base e 1 (.slice A k c) zs.length (zs.map (Value.int .i64))) : Ints w A zs := fun hl => by
  rcases h.2 with ⟨hv, hn⟩ | ⟨g, cap, cur, hv, _, hg, hnc, _, hcs, htake⟩
  · omega
  · cases hv
    refine ⟨g, 0, rfl, (Array.getElem?_eq_some_iff.1 hg).1, fun j z hj => ?_⟩
    have hjl : j < zs.length := by
      rcases Nat.lt_or_ge j zs.length with h | h
      · exact h
      · rw [List.getElem?_eq_none h] at hj; cases hj
    rw [Nat.zero_add, cell_of_row w g j _ _ (0, 0) hg]
    have : (cur.toList.take (zs.length * 1))[j]? = some (.int .i64 z) := by rw [htake, List.getElem?_map, hj]; rfl
    rw [List.getElem?_take, if_pos (by omega)] at this
    simpa using this
theorem infoJ : (Tryz.prog.info? 3).map (fun i => (i.zero, i.size, i.bytes)) = some (some (.int .i64 0), 1, 8) := by kernel_rfl
theorem addr_flat (b off i : Nat) : (⟨b, off, none⟩ : Addr).add i = ⟨b, off + i, none⟩ := by unfold Addr.add; split <;> simp_all
end

/-! Drw -/
section
open Go.RowKit

/-- Bytes that lie in memory. -/
def Byts (w : World) (A : Option Addr) (n : Nat) : Prop := 0 < n → ∃ b off, A = some ⟨b, off, none⟩ ∧ b < w.heap.size ∧ ∀ k, k < n → ∃ x : Int, w.cell? ⟨b, off + k, none⟩ = some (.int .u8 x) ∧ 0 ≤ x ∧ x ≤ 255
theorem Byts.grown {w w' : World} {A : Option Addr} {n : Nat} {row : Option Nat} (h : Byts w A n) (hg : w.grownBy w' row) (hne : 0 < n → ∀ b off, A = some ⟨b, off, none⟩ → some b ≠ row) : Byts w' A n := fun hl => by
  obtain ⟨b, off, rfl, hb, hc⟩ := h hl
  exact ⟨b, off, rfl, Nat.lt_of_lt_of_le hb hg.size, fun k hk => by
    obtain ⟨x, h1, h2⟩ := hc k hk
    exact ⟨x, hg.cell h1 (hne hl b off rfl), h2⟩⟩
/-- The random source at block g: its bytes and its place. -/
structure Rd13 (w : World) (g : Nat) (A : Option Addr) (n c p : Nat) : Prop where
  box : Pr w g 79 (.slice A n c) (.int .i64 (p : Int))
  bytes : Byts w A n
  apart : 0 < n → ∀ b off, A = some ⟨b, off, none⟩ → b ≠ g
theorem Rd13.grown {w w' : World} {g n c p : Nat} {A : Option Addr} {row : Option Nat} (h : Rd13 w g A n c p) (hg : w.grownBy w' row) (hne : some g ≠ row) (hne2 : 0 < n → ∀ b off, A = some ⟨b, off, none⟩ → some b ≠ row) : Rd13 w' g A n c p :=
  ⟨h.box.grown hg hne, h.bytes.grown hg hne2, h.apart⟩
theorem Rd13.lt {w : World} {g n c p : Nat} {A : Option Addr} (h : Rd13 w g A n c p) : g < w.heap.size := h.box.lt

theorem xor_pos (y : Int) (h0 : 0 ≤ y) (h1 : y ≤ 1000000000) : 0 ≤ bits BinOp.xor IntKind.i64 y (y / 64) := by
  obtain ⟨a, rfl⟩ : ∃ a : Nat, y = (a : Int) := ⟨y.toNat, by omega⟩
  obtain ⟨b, hb⟩ : ∃ b : Nat, (a : Int) / 64 = (b : Int) := ⟨((a : Int) / 64).toNat, by omega⟩
  rw [hb]
  have hx : a ^^^ b < 2 ^ 62 := Nat.xor_lt_two_pow (by omega) (by omega)
  have h1 : (BitVec.ofInt 64 (a : Int)).toNat = a := by
    rw [BitVec.ofInt_natCast, BitVec.toNat_ofNat]; exact Nat.mod_eq_of_lt (by omega)
  have h2 : (BitVec.ofInt 64 (b : Int)).toNat = b := by
    rw [BitVec.ofInt_natCast, BitVec.toNat_ofNat]; exact Nat.mod_eq_of_lt (by omega)
  show 0 ≤ IntKind.i64.wrap ((BitVec.ofInt 64 (a : Int) ^^^ BitVec.ofInt 64 (b : Int)).toNat : Int)
  rw [BitVec.toNat_xor, h1, h2, IntWalk.i64_in _ (by omega)]
  omega

/-- How pick ends. -/
def PickPost (g : Nat) (A : Option Addr) (n c p : Nat) (m : Int) (w : World) (e : Ending) (w' : World) : Prop := ∃ x : Int, e = .returned (.int .i64 x) ∧ 0 ≤ x ∧ x < m ∧ Rd13 w' g A n c (p + 1) ∧ w.grownBy w' (some g)

theorem pick_mem {w : World} {g n c p k : Nat} {A : Option Addr} {m x : Int} (h : Rd13 w g A n c p) (h0 : 0 ≤ x) (h1 : x < m) (e : Ending) (he : e = .returned (.int .i64 x)) :
    PickPost g A n c p m w e ((w.setCell ⟨g, 1, none⟩ (.int .i64 ((p : Int) + 1))).drewN k) := by
  have hg : w.grownBy ((w.setCell ⟨g, 1, none⟩ (.int .i64 ((p : Int) + 1))).drewN k) (some g) := (gr_set w g 1 _).trans (gr_drewN _ _ _)
  refine ⟨x, he, h0, h1, ⟨?_, h.bytes.grown hg (fun hn b off e => by simpa using h.apart hn b off e), h.apart⟩, hg⟩
  have := h.box.set1 (.int .i64 ((p : Int) + 1))
  exact this

set_option maxHeartbeats 1000000 in
theorem pick_zero (g c p : Nat) (A : Option Addr) (m : Int) (w : World) (h : Rd13 w g A 0 c p) (hp : p ≤ 1000000) (hm : 1 ≤ m) (hm2 : m ≤ 1000000) :
    Calls Tryz.prog 51 #[.pointer (some ⟨g, 0, none⟩), .int .i64 m] w (PickPost g A 0 c p m w) := by
  have H := Lib.hid h
  have c0 := h.box.c0
  have c1 := h.box.c1
  have f1 := h.box.f 1
  have hm3 : ¬ m < 1 := by omega
  clear h
  go_enter Tryz.func51, Tryz.ntmps51
  go_wp2_with fail
  go_ret
  exact pick_mem (k := 0) H.out (by omega) (by omega) _ rfl

set_option maxHeartbeats 1000000 in
theorem pick_in (g n c p : Nat) (A : Option Addr) (m : Int) (w : World) (h : Rd13 w g A n c p) (hn : p < n) (hn2 : n ≤ 2000) (hm : 1 ≤ m) (hm2 : m ≤ 1000000) :
    Calls Tryz.prog 51 #[.pointer (some ⟨g, 0, none⟩), .int .i64 m] w (PickPost g A n c p m w) := by
  have H := Lib.hid h
  have c0 := h.box.c0
  have c1 := h.box.c1
  have f1 := h.box.f 1
  have hm3 : ¬ m < 1 := by omega
  obtain ⟨b, off, rfl, _, hc⟩ := h.bytes (by omega)
  obtain ⟨x, hx, hx0, hx1⟩ := hc p hn
  have hne : b ≠ g := h.apart (by omega) b off rfl
  have hne2 : g ≠ b := fun e => hne e.symm
  have hn0 : ((n : Int) == 0) = false := by rw [beq_eq_false_iff_ne]; omega
  clear h hc
  go_enter Tryz.func51, Tryz.ntmps51
  go_wp2_with fail
  go_ret
  exact pick_mem (k := 0) H.out (Int.emod_nonneg _ (by omega)) (Int.emod_lt_of_pos _ (by omega)) _ rfl

set_option maxRecDepth 100000 in
set_option maxHeartbeats 4000000 in
theorem pick_out (g n c p : Nat) (A : Option Addr) (m : Int) (w : World) (h : Rd13 w g A n c p) (hn0 : 0 < n) (hn : n ≤ p) (hp : p ≤ 1000000) (hn2 : n ≤ 2000) (hm : 1 ≤ m) (hm2 : m ≤ 1000000) :
    Calls Tryz.prog 51 #[.pointer (some ⟨g, 0, none⟩), .int .i64 m] w (PickPost g A n c p m w) := by
  have H := Lib.hid h
  have c0 := h.box.c0
  have c1 := h.box.c1
  have f1 := h.box.f 1
  have hm3 : ¬ m < 1 := by omega
  obtain ⟨b, off, rfl, _, hc⟩ := h.bytes (by omega)
  have hne : b ≠ g := h.apart (by omega) b off rfl
  have hne2 : g ≠ b := fun e => hne e.symm
  have hn1 : ((n : Int) == 0) = false := by rw [beq_eq_false_iff_ne]; omega
  have hnp : ¬ (p : Int) < (n : Int) := by omega
  clear h
  obtain ⟨k1, hk1⟩ : ∃ k : Nat, p % n = k := ⟨_, rfl⟩
  obtain ⟨k2, hk2⟩ : ∃ k : Nat, (p * 7 + 3) % n = k := ⟨_, rfl⟩
  obtain ⟨q, hq⟩ : ∃ k : Nat, p / n = k := ⟨_, rfl⟩
  have hk1n : k1 < n := by rw [← hk1]; exact Nat.mod_lt _ hn0
  have hk2n : k2 < n := by rw [← hk2]; exact Nat.mod_lt _ hn0
  have hqp : q ≤ 1000000 := by rw [← hq]; exact Nat.le_trans (Nat.div_le_self _ _) hp
  obtain ⟨x1, hx1, h10, h11⟩ := hc k1 hk1n
  obtain ⟨x2, hx2, h20, h21⟩ := hc k2 hk2n
  have t1 : (p : Int).tmod (n : Int) = (k1 : Int) := by rw [← hk1]; rfl
  have t2 : ((p : Int) * 7 + 3).tmod (n : Int) = (k2 : Int) := by rw [← hk2]; rfl
  have t3 : (p : Int).tdiv (n : Int) = (q : Int) := by rw [← hq]; rfl
  have e1 : IntKind.i64.wrap ((p : Int) * 7) = (p : Int) * 7 := IntWalk.i64_in _ (by omega)
  have e2 : IntKind.i64.wrap ((p : Int) * 7 + 3) = (p : Int) * 7 + 3 := IntWalk.i64_in _ (by omega)
  have e3 : IntKind.i64.wrap x1 = x1 := IntWalk.i64_in _ (by omega)
  have e4 : IntKind.i64.wrap x2 = x2 := IntWalk.i64_in _ (by omega)
  have e5 : IntKind.i64.wrap (x1 * 131) = x1 * 131 := IntWalk.i64_in _ (by omega)
  have e6 : IntKind.i64.wrap (x2 * 1117) = x2 * 1117 := IntWalk.i64_in _ (by omega)
  have e7 : IntKind.i64.wrap (x1 * 131 + x2 * 1117) = x1 * 131 + x2 * 1117 := IntWalk.i64_in _ (by omega)
  have e8 : IntKind.i64.wrap ((p : Int) * 29) = (p : Int) * 29 := IntWalk.i64_in _ (by omega)
  have e9 : IntKind.i64.wrap (x1 * 131 + x2 * 1117 + (p : Int) * 29) = x1 * 131 + x2 * 1117 + (p : Int) * 29 := IntWalk.i64_in _ (by omega)
  have e10 : IntKind.i64.wrap ((q : Int) * 53) = (q : Int) * 53 := IntWalk.i64_in _ (by omega)
  have e11 : IntKind.i64.wrap (x1 * 131 + x2 * 1117 + (p : Int) * 29 + (q : Int) * 53) = x1 * 131 + x2 * 1117 + (p : Int) * 29 + (q : Int) * 53 := IntWalk.i64_in _ (by omega)
  have hn1' : ¬ (n : Int) = 0 := by omega
  clear hc hk1 hk2 hq
  go_enter Tryz.func51, Tryz.ntmps51
  go_wp2_with fail
  go_quiet (fail)
  have hb0 : 0 ≤ x1 * 131 + x2 * 1117 + (p : Int) * 29 + (q : Int) * 53 := by omega
  have hb1 : x1 * 131 + x2 * 1117 + (p : Int) * 29 + (q : Int) * 53 ≤ 1000000000 := by omega
  clear t1 t2 t3 e1 e2 e3 e4 e5 e6 e7 e8 e9 e10 e11
  generalize x1 * 131 + x2 * 1117 + (p : Int) * 29 + (q : Int) * 53 = y at hb0 hb1 ⊢
  have hx := xor_pos y hb0 hb1
  go_wp2_with fail
  generalize bits BinOp.xor IntKind.i64 y (y / 64) = v at hx ⊢
  go_ret
  exact pick_mem H.out (Int.emod_nonneg _ (by omega)) (Int.emod_lt_of_pos _ (by omega)) _ rfl

theorem pick_any (g n c p : Nat) (A : Option Addr) (m : Int) (w : World) (h : Rd13 w g A n c p) (hp : p ≤ 1000000) (hn2 : n ≤ 2000) (hm : 1 ≤ m) (hm2 : m ≤ 1000000) :
    Calls Tryz.prog 51 #[.pointer (some ⟨g, 0, none⟩), .int .i64 m] w (PickPost g A n c p m w) := by
  rcases Nat.eq_zero_or_pos n with rfl | hn
  · exact pick_zero g c p A m w h hp hm hm2
  · rcases Nat.lt_or_ge p n with hpn | hpn
    · exact pick_in g n c p A m w h hpn hn2 hm hm2
    · exact pick_out g n c p A m w h hn hpn hp hn2 hm hm2
end

/-! StrsF -/
section
section
open Go.RowKit

/-- The slice's cells are these strings. -/
def Strs (w : World) (A : Option Addr) (ss : List ByteArray) : Prop :=
  0 < ss.length → ∃ b off, A = some ⟨b, off, none⟩ ∧ b < w.heap.size ∧ ∀ (j : Nat) (s : ByteArray), ss[j]? = some s → w.cell? ⟨b, off + j, none⟩ = some (.string s)
theorem Strs.grown {w w' : World} {A : Option Addr} {ss : List ByteArray} (h : Strs w A ss) (hg : w.grownBy w' none) : Strs w' A ss := fun hl => by
  obtain ⟨b, off, rfl, hb, hc⟩ := h hl
  exact ⟨b, off, rfl, Nat.lt_of_lt_of_le hb hg.size, fun j s hj => hg.cell (hc j s hj) (by simp)⟩

/-- The sum of the lengths. -/
def tot : List ByteArray → Nat
  | [] => 0
  | s :: l => s.size + tot l
theorem tot_append : ∀ (l m : List ByteArray), tot (l ++ m) = tot l + tot m
  | [], m => by simp [tot]
  | s :: l, m => by simp [tot, tot_append l m, Nat.add_assoc]
theorem tot_step {ss : List ByteArray} {j : Nat} {s : ByteArray} (h : ss[j]? = some s) : tot (ss.take (j + 1)) = tot (ss.take j) + s.size := by
  rw [List.take_add_one, h, tot_append]
  simp [tot]
end
end

/-! DrZ -/
section
section
open Go.RowKit

theorem sum_upd (f f' : Nat → Nat) (i c : Nat) (hi : f' i = f i + c) (hne : ∀ j, j ≠ i → f' j = f j) : ∀ n, ((List.range n).map f').sum = ((List.range n).map f).sum + if i < n then c else 0
  | 0 => by simp
  | n + 1 => by
    have ih := sum_upd f f' i c hi hne n
    rw [List.range_succ, List.map_append, List.map_append, List.sum_append, List.sum_append, ih]
    simp only [List.map_cons, List.map_nil, List.sum_cons, List.sum_nil]
    by_cases h : n = i
    · subst h
      rw [hi]
      have h1 : ¬ n < n := by omega
      have h2 : n < n + 1 := by omega
      rw [if_neg h1, if_pos h2]; omega
    · rw [hne n h]
      by_cases h3 : i < n
      · have h4 : i < n + 1 := by omega
        rw [if_pos h3, if_pos h4]; omega
      · have h4 : ¬ i < n + 1 := by omega
        rw [if_neg h3, if_neg h4]; omega
theorem sum_le (f g : Nat → Nat) (h : ∀ j, f j ≤ g j) : ∀ n, ((List.range n).map f).sum ≤ ((List.range n).map g).sum
  | 0 => by simp
  | n + 1 => by
    have ih := sum_le f g h n
    rw [List.range_succ, List.map_append, List.map_append, List.sum_append, List.sum_append]
    simp only [List.map_cons, List.map_nil, List.sum_cons, List.sum_nil]
    have := h n
    omega

/-- What the listed operations spent. -/
def spent (cost : Nat → Nat) (listed : Array Bool) : Nat := ((List.range listed.size).map fun i => if listed.getD i false = true then cost i else 0).sum
def spentAll (cost : Nat → Nat) (n : Nat) : Nat := ((List.range n).map cost).sum
theorem spent_none (cost : Nat → Nat) (n : Nat) : spent cost (Array.replicate n false) = 0 := by
  unfold spent
  have : ∀ m, ((List.range m).map fun i => if (Array.replicate n false).getD i false = true then cost i else 0).sum = 0 := by
    intro m
    induction m with
    | zero => simp
    | succ m ih =>
      rw [List.range_succ, List.map_append, List.sum_append, ih]
      simp [Array.getD_eq_getD_getElem?, Array.getElem?_replicate]
      intro h1
      split at h1 <;> simp at h1
  exact this _
theorem spent_set {cost : Nat → Nat} {listed : Array Bool} {i : Nat} (hi : i < listed.size) (h : listed.getD i true = false) : spent cost (listed.setIfInBounds i true) = spent cost listed + cost i := by
  unfold spent
  rw [Array.size_setIfInBounds]
  have h0 : listed.getD i false = false := by
    simp only [Array.getD_eq_getD_getElem?, Array.getElem?_eq_getElem hi, Option.getD_some] at h ⊢
    exact h
  have := sum_upd (fun i => if listed.getD i false = true then cost i else 0) (fun j => if (listed.setIfInBounds i true).getD j false = true then cost j else 0) i (cost i)
    (by simp [h0, Array.getD_eq_getD_getElem?, hi]) (fun j hj => by
      have hj' : ¬ i = j := fun e => hj e.symm
      simp [Array.getD_eq_getD_getElem?, hj']) listed.size
  rw [this, if_pos hi]
theorem spent_le (cost : Nat → Nat) (listed : Array Bool) : spent cost listed ≤ spentAll cost listed.size := by
  unfold spent spentAll
  refine sum_le _ _ (fun j => ?_) _
  split <;> omega

section
variable {P : Program} {ops : Array Oper} {Q : Exit → Act → World → Prop} {md : Region.Mode}

structure JInv (ops : Array Oper) (B : Array Value) (u : World) (G : World → World → Prop) (R : Nat → Value → World → Prop) (cost : Nat → Nat) (J : Nat → World → Prop) (listed : Array Bool) (a : Act) (w : World) : Prop where
  ls : listed.size = ops.size
  size : a.tmps.size = B.size
  defs : a.defers = []
  gr : G u w
  far : ∀ k, (∀ (i : Nat) (o : Oper), ops[i]? = some o → o.dst ≠ some k) → a.tmps.getD k undef = B.getD k undef
  done : ∀ (i : Nat) (o : Oper) (d : Nat), ops[i]? = some o → o.dst = some d → listed.getD i true = true → R i (a.tmps.getD d undef) w
  kept : J (spent cost listed) w

/-- One operation's step. -/
def StepJ (P : Program) (Q : Exit → Act → World → Prop) (ops : Array Oper) (B : Array Value) (u : World) (G : World → World → Prop) (R : Nat → Value → World → Prop) (cost : Nat → Nat) (J : Nat → World → Prop) (i : Nat) (o : Oper) : Prop :=
  ∀ a w k, a.defers = [] → G u w → (∀ k, slotFree ops k = true → a.tmps.getD k undef = B.getD k undef) →
    (∀ (j : Nat) (p : Oper) (d : Nat), depB o j = true → ops[j]? = some p → p.dst = some d → R j (a.tmps.getD d undef) w) → J k w → k + cost i ≤ spentAll cost ops.size →
    o.wp P a w (fun a' w' => ∃ v, a' = a.put o.dst v ∧ G w w' ∧ R i v w' ∧ J (k + cost i) w') Q

theorem wp_region_jsteps {id : Nat} {B : Array Value} {u : World} (n : Nat) (hB : B.size = n) (hok : regOkB n ops = true) (G : World → World → Prop) (R : Nat → Value → World → Prop) (cost : Nat → Nat) (J : Nat → World → Prop) (hm : P.follows .mixedOrders = true)
    (htr : ∀ w1 w2 w3, G w1 w2 → G w2 w3 → G w1 w3)
    (hmono : ∀ i v w w', R i v w → G w w' → R i v w')
    (hend : ∀ a w, a.defers = [] → G u w → (∀ k, slotFree ops k = true → a.tmps.getD k undef = B.getD k undef) → (∀ (i : Nat) (o : Oper) (d : Nat), ops[i]? = some o → o.dst = some d → R i (a.tmps.getD d undef) w) → (∃ k, k ≤ spentAll cost ops.size ∧ J k w) → Q .normal a w)
    (hstep : AllFrom (StepJ P Q ops B u G R cost J) 0 ops.toList)
    (w : World) (hu : G u { w with drawn := w.drawn + 1 }) (hj : J 0 { w with drawn := w.drawn + 1 }) : (Code.region id ops true).wp P Q { tmps := B, defers := [] } w := by
  unfold regOkB at hok
  rw [Bool.and_eq_true, Array.all_eq_true', List.all_eq_true] at hok
  obtain ⟨h1, h2⟩ := hok
  have hmemo : ∀ (i : Nat) (o : Oper), ops[i]? = some o → o ∈ ops := fun i o ho => Array.mem_of_getElem? ho
  have h2' : ∀ (i : Nat) (o : Oper), ops[i]? = some o → (o.after.all (fun e => decide (e.on < i)) = true) ∧ ∀ (j : Nat) (p : Oper), ops[j]? = some p → p.dst = o.dst → j = i := by
    intro i o ho
    have := h2 i (List.mem_range.2 (Array.getElem?_eq_some_iff.1 ho).1)
    simp only [ho, Bool.and_eq_true, List.all_eq_true] at this
    refine ⟨this.1, fun j p hp hd => ?_⟩
    have := this.2 j (List.mem_range.2 (Array.getElem?_eq_some_iff.1 hp).1)
    simp only [hp, Bool.or_eq_true, bne_iff_ne, ne_eq, beq_iff_eq] at this
    rcases this with h | h
    · exact absurd hd h
    · exact h.symm
  have hfree : ∀ k, slotFree ops k = true → ∀ (i : Nat) (o : Oper), ops[i]? = some o → o.dst ≠ some k := by
    intro k hk i o ho
    unfold slotFree at hk
    rw [Array.all_eq_true'] at hk
    have := hk o (hmemo i o ho)
    simpa using this
  have hac : ∀ (i : Nat) (o : Oper), ops[i]? = some o → ∀ e ∈ o.after, e.on < i := by
    intro i o ho e he
    have := (h2' i o ho).1
    rw [Array.all_eq_true'] at this
    simpa using this e he
  have hg : ∀ (i : Nat) (o : Oper), ops[i]? = some o → o.guard = none := by
    intro i o ho
    have := h1 o (hmemo i o ho)
    simp only [Bool.and_eq_true, Option.isNone_iff_eq_none] at this
    exact this.1
  have hdst : ∀ (i : Nat) (o : Oper), ops[i]? = some o → ∃ d, o.dst = some d ∧ d < B.size ∧ ∀ (j : Nat) (p : Oper), ops[j]? = some p → p.dst = some d → j = i := by
    intro i o ho
    have := h1 o (hmemo i o ho)
    simp only [Bool.and_eq_true] at this
    cases hd : o.dst with
    | none => rw [hd] at this; simp at this
    | some d =>
      rw [hd] at this
      refine ⟨d, rfl, by rw [hB]; simpa using this.2, fun j p hp hpd => (h2' i o ho).2 j p hp (by rw [hpd, hd])⟩
  refine wp_region_any hm (wpAny_inv (JInv ops B u G R cost J) (fun _ _ _ h => h.ls) hac ?_ ?_ _ _ _ _ ?_ ?_)
  · intro listed a w hI hall
    refine hend a w hI.defs hI.gr (fun k hk => hI.far k (hfree k hk)) (fun i o d ho hd => hI.done i o d ho hd (hall i (Array.getElem?_eq_some_iff.1 ho).1)) ⟨_, ?_, hI.kept⟩
    have := spent_le cost listed
    rw [hI.ls] at this
    exact this
  · intro i o listed a w ho hI hl hd
    unfold wpOp
    rw [ho]
    have hw : Region.wanted o (yielded ops a.tmps) = true := by simp [Region.wanted, hg i o ho]
    simp only [hw, if_true]
    left
    have hil : i < listed.size := by rw [hI.ls]; exact (Array.getElem?_eq_some_iff.1 ho).1
    have hsp := spent_set (cost := cost) hil hl
    have hS := allFrom_at hstep (i := i) (o := o) (by simpa using ho)
    rw [Nat.zero_add] at hS
    have hs := hS a w (spent cost listed) hI.defs hI.gr (fun k hk => hI.far k (hfree k hk)) (fun j p d hj hp hpd => hI.done j p d hp hpd (by
      unfold depB at hj
      rw [Array.any_eq_true'] at hj
      obtain ⟨e, he, hb⟩ := hj
      simp only [Bool.and_eq_true, beq_iff_eq] at hb
      have := hd e he hb.1
      rw [hb.2] at this
      have hjl : j < listed.size := by rw [hI.ls]; exact (Array.getElem?_eq_some_iff.1 hp).1
      simp only [Array.getD_eq_getD_getElem?, Array.getElem?_eq_getElem hjl, Option.getD_some] at this ⊢
      exact this)) hI.kept (by
        have := spent_le cost (listed.setIfInBounds i true)
        rw [hsp, Array.size_setIfInBounds, hI.ls] at this
        exact this)
    refine Oper.wp_mono ?_ hs
    rintro a' w' ⟨v, rfl, hgr, hR, hJ⟩
    obtain ⟨d, hod, hdB, huniq⟩ := hdst i o ho
    have hput : a.put o.dst v = { a with tmps := a.tmps.setIfInBounds d v } := by rw [hod]; rfl
    rw [hput]
    refine ⟨by simp [hI.ls], by simp [hI.size], hI.defs, htr _ _ _ hI.gr hgr, fun k hk => ?_, fun j p e hp hpe hlj => ?_, by rw [hsp]; exact hJ⟩
    · rw [← hI.far k hk]
      have : d ≠ k := fun e => hk i o ho (by rw [hod, e])
      simp [Array.getD_eq_getD_getElem?, this]
    · by_cases hji : j = i
      · subst hji
        rw [ho] at hp; cases hp
        rw [hod] at hpe; cases hpe
        have : (a.tmps.setIfInBounds d v).getD d undef = v := by simp [Array.getD_eq_getD_getElem?, hI.size, hdB]
        rw [this]; exact hR
      · have hde : d ≠ e := fun h => hji (huniq j p hp (by rw [hpe, h]))
        have : (a.tmps.setIfInBounds d v).getD e undef = a.tmps.getD e undef := by simp [Array.getD_eq_getD_getElem?, hde]
        rw [this]
        refine hmono _ _ _ _ (hI.done j p e hp hpe ?_) hgr
        have hji' : ¬ i = j := fun h => hji h.symm
        simpa [Array.getD_eq_getD_getElem?, hji'] using hlj
  · exact ⟨by simp, rfl, rfl, hu, fun _ _ => rfl, fun i o d ho _ hl => by
      have hi := (Array.getElem?_eq_some_iff.1 ho).1
      simp [Array.getD_eq_getD_getElem?, hi] at hl, by rw [spent_none]; exact hj⟩
  · unfold unl
    refine Nat.le_trans (List.countP_le_length) ?_
    simp
end
end

section
open Go.RowKit

theorem Strs.grownG {w w' : World} {A : Option Addr} {ss : List ByteArray} {row : Option Nat} (h : Strs w A ss) (hg : w.grownBy w' row) (hne : ∀ b off, A = some ⟨b, off, none⟩ → some b ≠ row) : Strs w' A ss := fun hl => by
  obtain ⟨b, off, rfl, hb, hc⟩ := h hl
  exact ⟨b, off, rfl, Nat.lt_of_lt_of_le hb hg.size, fun j s hj => hg.cell (hc j s hj) (hne b off rfl)⟩

/-- How 'of' ends: one of the texts. -/
def OfPost (g : Nat) (A : Option Addr) (n c p : Nat) (ss : List ByteArray) (w : World) (e : Ending) (w' : World) : Prop := ∃ s, e = .returned (.string s) ∧ s ∈ ss ∧ Rd13 w' g A n c (p + 1) ∧ w.grownBy w' (some g)

set_option maxHeartbeats 1000000 in
theorem oftxt_any (g n c p : Nat) (A B : Option Addr) (d : Nat) (ss : List ByteArray) (w : World) (h : Rd13 w g A n c p) (hB : Strs w B ss) (hBg : ∀ b off, B = some ⟨b, off, none⟩ → b ≠ g) (hp : p ≤ 1000000) (hn2 : n ≤ 2000) (hl : 0 < ss.length) (hl2 : ss.length ≤ 1000) :
    Calls Tryz.prog 53 #[.pointer (some ⟨g, 0, none⟩), .slice B ss.length d] w (OfPost g A n c p ss w) := by
  have HP := Lib.hid (pick_any g n c p A ss.length w h hp hn2 (by omega) (by omega))
  have HB := Lib.hid hB
  have HBG := Lib.hid hBg
  obtain ⟨k, hk⟩ : ∃ k, ss.length = k := ⟨_, rfl⟩
  have HK := Lib.hid hk
  rw [hk] at HP ⊢
  have hk0 : 0 < k := by omega
  clear h hB hBg hk hl hl2
  go_enter Tryz.func53, Tryz.ntmps53
  go_wp2_with fail
  refine HP.out.mono ?_
  rintro e w1 ⟨x, rfl, hx0, hx1, hr, hg⟩
  obtain ⟨i, rfl⟩ : ∃ i : Nat, x = (i : Int) := ⟨x.toNat, by omega⟩
  have hik : i < k := by omega
  obtain ⟨b, off, rfl, _, hc⟩ := (HB.out.grownG hg (fun b off e => by have := HBG.out b off e; simpa using this)) (by have := HK.out; omega)
  obtain ⟨z, hz⟩ : ∃ z, ss[i]? = some z := ⟨_, List.getElem?_eq_getElem (by have := HK.out; omega)⟩
  have hcell := hc i z hz
  have HR := Lib.hid hr
  have HG := Lib.hid hg
  have HZ := Lib.hid (List.mem_of_getElem? hz)
  clear hc hz hr hg
  go_wp2_with fail
  go_ret
  exact ⟨z, rfl, HZ.out, HR.out, HG.out⟩

set_option maxHeartbeats 1000000 in
theorem unbind_any (z v : ByteArray) (w : World) (hz : z.size ≤ 1000) :
    Calls Tryz.prog 76 #[.string z, .string v] w fun e w' => ∃ s, e = .returned (.string s) ∧ s.size ≤ z.size ∧ w' = w := by
  obtain ⟨k, hk⟩ : ∃ k, z.size = k := ⟨_, rfl⟩
  have HK := Lib.hid hk
  rw [hk] at hz ⊢
  go_enter Tryz.func76, Tryz.ntmps76
  go_wp2_with fail
  go_loopw [5, 9] (fun q i wr => ∃ (j : Nat) (s : ByteArray), j ≤ k ∧ i = .int .i64 j ∧ q = .string s ∧ s.size ≤ j ∧ wr = w) (fun _ i _ => k - (intOf i).toNat)
  case atStart => exact ⟨0, ⟨#[]⟩, Nat.zero_le _, rfl, rfl, Nat.le_refl _, rfl⟩
  case round =>
    obtain ⟨j, s, hj, rfl, rfl, hs, rfl⟩ := hrel
    by_cases hlt : j < k
    · go_wp2_with fail
      · refine ⟨⟨j + 1, s ++ z.extract j (j + 1), by omega, by go_num, rfl, ?_, trivial⟩, by simp [intOf]; omega⟩
        have := HK.out
        simp [ByteArray.size_append, ByteArray.size_extract]
        omega
      · exact ⟨⟨j + 1, s, by omega, by go_num, rfl, by omega, trivial⟩, by simp [intOf]; omega⟩
    · go_wp2_with fail
      go_ret
      exact ⟨s, rfl, by omega, rfl⟩

theorem bind_any (z v : ByteArray) (w : World) (hz : z.size ≤ 1000) (hv : v.size = 1) :
    Calls Tryz.prog 75 #[.string z, .string v] w fun e w' => ∃ s, e = .returned (.string s) ∧ s.size ≤ z.size + 1 ∧ w' = w := by
  have HU := Lib.hid (fun w => unbind_any z v w hz)
  obtain ⟨k, hk⟩ : ∃ k, z.size = k := ⟨_, rfl⟩
  rw [hk] at HU hz ⊢
  have HV := Lib.hid hv
  clear hv
  go_enter Tryz.func75, Tryz.ntmps75
  go_wp2_with fail
  refine (HU.out _).mono ?_
  rintro e w1 ⟨s, rfl, hs, rfl⟩
  have hsz : ¬ 9223372036854775807 < s.size + v.size := by have := HV.out; omega
  go_wp2_with fail
  go_ret
  exact ⟨_, rfl, by rw [ByteArray.size_append, HV.out]; omega, rfl⟩

set_option maxRecDepth 100000 in
set_option maxHeartbeats 1000000 in
theorem dec_any (x : Int) (w : World) (h0 : 0 ≤ x) (h1 : x ≤ 9) :
    Calls Tryz.prog 74 #[.int .i64 x] w fun e w' => ∃ s, e = .returned (.string s) ∧ s.size = 1 ∧ w.grownBy w' none := by
  have h2 : ¬ x < -9223372036854775807 := by omega
  have h3 : ¬ x < 0 := by omega
  have h4 : ¬ 9 < x := by omega
  have e1 : IntKind.u8.wrap (48 + x) = 48 + x := IntWalk.u8_in _ (by omega)
  have hcv := conv_byte w (48 + x) w.heap.size rfl
  go_enter Tryz.func74, Tryz.ntmps74
  go_wp2_with fail
  go_loopw [0, 3] (fun q i wr => q = .int .i64 x ∧ i = .string ⟨#[]⟩ ∧ wr = w) (fun _ _ _ => 0)
  case atStart => exact ⟨rfl, rfl, rfl⟩
  case round =>
    obtain ⟨rfl, rfl, rfl⟩ := hrel
    go_wp2_with fail
    go_ret
    refine ⟨_, rfl, ?_, World.grownBy_alloc _ _ _⟩
    rw [ByteArray.size_append, one_size]
    rfl
end

section
open Go.RowKit

/-- How a draw of a text ends: of at most so many bytes, and so many steps of the source further on. -/
def DrP (g n c p K L : Nat) (A : Option Addr) (w : World) (e : Ending) (w' : World) : Prop := ∃ s p', e = .returned (.string s) ∧ 1 ≤ s.size ∧ s.size ≤ L ∧ p ≤ p' ∧ p' ≤ p + K ∧ Rd13 w' g A n c p' ∧ w.grownBy w' (some g)

theorem gr_someG {w w' : World} {g : Nat} (h : w.grownBy w' none) : w.grownBy w' (some g) := ⟨h.os, h.tape, h.output, h.size, fun k hk _ => h.block k hk (by simp)⟩
theorem gr_selfG (w : World) (g : Nat) : w.grownBy w (some g) := gr_refl _ _
theorem ext_one (z : ByteArray) (k : Nat) (h : k < z.size) : (z.extract k (k + 1)).size = 1 := by simp [ByteArray.size_extract]; omega

set_option maxRecDepth 100000 in
set_option maxHeartbeats 4000000 in
theorem draw_zero0 (g n c p : Nat) (A : Option Addr) (f : Int) (z o : ByteArray) (w : World) (h : Rd13 w g A n c p) (hf : f ≤ 0) (hp : p ≤ 900000) (hn2 : n ≤ 2000) (hz : z.size ≤ 100) :
    Calls Tryz.prog 52 #[.pointer (some ⟨g, 0, none⟩), .int .i64 0, .int .i64 f, .string z, .string o] w (DrP g n c p 2 1 A w) := by
  have H := Lib.hid h
  obtain ⟨k, hk⟩ : ∃ k, z.size = k := ⟨_, rfl⟩
  have HK := Lib.hid hk
  rw [hk] at hz
  obtain ⟨zb, hzb⟩ : ∃ b, z.toList.isEmpty = b := ⟨_, rfl⟩
  clear h
  cases zb
  · have hk0 : 0 < k := by
      rcases Nat.eq_zero_or_pos k with h0 | h0
      · exfalso
        have : z = ⟨#[]⟩ := ByteArray.ext (Array.eq_empty_of_size_eq_zero (by have := HK.out; rw [h0] at this; exact this))
        rw [this] at hzb
        have h9 : (⟨#[]⟩ : ByteArray).toList.isEmpty = true := by first | kernel_rfl | (unfold ByteArray.toList ByteArray.toList.loop; simp [ByteArray.size])
        rw [h9] at hzb
        cases hzb
      · exact h0
    have H3 := Lib.hid (pick_any g n c p A 3 w H.out (by omega) hn2 (by omega) (by omega))
    go_enter Tryz.func52, Tryz.ntmps52
    go_wp2_with fail
    refine H3.out.mono ?_
    rintro e w1 ⟨x, rfl, hx0, hx1, hr1, hg1⟩
    have HR1 := Lib.hid hr1
    have HG1 := Lib.hid hg1
    clear hr1 hg1
    by_cases hx : 0 < x
    · have HK1 := Lib.hid (pick_any g n c (p + 1) A k w1 HR1.out (by omega) hn2 (by omega) (by omega))
      go_wp2_with fail
      refine HK1.out.mono ?_
      rintro e w2 ⟨y, rfl, hy0, hy1, hr2, hg2⟩
      obtain ⟨i, rfl⟩ : ∃ i : Nat, y = (i : Int) := ⟨y.toNat, by omega⟩
      have hik : i < k := by omega
      have HR2 := Lib.hid hr2
      have HG2 := Lib.hid (HG1.out.trans hg2)
      have HS := Lib.hid (ext_one z i (by have := HK.out; omega))
      clear hr2 hg2
      go_wp2_with fail
      go_ret
      exact ⟨_, p + 2, rfl, by rw [HS.out]; omega, by rw [HS.out]; omega, by omega, by omega, HR2.out, HG2.out⟩
    · have H5 := Lib.hid (pick_any g n c (p + 1) A 5 w1 HR1.out (by omega) hn2 (by omega) (by omega))
      go_wp2_with fail
      refine H5.out.mono ?_
      rintro e w2 ⟨y, rfl, hy0, hy1, hr2, hg2⟩
      have HR2 := Lib.hid hr2
      have HG2 := Lib.hid (HG1.out.trans hg2)
      clear hr2 hg2
      go_wp2_with fail
      refine (dec_any y w2 (by omega) (by omega)).mono ?_
      rintro e w3 ⟨s, rfl, hs, hg3⟩
      have HG3 := Lib.hid hg3
      clear hg3
      go_wp2_with fail
      go_ret
      exact ⟨s, p + 2, rfl, by omega, by omega, by omega, by omega, HR2.out.grown HG3.out (by simp) (by simp), HG2.out.trans (gr_someG HG3.out)⟩
  · have H5 := Lib.hid (pick_any g n c p A 5 w H.out (by omega) hn2 (by omega) (by omega))
    go_enter Tryz.func52, Tryz.ntmps52
    go_wp2_with fail
    refine H5.out.mono ?_
    rintro e w1 ⟨x, rfl, hx0, hx1, hr1, hg1⟩
    have HR1 := Lib.hid hr1
    have HG1 := Lib.hid hg1
    clear hr1 hg1
    go_wp2_with fail
    refine (dec_any x w1 (by omega) (by omega)).mono ?_
    rintro e w2 ⟨s, rfl, hs, hg2⟩
    have HG2 := Lib.hid hg2
    clear hg2
    go_wp2_with fail
    go_ret
    exact ⟨s, p + 1, rfl, by omega, by omega, by omega, by omega, HR1.out.grown HG2.out (by simp) (by simp), HG1.out.trans (gr_someG HG2.out)⟩

set_option maxRecDepth 100000 in
set_option maxHeartbeats 4000000 in
theorem draw_zero1 (g n c p : Nat) (A : Option Addr) (f : Int) (z o : ByteArray) (w : World) (h : Rd13 w g A n c p) (hf : f ≤ 0) (hp : p ≤ 900000) (hn2 : n ≤ 2000) (hz : o.size ≤ 100) :
    Calls Tryz.prog 52 #[.pointer (some ⟨g, 0, none⟩), .int .i64 1, .int .i64 f, .string z, .string o] w (DrP g n c p 2 1 A w) := by
  have H := Lib.hid h
  obtain ⟨k, hk⟩ : ∃ k, o.size = k := ⟨_, rfl⟩
  have HK := Lib.hid hk
  rw [hk] at hz
  obtain ⟨zb, hzb⟩ : ∃ b, o.toList.isEmpty = b := ⟨_, rfl⟩
  clear h
  cases zb
  · have hk0 : 0 < k := by
      rcases Nat.eq_zero_or_pos k with h0 | h0
      · exfalso
        have : o = ⟨#[]⟩ := ByteArray.ext (Array.eq_empty_of_size_eq_zero (by have := HK.out; rw [h0] at this; exact this))
        rw [this] at hzb
        have h9 : (⟨#[]⟩ : ByteArray).toList.isEmpty = true := by first | kernel_rfl | (unfold ByteArray.toList ByteArray.toList.loop; simp [ByteArray.size])
        rw [h9] at hzb
        cases hzb
      · exact h0
    have H3 := Lib.hid (pick_any g n c p A 2 w H.out (by omega) hn2 (by omega) (by omega))
    go_enter Tryz.func52, Tryz.ntmps52
    go_wp2_with fail
    refine H3.out.mono ?_
    rintro e w1 ⟨x, rfl, hx0, hx1, hr1, hg1⟩
    have HR1 := Lib.hid hr1
    have HG1 := Lib.hid hg1
    clear hr1 hg1
    obtain ⟨xb, hxb⟩ : ∃ b, (x == 0) = b := ⟨_, rfl⟩
    cases xb
    · go_wp2_with fail
      go_ret
      exact ⟨_, p + 1, rfl, Nat.le_refl _, Nat.le_refl _, by omega, by omega, HR1.out, HG1.out⟩
    · have HK1 := Lib.hid (pick_any g n c (p + 1) A k w1 HR1.out (by omega) hn2 (by omega) (by omega))
      go_wp2_with fail
      refine HK1.out.mono ?_
      rintro e w2 ⟨y, rfl, hy0, hy1, hr2, hg2⟩
      obtain ⟨i, rfl⟩ : ∃ i : Nat, y = (i : Int) := ⟨y.toNat, by omega⟩
      have hik : i < k := by omega
      have HR2 := Lib.hid hr2
      have HG2 := Lib.hid (HG1.out.trans hg2)
      have HS := Lib.hid (ext_one o i (by have := HK.out; omega))
      clear hr2 hg2
      go_wp2_with fail
      go_ret
      exact ⟨_, p + 2, rfl, by rw [HS.out]; omega, by rw [HS.out]; omega, by omega, by omega, HR2.out, HG2.out⟩
  · go_enter Tryz.func52, Tryz.ntmps52
    go_wp2_with fail
    go_ret
    exact ⟨_, p, rfl, Nat.le_refl _, Nat.le_refl _, by omega, by omega, H.out, gr_selfG _ _⟩

set_option maxRecDepth 100000 in
set_option maxHeartbeats 4000000 in
theorem draw_zero2 (g n c p : Nat) (A : Option Addr) (f : Int) (z o : ByteArray) (w : World) (h : Rd13 w g A n c p) (hf : f ≤ 0) :
    Calls Tryz.prog 52 #[.pointer (some ⟨g, 0, none⟩), .int .i64 2, .int .i64 f, .string z, .string o] w (DrP g n c p 2 1 A w) := by
  have H := Lib.hid h
  clear h
  go_enter Tryz.func52, Tryz.ntmps52
  go_wp2_with fail
  go_ret
  exact ⟨_, p, rfl, Nat.le_refl _, Nat.le_refl _, by omega, by omega, H.out, gr_selfG _ _⟩

theorem draw_zero (g n c p : Nat) (A : Option Addr) (d f : Int) (z o : ByteArray) (w : World) (h : Rd13 w g A n c p) (hd : d = 0 ∨ d = 1 ∨ d = 2) (hf : f ≤ 0) (hp : p ≤ 900000) (hn2 : n ≤ 2000) (hz : z.size ≤ 100) (ho : o.size ≤ 100) :
    Calls Tryz.prog 52 #[.pointer (some ⟨g, 0, none⟩), .int .i64 d, .int .i64 f, .string z, .string o] w (DrP g n c p 2 1 A w) := by
  rcases hd with rfl | rfl | rfl
  · exact draw_zero0 g n c p A f z o w h hf hp hn2 hz
  · exact draw_zero1 g n c p A f z o w h hf hp hn2 ho
  · exact draw_zero2 g n c p A f z o w h hf
end

section
open Go.RowKit

/-- What a draw with less fuel does. -/
def DrH (m K L : Nat) (g n c : Nat) (A : Option Addr) : Prop := ∀ (d f : Int) (z o : ByteArray) (p : Nat) (w : World), (d = 0 ∨ d = 1 ∨ d = 2) → f ≤ m → z.size + m ≤ 50 → o.size + m ≤ 50 → p + K ≤ 800000 → Rd13 w g A n c p →
  Calls Tryz.prog 52 #[.pointer (some ⟨g, 0, none⟩), .int .i64 d, .int .i64 f, .string z, .string o] w (DrP g n c p K L A w)

theorem DrP.wide {g n c p p0 K L K' L' : Nat} {A : Option Addr} {w w0 : World} {e : Ending} {w' : World} (h : DrP g n c p K L A w e w') (h1 : p0 ≤ p) (h2 : p + K ≤ p0 + K') (h3 : L ≤ L') (hg : w0.grownBy w (some g)) : DrP g n c p0 K' L' A w0 e w' := by
  obtain ⟨s, p', he, a1, a2, a3, a4, hr, hgg⟩ := h
  exact ⟨s, p', he, a1, by omega, by omega, by omega, hr, hg.trans hgg⟩

theorem name_at (f : Int) (z o : Nat) (h0 : 0 < f) (h1 : f ≤ 60) (h2 : z ≤ 60) (h3 : o ≤ 60) : ∃ i : Nat, i < 5 ∧ (f + z + 2 * o).tmod 5 = (i : Int) := by
  refine ⟨((f + z + 2 * o) % 5).toNat, by omega, ?_⟩
  rw [Int.tmod_eq_emod_of_nonneg (by omega)]
  omega

theorem strs_new (w : World) (ss : List ByteArray) (ty : TypeId) : Strs (w.alloc (.cells (List.toArray (List.map Value.string ss)) ty)) (some ⟨w.heap.size, 0, none⟩) ss := fun _ =>
  ⟨_, _, rfl, by simp, fun j s hj => by
    have h1 := heap_alloc_new w (.cells (List.toArray (List.map Value.string ss)) ty)
    simp only [World.cell?, h1]
    simp [hj]⟩

set_option maxRecDepth 100000 in
set_option maxHeartbeats 16000000 in
theorem draw_up0 (m K L g n c p : Nat) (A : Option Addr) (f : Int) (z o : ByteArray) (w : World) (hI : DrH m K L g n c A) (h : Rd13 w g A n c p) (hf : 0 < f) (hfm : f ≤ m + 1) (hm : m ≤ 20) (hL : L ≤ 100000) (hK : K ≤ 100000) (hp : p + (2 * K + 2) ≤ 800000) (hn2 : n ≤ 2000)
    (hz : z.size + m < 50) (ho : o.size + m < 50) :
    Calls Tryz.prog 52 #[.pointer (some ⟨g, 0, none⟩), .int .i64 0, .int .i64 f, .string z, .string o] w (DrP g n c p (2 * K + 2) (2 * L + 5) A w) := by
  have H := Lib.hid h
  have HI := Lib.hid hI
  obtain ⟨i, hi5, hi⟩ := name_at f z.size o.size hf (by omega) (by omega) (by omega)
  obtain ⟨zs, hzs⟩ : ∃ k, z.size = k := ⟨_, rfl⟩
  obtain ⟨os, hos⟩ : ∃ k, o.size = k := ⟨_, rfl⟩
  have HZ := Lib.hid hzs
  have HO := Lib.hid hos
  rw [hzs, hos] at hi
  rw [hzs] at hz
  rw [hos] at ho
  have hf2 : ¬ f ≤ 0 := by omega
  have hi6 : ¬ ((i : Int) < 0) := by omega
  have hnm : ((⟨#[118, 119, 120, 121, 122]⟩ : ByteArray).extract i (i + 1)).size = 1 := by rw [ext_one]; show i < 5; exact hi5
  have H7 := Lib.hid (pick_any g n c p A 7 w H.out (by omega) hn2 (by omega) (by omega))
  clear h hI
  go_enter Tryz.func52, Tryz.ntmps52
  go_wp2_with fail
  refine H7.out.mono ?_
  rintro e w1 ⟨x, rfl, hx0, hx1, hr1, hg1⟩
  have HR1 := Lib.hid hr1
  have HG1 := Lib.hid hg1
  clear hr1 hg1
  by_cases h0 : x = 0
  · subst h0
    go_wp2_with fail
    refine (HI.out 1 (f - 1) z o (p + 1) w1 (by omega) (by omega) (by have := HZ.out; omega) (by have := HO.out; omega) (by omega) HR1.out).mono ?_
    rintro e w2 ⟨s2, p2, rfl, hs2, ht2, hp2, hq2, hr2, hg2⟩
    have HR2 := Lib.hid hr2
    have HG2 := Lib.hid (HG1.out.trans hg2)
    clear hr2 hg2
    go_wp2_with fail
    have c0 : (⟨#[83]⟩ : ByteArray).size = 1 := rfl
    go_ret
    exact ⟨_, p2, rfl, by (simp only [ByteArray.size_append]; omega), by (simp only [ByteArray.size_append]; omega), by omega, by omega, HR2.out, HG2.out⟩
  by_cases h1 : x = 1
  · subst h1
    go_wp2_with fail
    have HRA := Lib.hid (HR1.out.grown (World.grownBy_alloc w1 (.cells (List.toArray (List.map Value.string [⟨#[77]⟩, ⟨#[78]⟩])) 9) none) (by simp) (by simp))
    refine (oftxt_any g n c (p + 1) A _ 2 [⟨#[77]⟩, ⟨#[78]⟩] _ HRA.out (strs_new w1 [⟨#[77]⟩, ⟨#[78]⟩] _) (fun b off e => by cases e; have := HR1.out.lt; omega) (by omega) hn2 (by simp) (by simp)).mono ?_
    rintro e w2 ⟨s2, rfl, hm2, hr2, hg2⟩
    have hs2 : s2.size = 1 := by
      simp only [List.mem_cons, List.not_mem_nil, or_false] at hm2
      rcases hm2 with rfl | rfl <;> rfl
    have HR2 := Lib.hid hr2
    have HG2 := Lib.hid (HG1.out.trans ((gr_someG (World.grownBy_alloc w1 _ none)).trans hg2))
    clear hr2 hg2 hm2 HRA
    obtain ⟨p2, hp2⟩ : ∃ q, (p + 1) + 1 = q := ⟨_, rfl⟩
    rw [hp2] at HR2
    go_wp2_with fail
    refine (HI.out 1 (f - 1) z o p2 w2 (by omega) (by omega) (by have := HZ.out; omega) (by have := HO.out; omega) (by omega) HR2.out).mono ?_
    rintro e w3 ⟨s3, p3, rfl, hs3, ht3, hp3, hq3, hr3, hg3⟩
    have HR3 := Lib.hid hr3
    have HG3 := Lib.hid (HG2.out.trans hg3)
    clear hr3 hg3
    go_wp2_with fail
    go_ret
    exact ⟨_, p3, rfl, by (simp only [ByteArray.size_append]; omega), by (simp only [ByteArray.size_append]; omega), by omega, by omega, HR3.out, HG3.out⟩
  by_cases h2 : x = 2
  · subst h2
    go_wp2_with fail
    refine (HI.out 1 (f - 2) z o (p + 1) w1 (by omega) (by omega) (by have := HZ.out; omega) (by have := HO.out; omega) (by omega) HR1.out).mono ?_
    rintro e w2 ⟨s2, p2, rfl, hs2, ht2, hp2, hq2, hr2, hg2⟩
    have HR2 := Lib.hid hr2
    have HG2 := Lib.hid (HG1.out.trans hg2)
    clear hr2 hg2
    go_wp2_with fail
    refine (HI.out 0 (f - 2) z o p2 w2 (by omega) (by omega) (by have := HZ.out; omega) (by have := HO.out; omega) (by omega) HR2.out).mono ?_
    rintro e w3 ⟨s3, p3, rfl, hs3, ht3, hp3, hq3, hr3, hg3⟩
    have HR3 := Lib.hid hr3
    have HG3 := Lib.hid (HG2.out.trans hg3)
    clear hr3 hg3
    go_wp2_with fail
    have c0 : (⟨#[40]⟩ : ByteArray).size = 1 := rfl
    have c1 : (⟨#[41]⟩ : ByteArray).size = 1 := rfl
    have c2 : (⟨#[64]⟩ : ByteArray).size = 1 := rfl
    go_ret
    exact ⟨_, p3, rfl, by (simp only [ByteArray.size_append]; omega), by (simp only [ByteArray.size_append]; omega), by omega, by omega, HR3.out, HG3.out⟩
  by_cases h3 : x = 3
  · subst h3
    go_wp2_with fail
    refine (HI.out 0 0 z o (p + 1) w1 (by omega) (by omega) (by have := HZ.out; omega) (by have := HO.out; omega) (by omega) HR1.out).mono ?_
    rintro e w2 ⟨s2, p2, rfl, hs2, ht2, hp2, hq2, hr2, hg2⟩
    have HR2 := Lib.hid hr2
    have HG2 := Lib.hid (HG1.out.trans hg2)
    clear hr2 hg2
    go_wp2_with fail
    go_ret
    exact ⟨_, p2, rfl, by omega, by omega, by omega, by omega, HR2.out, HG2.out⟩
  have k0 : (x == 0) = false := by rw [beq_eq_false_iff_ne]; exact h0
  have k1 : (x == 1) = false := by rw [beq_eq_false_iff_ne]; exact h1
  have k2 : (x == 2) = false := by rw [beq_eq_false_iff_ne]; exact h2
  have k3 : (x == 3) = false := by rw [beq_eq_false_iff_ne]; exact h3
  go_wp2_with fail
  refine (HI.out 0 (f - 2) z o (p + 1) w1 (by omega) (by omega) (by have := HZ.out; omega) (by have := HO.out; omega) (by omega) HR1.out).mono ?_
  rintro e w2 ⟨s2, p2, rfl, hs2, ht2, hp2, hq2, hr2, hg2⟩
  have HR2 := Lib.hid hr2
  have HG2 := Lib.hid (HG1.out.trans hg2)
  clear hr2 hg2
  go_wp2_with fail
  have HRA := Lib.hid (HR2.out.grown (World.grownBy_alloc w2 (.cells (List.toArray (List.map Value.string [⟨#[43]⟩, ⟨#[42]⟩, ⟨#[94]⟩, ⟨#[45]⟩, ⟨#[61]⟩, ⟨#[60]⟩])) 9) none) (by simp) (by simp))
  refine (oftxt_any g n c p2 A _ 6 [⟨#[43]⟩, ⟨#[42]⟩, ⟨#[94]⟩, ⟨#[45]⟩, ⟨#[61]⟩, ⟨#[60]⟩] _ HRA.out (strs_new w2 [⟨#[43]⟩, ⟨#[42]⟩, ⟨#[94]⟩, ⟨#[45]⟩, ⟨#[61]⟩, ⟨#[60]⟩] _) (fun b off e => by cases e; have := HR2.out.lt; omega) (by omega) hn2 (by simp) (by simp)).mono ?_
  rintro e w3 ⟨s3, rfl, hm3, hr3, hg3⟩
  have hs3 : s3.size = 1 := by
    simp only [List.mem_cons, List.not_mem_nil, or_false] at hm3
    rcases hm3 with rfl | rfl | rfl | rfl | rfl | rfl <;> rfl
  have HR3 := Lib.hid hr3
  have HG3 := Lib.hid (HG2.out.trans ((gr_someG (World.grownBy_alloc w2 _ none)).trans hg3))
  clear hr3 hg3 hm3 HRA
  obtain ⟨p3, hp3⟩ : ∃ q, p2 + 1 = q := ⟨_, rfl⟩
  rw [hp3] at HR3
  go_wp2_with fail
  refine (HI.out 0 (f - 2) z o p3 w3 (by omega) (by omega) (by have := HZ.out; omega) (by have := HO.out; omega) (by omega) HR3.out).mono ?_
  rintro e w4 ⟨s4, p4, rfl, hs4, ht4, hp4, hq4, hr4, hg4⟩
  have HR4 := Lib.hid hr4
  have HG4 := Lib.hid (HG3.out.trans hg4)
  clear hr4 hg4
  go_wp2_with fail
  have c0 : (⟨#[40]⟩ : ByteArray).size = 1 := rfl
  have c1 : (⟨#[41]⟩ : ByteArray).size = 1 := rfl
  go_ret
  exact ⟨_, p4, rfl, by (simp only [ByteArray.size_append]; omega), by (simp only [ByteArray.size_append]; omega), by omega, by omega, HR4.out, HG4.out⟩
end

section
open Go.RowKit

set_option maxRecDepth 100000 in
set_option maxHeartbeats 16000000 in
theorem draw_up1 (m K L g n c p : Nat) (A : Option Addr) (f : Int) (z o : ByteArray) (w : World) (hI : DrH m K L g n c A) (h : Rd13 w g A n c p) (hf : 0 < f) (hfm : f ≤ m + 1) (hm : m ≤ 20) (hL : L ≤ 100000) (hK : K ≤ 100000) (hp : p + (2 * K + 2) ≤ 800000) (hn2 : n ≤ 2000)
    (hz : z.size + m < 50) (ho : o.size + m < 50) :
    Calls Tryz.prog 52 #[.pointer (some ⟨g, 0, none⟩), .int .i64 1, .int .i64 f, .string z, .string o] w (DrP g n c p (2 * K + 2) (2 * L + 5) A w) := by
  have H := Lib.hid h
  have HI := Lib.hid hI
  obtain ⟨i, hi5, hi⟩ := name_at f z.size o.size hf (by omega) (by omega) (by omega)
  obtain ⟨zs, hzs⟩ : ∃ k, z.size = k := ⟨_, rfl⟩
  obtain ⟨os, hos⟩ : ∃ k, o.size = k := ⟨_, rfl⟩
  have HZ := Lib.hid hzs
  have HO := Lib.hid hos
  rw [hzs, hos] at hi
  rw [hzs] at hz
  rw [hos] at ho
  have hf2 : ¬ f ≤ 0 := by omega
  have hi6 : ¬ ((i : Int) < 0) := by omega
  have hnm : ((⟨#[118, 119, 120, 121, 122]⟩ : ByteArray).extract i (i + 1)).size = 1 := by rw [ext_one]; show i < 5; exact hi5
  have H7 := Lib.hid (pick_any g n c p A 7 w H.out (by omega) hn2 (by omega) (by omega))
  clear h hI
  go_enter Tryz.func52, Tryz.ntmps52
  go_wp2_with fail
  refine H7.out.mono ?_
  rintro e w1 ⟨x, rfl, hx0, hx1, hr1, hg1⟩
  have HR1 := Lib.hid hr1
  have HG1 := Lib.hid hg1
  clear hr1 hg1
  by_cases h0 : x = 0
  · subst h0
    go_wp2_with fail
    refine (HI.out 0 (f - 1) z o (p + 1) w1 (by omega) (by omega) (by have := HZ.out; omega) (by have := HO.out; omega) (by omega) HR1.out).mono ?_
    rintro e w2 ⟨s2, p2, rfl, hs2, ht2, hp2, hq2, hr2, hg2⟩
    have HR2 := Lib.hid hr2
    have HG2 := Lib.hid (HG1.out.trans hg2)
    clear hr2 hg2
    go_wp2_with fail
    have c0 : (⟨#[73]⟩ : ByteArray).size = 1 := rfl
    go_ret
    exact ⟨_, p2, rfl, by (simp only [ByteArray.size_append]; omega), by (simp only [ByteArray.size_append]; omega), by omega, by omega, HR2.out, HG2.out⟩
  by_cases h1 : x = 1
  · subst h1
    go_wp2_with fail
    have HRA := Lib.hid (HR1.out.grown (World.grownBy_alloc w1 (.cells (List.toArray (List.map Value.string [⟨#[82]⟩, ⟨#[80]⟩])) 9) none) (by simp) (by simp))
    refine (oftxt_any g n c (p + 1) A _ 2 [⟨#[82]⟩, ⟨#[80]⟩] _ HRA.out (strs_new w1 [⟨#[82]⟩, ⟨#[80]⟩] _) (fun b off e => by cases e; have := HR1.out.lt; omega) (by omega) hn2 (by simp) (by simp)).mono ?_
    rintro e w2 ⟨s2, rfl, hm2, hr2, hg2⟩
    have hs2 : s2.size = 1 := by
      simp only [List.mem_cons, List.not_mem_nil, or_false] at hm2
      rcases hm2 with rfl | rfl <;> rfl
    have HR2 := Lib.hid hr2
    have HG2 := Lib.hid (HG1.out.trans ((gr_someG (World.grownBy_alloc w1 _ none)).trans hg2))
    clear hr2 hg2 hm2 HRA
    obtain ⟨p2, hp2⟩ : ∃ q, (p + 1) + 1 = q := ⟨_, rfl⟩
    rw [hp2] at HR2
    go_wp2_with fail
    refine (HI.out 1 (f - 1) z o p2 w2 (by omega) (by omega) (by have := HZ.out; omega) (by have := HO.out; omega) (by omega) HR2.out).mono ?_
    rintro e w3 ⟨s3, p3, rfl, hs3, ht3, hp3, hq3, hr3, hg3⟩
    have HR3 := Lib.hid hr3
    have HG3 := Lib.hid (HG2.out.trans hg3)
    clear hr3 hg3
    go_wp2_with fail
    go_ret
    exact ⟨_, p3, rfl, by (simp only [ByteArray.size_append]; omega), by (simp only [ByteArray.size_append]; omega), by omega, by omega, HR3.out, HG3.out⟩
  by_cases h2 : x = 2
  · subst h2
    go_wp2_with fail
    refine (HI.out 2 (f - 1) z o (p + 1) w1 (by omega) (by omega) (by have := HZ.out; omega) (by have := HO.out; omega) (by omega) HR1.out).mono ?_
    rintro e w2 ⟨s2, p2, rfl, hs2, ht2, hp2, hq2, hr2, hg2⟩
    have HR2 := Lib.hid hr2
    have HG2 := Lib.hid (HG1.out.trans hg2)
    clear hr2 hg2
    go_wp2_with fail
    have c0 : (⟨#[67]⟩ : ByteArray).size = 1 := rfl
    go_ret
    exact ⟨_, p2, rfl, by (simp only [ByteArray.size_append]; omega), by (simp only [ByteArray.size_append]; omega), by omega, by omega, HR2.out, HG2.out⟩
  by_cases h3 : x = 3
  · subst h3
    go_wp2_with fail
    refine (HI.out 1 (f - 2) z o (p + 1) w1 (by omega) (by omega) (by have := HZ.out; omega) (by have := HO.out; omega) (by omega) HR1.out).mono ?_
    rintro e w2 ⟨s2, p2, rfl, hs2, ht2, hp2, hq2, hr2, hg2⟩
    have HR2 := Lib.hid hr2
    have HG2 := Lib.hid (HG1.out.trans hg2)
    clear hr2 hg2
    go_wp2_with fail
    refine (bind_any z _ w2 (by have := HZ.out; omega) hnm).mono ?_
    rintro e w9 ⟨z2, rfl, hz2, hw9⟩
    subst w9
    go_wp2_with fail
    refine (unbind_any o _ w2 (by have := HO.out; omega)).mono ?_
    rintro e w9 ⟨o2, rfl, ho2, hw9⟩
    subst w9
    go_wp2_with fail
    refine (HI.out 0 (f - 2) z2 o2 p2 w2 (by omega) (by omega) (by have := HZ.out; omega) (by have := HO.out; omega) (by omega) HR2.out).mono ?_
    rintro e w3 ⟨s3, p3, rfl, hs3, ht3, hp3, hq3, hr3, hg3⟩
    have HR3 := Lib.hid hr3
    have HG3 := Lib.hid (HG2.out.trans hg3)
    clear hr3 hg3
    go_wp2_with fail
    have c0 : (⟨#[58]⟩ : ByteArray).size = 1 := rfl
    have c1 : (⟨#[62]⟩ : ByteArray).size = 1 := rfl
    have c2 : (⟨#[123]⟩ : ByteArray).size = 1 := rfl
    have c3 : (⟨#[125]⟩ : ByteArray).size = 1 := rfl
    go_ret
    exact ⟨_, p3, rfl, by (simp only [ByteArray.size_append]; omega), by (simp only [ByteArray.size_append]; omega), by omega, by omega, HR3.out, HG3.out⟩
  by_cases h4 : x = 4
  · subst h4
    go_wp2_with fail
    refine (HI.out 2 (f - 2) z o (p + 1) w1 (by omega) (by omega) (by have := HZ.out; omega) (by have := HO.out; omega) (by omega) HR1.out).mono ?_
    rintro e w2 ⟨s2, p2, rfl, hs2, ht2, hp2, hq2, hr2, hg2⟩
    have HR2 := Lib.hid hr2
    have HG2 := Lib.hid (HG1.out.trans hg2)
    clear hr2 hg2
    go_wp2_with fail
    refine (unbind_any z _ w2 (by have := HZ.out; omega)).mono ?_
    rintro e w9 ⟨z2, rfl, hz2, hw9⟩
    subst w9
    go_wp2_with fail
    refine (bind_any o _ w2 (by have := HO.out; omega) hnm).mono ?_
    rintro e w9 ⟨o2, rfl, ho2, hw9⟩
    subst w9
    go_wp2_with fail
    refine (HI.out 0 (f - 2) z2 o2 p2 w2 (by omega) (by omega) (by have := HZ.out; omega) (by have := HO.out; omega) (by omega) HR2.out).mono ?_
    rintro e w3 ⟨s3, p3, rfl, hs3, ht3, hp3, hq3, hr3, hg3⟩
    have HR3 := Lib.hid hr3
    have HG3 := Lib.hid (HG2.out.trans hg3)
    clear hr3 hg3
    go_wp2_with fail
    have c0 : (⟨#[58]⟩ : ByteArray).size = 1 := rfl
    have c1 : (⟨#[62]⟩ : ByteArray).size = 1 := rfl
    have c2 : (⟨#[91]⟩ : ByteArray).size = 1 := rfl
    have c3 : (⟨#[93]⟩ : ByteArray).size = 1 := rfl
    go_ret
    exact ⟨_, p3, rfl, by (simp only [ByteArray.size_append]; omega), by (simp only [ByteArray.size_append]; omega), by omega, by omega, HR3.out, HG3.out⟩
  have k0 : (x == 0) = false := by rw [beq_eq_false_iff_ne]; exact h0
  have k1 : (x == 1) = false := by rw [beq_eq_false_iff_ne]; exact h1
  have k2 : (x == 2) = false := by rw [beq_eq_false_iff_ne]; exact h2
  have k3 : (x == 3) = false := by rw [beq_eq_false_iff_ne]; exact h3
  have k4 : (x == 4) = false := by rw [beq_eq_false_iff_ne]; exact h4
  go_wp2_with fail
  refine (HI.out 1 (f - 2) z o (p + 1) w1 (by omega) (by omega) (by have := HZ.out; omega) (by have := HO.out; omega) (by omega) HR1.out).mono ?_
  rintro e w2 ⟨s2, p2, rfl, hs2, ht2, hp2, hq2, hr2, hg2⟩
  have HR2 := Lib.hid hr2
  have HG2 := Lib.hid (HG1.out.trans hg2)
  clear hr2 hg2
  go_wp2_with fail
  refine (bind_any z _ w2 (by have := HZ.out; omega) hnm).mono ?_
  rintro e w9 ⟨z2, rfl, hz2, hw9⟩
  subst w9
  go_wp2_with fail
  refine (unbind_any o _ w2 (by have := HO.out; omega)).mono ?_
  rintro e w9 ⟨o2, rfl, ho2, hw9⟩
  subst w9
  go_wp2_with fail
  refine (HI.out 0 (f - 2) z2 o2 p2 w2 (by omega) (by omega) (by have := HZ.out; omega) (by have := HO.out; omega) (by omega) HR2.out).mono ?_
  rintro e w3 ⟨s3, p3, rfl, hs3, ht3, hp3, hq3, hr3, hg3⟩
  have HR3 := Lib.hid hr3
  have HG3 := Lib.hid (HG2.out.trans hg3)
  clear hr3 hg3
  go_wp2_with fail
  have c0 : (⟨#[58]⟩ : ByteArray).size = 1 := rfl
  have c1 : (⟨#[62]⟩ : ByteArray).size = 1 := rfl
  have c2 : (⟨#[91]⟩ : ByteArray).size = 1 := rfl
  have c3 : (⟨#[93]⟩ : ByteArray).size = 1 := rfl
  go_ret
  exact ⟨_, p3, rfl, by (simp only [ByteArray.size_append]; omega), by (simp only [ByteArray.size_append]; omega), by omega, by omega, HR3.out, HG3.out⟩
end

section
open Go.RowKit

set_option maxRecDepth 100000 in
set_option maxHeartbeats 16000000 in
theorem draw_up2 (m K L g n c p : Nat) (A : Option Addr) (f : Int) (z o : ByteArray) (w : World) (hI : DrH m K L g n c A) (h : Rd13 w g A n c p) (hf : 0 < f) (hfm : f ≤ m + 1) (hm : m ≤ 20) (hL : L ≤ 100000) (hK : K ≤ 100000) (hp : p + (2 * K + 2) ≤ 800000) (hn2 : n ≤ 2000)
    (hz : z.size + m < 50) (ho : o.size + m < 50) :
    Calls Tryz.prog 52 #[.pointer (some ⟨g, 0, none⟩), .int .i64 2, .int .i64 f, .string z, .string o] w (DrP g n c p (2 * K + 2) (2 * L + 5) A w) := by
  have H := Lib.hid h
  have HI := Lib.hid hI
  obtain ⟨i, hi5, hi⟩ := name_at f z.size o.size hf (by omega) (by omega) (by omega)
  obtain ⟨zs, hzs⟩ : ∃ k, z.size = k := ⟨_, rfl⟩
  obtain ⟨os, hos⟩ : ∃ k, o.size = k := ⟨_, rfl⟩
  have HZ := Lib.hid hzs
  have HO := Lib.hid hos
  rw [hzs, hos] at hi
  rw [hzs] at hz
  rw [hos] at ho
  have hf2 : ¬ f ≤ 0 := by omega
  have hi6 : ¬ ((i : Int) < 0) := by omega
  have hnm : ((⟨#[118, 119, 120, 121, 122]⟩ : ByteArray).extract i (i + 1)).size = 1 := by rw [ext_one]; show i < 5; exact hi5
  have H7 := Lib.hid (pick_any g n c p A 3 w H.out (by omega) hn2 (by omega) (by omega))
  clear h hI
  go_enter Tryz.func52, Tryz.ntmps52
  go_wp2_with fail
  refine H7.out.mono ?_
  rintro e w1 ⟨x, rfl, hx0, hx1, hr1, hg1⟩
  have HR1 := Lib.hid hr1
  have HG1 := Lib.hid hg1
  clear hr1 hg1
  by_cases h0 : x = 0
  · subst h0
    go_wp2_with fail
    go_ret
    exact ⟨_, (p + 1), rfl, Nat.le_refl _, by show 1 ≤ _; omega, by omega, by omega, HR1.out, HG1.out⟩
  by_cases h1 : x = 1
  · subst h1
    go_wp2_with fail
    refine (HI.out 1 (f - 2) z o (p + 1) w1 (by omega) (by omega) (by have := HZ.out; omega) (by have := HO.out; omega) (by omega) HR1.out).mono ?_
    rintro e w2 ⟨s2, p2, rfl, hs2, ht2, hp2, hq2, hr2, hg2⟩
    have HR2 := Lib.hid hr2
    have HG2 := Lib.hid (HG1.out.trans hg2)
    clear hr2 hg2
    go_wp2_with fail
    refine (bind_any z _ w2 (by have := HZ.out; omega) hnm).mono ?_
    rintro e w9 ⟨z2, rfl, hz2, hw9⟩
    subst w9
    go_wp2_with fail
    refine (unbind_any o _ w2 (by have := HO.out; omega)).mono ?_
    rintro e w9 ⟨o2, rfl, ho2, hw9⟩
    subst w9
    go_wp2_with fail
    refine (HI.out 1 (f - 2) z2 o2 p2 w2 (by omega) (by omega) (by have := HZ.out; omega) (by have := HO.out; omega) (by omega) HR2.out).mono ?_
    rintro e w3 ⟨s3, p3, rfl, hs3, ht3, hp3, hq3, hr3, hg3⟩
    have HR3 := Lib.hid hr3
    have HG3 := Lib.hid (HG2.out.trans hg3)
    clear hr3 hg3
    go_wp2_with fail
    have c0 : (⟨#[58]⟩ : ByteArray).size = 1 := rfl
    have c1 : (⟨#[62]⟩ : ByteArray).size = 1 := rfl
    have c2 : (⟨#[91]⟩ : ByteArray).size = 1 := rfl
    have c3 : (⟨#[93]⟩ : ByteArray).size = 1 := rfl
    go_ret
    exact ⟨_, p3, rfl, by (simp only [ByteArray.size_append]; omega), by (simp only [ByteArray.size_append]; omega), by omega, by omega, HR3.out, HG3.out⟩
  have k0 : (x == 0) = false := by rw [beq_eq_false_iff_ne]; exact h0
  have k1 : (x == 1) = false := by rw [beq_eq_false_iff_ne]; exact h1
  go_wp2_with fail
  refine (HI.out 2 (f - 2) z o (p + 1) w1 (by omega) (by omega) (by have := HZ.out; omega) (by have := HO.out; omega) (by omega) HR1.out).mono ?_
  rintro e w2 ⟨s2, p2, rfl, hs2, ht2, hp2, hq2, hr2, hg2⟩
  have HR2 := Lib.hid hr2
  have HG2 := Lib.hid (HG1.out.trans hg2)
  clear hr2 hg2
  go_wp2_with fail
  refine (unbind_any z _ w2 (by have := HZ.out; omega)).mono ?_
  rintro e w9 ⟨z2, rfl, hz2, hw9⟩
  subst w9
  go_wp2_with fail
  refine (bind_any o _ w2 (by have := HO.out; omega) hnm).mono ?_
  rintro e w9 ⟨o2, rfl, ho2, hw9⟩
  subst w9
  go_wp2_with fail
  refine (HI.out 1 (f - 2) z2 o2 p2 w2 (by omega) (by omega) (by have := HZ.out; omega) (by have := HO.out; omega) (by omega) HR2.out).mono ?_
  rintro e w3 ⟨s3, p3, rfl, hs3, ht3, hp3, hq3, hr3, hg3⟩
  have HR3 := Lib.hid hr3
  have HG3 := Lib.hid (HG2.out.trans hg3)
  clear hr3 hg3
  go_wp2_with fail
  have c0 : (⟨#[58]⟩ : ByteArray).size = 1 := rfl
  have c1 : (⟨#[62]⟩ : ByteArray).size = 1 := rfl
  have c2 : (⟨#[91]⟩ : ByteArray).size = 1 := rfl
  have c3 : (⟨#[93]⟩ : ByteArray).size = 1 := rfl
  go_ret
  exact ⟨_, p3, rfl, by (simp only [ByteArray.size_append]; omega), by (simp only [ByteArray.size_append]; omega), by omega, by omega, HR3.out, HG3.out⟩
end

section
open Go.RowKit

def bsz : Nat → Nat
  | 0 => 1
  | m + 1 => 2 * bsz m + 5
def bk : Nat → Nat
  | 0 => 2
  | m + 1 => 2 * bk m + 2
theorem bsz_eq : ∀ m, bsz m + 5 = 6 * 2 ^ m
  | 0 => rfl
  | m + 1 => by have := bsz_eq m; simp only [bsz, Nat.pow_succ]; omega
theorem bk_eq : ∀ m, bk m + 2 = 4 * 2 ^ m
  | 0 => rfl
  | m + 1 => by have := bk_eq m; simp only [bk, Nat.pow_succ]; omega
theorem two_le {m : Nat} (h : m ≤ 10) : 2 ^ m ≤ 1024 := Nat.pow_le_pow_right (n := 2) (by omega) h
theorem two_ge (m : Nat) : 1 ≤ 2 ^ m := Nat.one_le_two_pow

theorem draw_any (g n c : Nat) (A : Option Addr) (hn2 : n ≤ 2000) : ∀ m, m ≤ 10 → DrH m (bk m) (bsz m) g n c A
  | 0, _ => fun d f z o p w hd hf hz ho hp h => by
    have : bk 0 = 2 := rfl
    exact draw_zero g n c p A d f z o w h hd hf (by omega) hn2 (by omega) (by omega)
  | m + 1, hm => fun d f z o p w hd hf hz ho hp h => by
    have b1 := bsz_eq m
    have b2 := bk_eq m
    have b3 := two_le (m := m) (by omega)
    have b4 := two_ge m
    have e1 : bk (m + 1) = 2 * bk m + 2 := rfl
    have e2 : bsz (m + 1) = 2 * bsz m + 5 := rfl
    by_cases hf0 : f ≤ 0
    · exact (draw_zero g n c p A d f z o w h hd hf0 (by omega) hn2 (by omega) (by omega)).mono fun e w' hq => hq.wide (Nat.le_refl _) (by omega) (by omega) (gr_refl _ _)
    · have hI := draw_any g n c A hn2 m (by omega)
      rw [e1, e2]
      rcases hd with rfl | rfl | rfl
      · exact draw_up0 m (bk m) (bsz m) g n c p A f z o w hI h (by omega) (by omega) (by omega) (by omega) (by omega) (by omega) hn2 (by omega) (by omega)
      · exact draw_up1 m (bk m) (bsz m) g n c p A f z o w hI h (by omega) (by omega) (by omega) (by omega) (by omega) (by omega) hn2 (by omega) (by omega)
      · exact draw_up2 m (bk m) (bsz m) g n c p A f z o w hI h (by omega) (by omega) (by omega) (by omega) (by omega) (by omega) hn2 (by omega) (by omega)

def known16 : List ByteArray := [⟨#[83, 97]⟩, ⟨#[91, 120, 58, 98, 62, 83, 120, 93]⟩, ⟨#[83, 91, 120, 58, 98, 62, 83, 91, 121, 58, 120, 62, 40, 121, 42, 121, 41, 93, 93]⟩, ⟨#[91, 120, 58, 97, 62, 73, 120, 93]⟩, ⟨#[67, 91, 120, 58, 97, 62, 73, 40, 120, 43, 49, 41, 93]⟩, ⟨#[123, 120, 58, 97, 62, 40, 120, 60, 51, 41, 125]⟩, ⟨#[91, 120, 58, 98, 62, 123, 121, 58, 120, 62, 40, 121, 60, 83, 120, 41, 125, 93]⟩, ⟨#[91, 120, 58, 97, 62, 40, 97, 64, 120, 41, 93]⟩, ⟨#[91, 120, 58, 98, 62, 91, 121, 58, 120, 62, 40, 121, 43, 78, 120, 41, 93, 93]⟩, ⟨#[80, 97]⟩, ⟨#[91, 120, 58, 98, 62, 80, 120, 93]⟩, ⟨#[82, 91, 120, 58, 97, 62, 40, 120, 43, 49, 41, 93]⟩, ⟨#[91, 120, 58, 73, 78, 97, 62, 120, 93]⟩, ⟨#[77, 91, 120, 58, 98, 62, 78, 120, 93]⟩, ⟨#[91, 120, 58, 97, 62, 91, 121, 58, 97, 62, 40, 120, 42, 121, 41, 93, 93]⟩, ⟨#[91, 120, 58, 91, 121, 58, 97, 62, 40, 121, 43, 49, 41, 93, 62, 40, 120, 42, 50, 41, 93]⟩]
theorem known_sizes : ∀ s ∈ known16, 1 ≤ s.size ∧ s.size ≤ 80 := by
  intro s hs
  simp only [known16, List.mem_cons, List.not_mem_nil, or_false] at hs
  rcases hs with rfl | rfl | rfl | rfl | rfl | rfl | rfl | rfl | rfl | rfl | rfl | rfl | rfl | rfl | rfl | rfl <;> exact ⟨by decide, by decide⟩

set_option maxRecDepth 100000 in
set_option maxHeartbeats 4000000 in
theorem known_any (x : Int) (w : World) (h0 : 0 ≤ x) (h1 : x < 16) :
    Calls Tryz.prog 50 #[.int .i64 x] w fun e w' => ∃ s, e = .returned (.string s) ∧ 1 ≤ s.size ∧ s.size ≤ 80 ∧ w.grownBy w' none := by
  obtain ⟨i, rfl⟩ : ∃ i : Nat, x = (i : Int) := ⟨x.toNat, by omega⟩
  obtain ⟨s, hs⟩ : ∃ s, known16[i]? = some s := ⟨_, List.getElem?_eq_getElem (by show i < 16; omega)⟩
  have HB := Lib.hid (known_sizes s (List.mem_of_getElem? hs))
  have hc : (w.alloc (.cells #[.string ⟨#[83, 97]⟩, .string ⟨#[91, 120, 58, 98, 62, 83, 120, 93]⟩, .string ⟨#[83, 91, 120, 58, 98, 62, 83, 91, 121, 58, 120, 62, 40, 121, 42, 121, 41, 93, 93]⟩, .string ⟨#[91, 120, 58, 97, 62, 73, 120, 93]⟩, .string ⟨#[67, 91, 120, 58, 97, 62, 73, 40, 120, 43, 49, 41, 93]⟩, .string ⟨#[123, 120, 58, 97, 62, 40, 120, 60, 51, 41, 125]⟩, .string ⟨#[91, 120, 58, 98, 62, 123, 121, 58, 120, 62, 40, 121, 60, 83, 120, 41, 125, 93]⟩, .string ⟨#[91, 120, 58, 97, 62, 40, 97, 64, 120, 41, 93]⟩, .string ⟨#[91, 120, 58, 98, 62, 91, 121, 58, 120, 62, 40, 121, 43, 78, 120, 41, 93, 93]⟩, .string ⟨#[80, 97]⟩, .string ⟨#[91, 120, 58, 98, 62, 80, 120, 93]⟩, .string ⟨#[82, 91, 120, 58, 97, 62, 40, 120, 43, 49, 41, 93]⟩, .string ⟨#[91, 120, 58, 73, 78, 97, 62, 120, 93]⟩, .string ⟨#[77, 91, 120, 58, 98, 62, 78, 120, 93]⟩, .string ⟨#[91, 120, 58, 97, 62, 91, 121, 58, 97, 62, 40, 120, 42, 121, 41, 93, 93]⟩, .string ⟨#[91, 120, 58, 91, 121, 58, 97, 62, 40, 121, 43, 49, 41, 93, 62, 40, 120, 42, 50, 41, 93]⟩] 9)).cell? ⟨w.heap.size, i, none⟩ = some (.string s) := by
    obtain ⟨b, off, e, _, hcc⟩ := strs_new w known16 9 (by decide)
    cases e
    have := hcc i s hs
    rw [Nat.zero_add] at this
    exact this
  have ht : (i : Int).tmod 16 = (i : Int) := by rw [Int.tmod_eq_emod_of_nonneg (by omega)]; omega
  clear hs
  go_enter Tryz.func50, Tryz.ntmps50
  go_wp2_with fail
  go_ret
  exact ⟨s, rfl, HB.out.1, HB.out.2, World.grownBy_alloc _ _ _⟩
end

section
open Go.RowKit

def s7L : List ByteArray := [⟨#[]⟩, ⟨#[97]⟩, ⟨#[120]⟩, ⟨#[83]⟩, ⟨#[40]⟩, ⟨#[93]⟩, ⟨#[113]⟩]
theorem s7_size : ∀ s ∈ s7L, s.size ≤ 1 := by
  intro s hs
  simp only [s7L, List.mem_cons, List.not_mem_nil, or_false] at hs
  rcases hs with rfl | rfl | rfl | rfl | rfl | rfl | rfl <;> decide
def cost7 : Nat → Nat
  | 5 => 1
  | 10 => 1
  | _ => 0
def sR (g i : Nat) (s : ByteArray) : Nat → Value → World → Prop
  | 0, v, _ => v = .string s
  | 7, v, _ => v = .string s
  | 1, v, _ => v = .int .i64 i
  | 8, v, _ => v = .int .i64 i
  | 2, v, _ => ∃ x, v = .string x ∧ x.size ≤ 80
  | 3, v, _ => v = .pointer (some ⟨g, 0, none⟩)
  | 9, v, _ => v = .pointer (some ⟨g, 0, none⟩)
  | 4, v, w => ∃ B, v = .slice (some ⟨B, 0, none⟩) 7 7 ∧ Strs w (some ⟨B, 0, none⟩) s7L ∧ B ≠ g
  | 5, v, _ => ∃ x, v = .string x ∧ x.size ≤ 1
  | 6, v, _ => ∃ x, v = .string x ∧ x.size ≤ 81
  | 10, v, _ => ∃ x, v = .int .i64 x ∧ 0 ≤ x ∧ x < 2
  | 11, v, _ => ∃ x, v = .int .i64 ((i : Int) + x) ∧ 0 ≤ x ∧ x < 2
  | 12, v, _ => ∃ x, v = .string x ∧ x.size ≤ 80
  | _, v, _ => ∃ x, v = .string x ∧ x.size ≤ 161
theorem sR_mono {g i : Nat} {s : ByteArray} {j : Nat} {v : Value} {w w' : World} (h : sR g i s j v w) (hg : w.grownBy w' (some g)) : sR g i s j v w' := by
  by_cases hj : j = 4
  · subst hj
    obtain ⟨B, e, hB, hne⟩ := h
    exact ⟨B, e, hB.grownG hg (fun b off e => by cases e; simpa using hne), hne⟩
  · unfold sR at h ⊢
    split at h <;> first | exact h | exact absurd rfl hj

/-- How l5Some ends. -/
def SomeP (g n c p : Nat) (A : Option Addr) (w : World) (e : Ending) (w' : World) : Prop := ∃ s p', e = .returned (.string s) ∧ s.size ≤ 161 ∧ p ≤ p' ∧ p' ≤ p + 1000 ∧ Rd13 w' g A n c p' ∧ w.grownBy w' (some g)

set_option maxRecDepth 100000 in
set_option maxHeartbeats 16000000 in
theorem some_any (g n c p : Nat) (A : Option Addr) (w : World) (h : Rd13 w g A n c p) (hp : p ≤ 100000) (hn2 : n ≤ 2000) :
    Calls Tryz.prog 29 #[.pointer (some ⟨g, 0, none⟩)] w (SomeP g n c p A w) := by
  have H16 := Lib.hid (pick_any g n c p A 16 w h (by omega) hn2 (by omega) (by omega))
  have HDR := Lib.hid (draw_any g n c A hn2 6 (by omega))
  have hbk : bk 6 = 254 := rfl
  have hbz : bsz 6 = 379 := rfl
  rw [hbk, hbz] at HDR
  clear h hbk hbz
  go_enter Tryz.func29, Tryz.ntmps29
  go_wp2_with fail
  refine H16.out.mono ?_
  rintro e w1 ⟨x, rfl, hx0, hx1, hr1, hg1⟩
  have HR1 := Lib.hid hr1
  have HG1 := Lib.hid hg1
  clear hr1 hg1 H16
  go_wp2_with fail
  refine (known_any x w1 hx0 hx1).mono ?_
  rintro e w2 ⟨s, rfl, hs1, hs2, hg2⟩
  have HR2 := Lib.hid (HR1.out.grown hg2 (by simp) (by simp))
  have HG2 := Lib.hid (HG1.out.trans (gr_someG hg2))
  have H3 := Lib.hid (pick_any g n c (p + 1) A 3 w2 HR2.out (by omega) hn2 (by omega) (by omega))
  clear hg2 hx0 hx1
  go_wp2_with fail
  refine H3.out.mono ?_
  rintro e w3 ⟨x3, rfl, hx0, hx1, hr3, hg3⟩
  have HR3 := Lib.hid hr3
  have HG3 := Lib.hid (HG2.out.trans hg3)
  clear hr3 hg3 H3
  by_cases hx : 0 < x3
  · clear hs1 hs2
    have H3b := Lib.hid (pick_any g n c (p + 1 + 1) A 3 w3 HR3.out (by omega) hn2 (by omega) (by omega))
    go_wp2_with fail
    refine H3b.out.mono ?_
    rintro e w4 ⟨x4, rfl, hx40, hx41, hr4, hg4⟩
    have HR4 := Lib.hid hr4
    have HG4 := Lib.hid (HG3.out.trans hg4)
    clear hr4 hg4 H3b
    have H5b := Lib.hid (pick_any g n c (p + 1 + 1 + 1) A 5 w4 HR4.out (by omega) hn2 (by omega) (by omega))
    go_wp2_with fail
    refine H5b.out.mono ?_
    rintro e w5 ⟨x5, rfl, hx50, hx51, hr5, hg5⟩
    have HR5 := Lib.hid hr5
    have HG5 := Lib.hid (HG4.out.trans hg5)
    clear hr5 hg5 H5b
    go_wp2_with fail
    refine (HDR.out x4 (2 + x5) ⟨#[]⟩ ⟨#[]⟩ (p + 1 + 1 + 1 + 1) w5 (by omega) (by omega) (by show 0 + 6 ≤ 50; omega) (by show 0 + 6 ≤ 50; omega) (by omega) HR5.out).mono ?_
    rintro e w6 ⟨s, p6, rfl, hs1, hs2, hp1, hp2, hr6, hg6⟩
    have HR6 := Lib.hid hr6
    have HG6 := Lib.hid (HG5.out.trans hg6)
    clear hr6 hg6
    by_cases h80 : 80 < s.size
    · obtain ⟨s0, hs0⟩ : ∃ z, s = z := ⟨_, rfl⟩
      rw [hs0] at h80 hs1 hs2 ⊢
      clear hs0 hs1 hs2 s
      obtain ⟨s, hsA⟩ : ∃ z, z = (⟨#[83, 97]⟩ : ByteArray) := ⟨_, rfl⟩
      have hs1 : 1 ≤ s.size := by rw [hsA]; decide
      have hs2 : s.size ≤ 80 := by rw [hsA]; decide
      have H18 := Lib.hid (pick_any g n c p6 A 18 w6 HR6.out (by omega) hn2 (by omega) (by omega))
      go_wp2_with fail
      rw [← hsA]
      clear hsA h80
      refine H18.out.mono ?_
      rintro e w8 ⟨x8, rfl, hx80, hx81, hr8, hg8⟩
      have HR8 := Lib.hid hr8
      have HG8 := Lib.hid (HG6.out.trans hg8)
      clear hr8 hg8 H18
      by_cases hx8 : 0 < x8
      · go_wp2_with fail
        go_ret
        exact ⟨s, p6 + 1, rfl, by omega, by omega, by omega, HR8.out, HG8.out⟩
      · obtain ⟨ss, hss⟩ : ∃ q, s.size = q := ⟨_, rfl⟩
        have HSS := Lib.hid hss
        have hss1 : 1 ≤ ss ∧ ss ≤ 80 := by omega
        have HLEN := Lib.hid (pick_any g n c (p6 + 1) A ss w8 HR8.out (by omega) hn2 (by omega) (by omega))
        clear hs1 hs2
        go_wp2_with fail
        refine HLEN.out.mono ?_
        rintro e w9 ⟨x9, rfl, hx90, hx91, hr9, hg9⟩
        obtain ⟨i, rfl⟩ : ∃ i : Nat, x9 = (i : Int) := ⟨x9.toNat, by omega⟩
        have HRK := Lib.hid hr9
        have HGK := Lib.hid (HG8.out.trans hg9)
        clear hr9 hg9
        go_wp2_with fail
        refine wp_region_jsteps (u := w9) 43 rfl (by kernel_rfl) (fun w w' => w.grownBy w' (some g)) (sR g i s) cost7 (fun k w => ∃ p', (p6 + 1 + 1) ≤ p' ∧ p' ≤ (p6 + 1 + 1) + k ∧ Rd13 w g A n c p') (by kernel_rfl) (fun _ _ _ h1 h2 => h1.trans h2) (fun j v w w' h hg => sR_mono h hg) ?_ ?_ _ (gr_drewN _ _ _) ⟨(p6 + 1 + 1), Nat.le_refl _, Nat.le_refl _, HRK.out.grown (gr_drewN _ 1 none) (by simp) (by simp)⟩
        · intro a' w' hdf hgr hfar hall ⟨k9, hk9, p9, j1, j2, j3⟩
          have hk8 : k9 ≤ 2 := hk9
          obtain ⟨x, e2, hx⟩ : ∃ x, a'.tmps.getD 2 undef = .string x ∧ x.size ≤ 161 := hall 14 _ 2 rfl rfl
          have e2' : a'.tmps[2]?.getD undef = .string x := by rw [← e2]; simp
          go_wp2_with fail
          refine bodyPost_ret (v := .string x) (by simp [results, Tryz.results29, go_sem, e2']) hdf ?_
          exact ⟨x, p9, rfl, by omega, by omega, by omega, j3, HGK.out.trans hgr⟩
        refine ⟨?_, ?_, ?_, ?_, ?_, ?_, ?_, ?_, ?_, ?_, ?_, ?_, ?_, ?_, ?_, trivial⟩
        · intro a' w' k hdf hgr hfar hdep hJ hk
          have hkk : k ≤ 2 := by have h9 : spentAll cost7 15 = 2 := rfl; exact Nat.le_trans (Nat.le_add_right _ _) (h9 ▸ hk)
          have e3 : a'.tmps.getD 3 undef = .string s := hfar 3 (by kernel_rfl)
          go_simp
          exact ⟨_, rfl, gr_refl _ _, rfl, hJ⟩
        · intro a' w' k hdf hgr hfar hdep hJ hk
          have hkk : k ≤ 2 := by have h9 : spentAll cost7 15 = 2 := rfl; exact Nat.le_trans (Nat.le_add_right _ _) (h9 ▸ hk)
          have e4 : a'.tmps.getD 4 undef = .int .i64 i := hfar 4 (by kernel_rfl)
          go_simp
          exact ⟨_, rfl, gr_refl _ _, rfl, hJ⟩
        · intro a' w' k hdf hgr hfar hdep hJ hk
          have hkk : k ≤ 2 := by have h9 : spentAll cost7 15 = 2 := rfl; exact Nat.le_trans (Nat.le_add_right _ _) (h9 ▸ hk)
          have e29 : a'.tmps.getD 29 undef = .string s := hdep 0 _ 29 (by kernel_rfl) rfl rfl
          have e30 : a'.tmps.getD 30 undef = .int .i64 i := hdep 1 _ 30 (by kernel_rfl) rfl rfl
          have q1 : i ≤ ss := by omega
          go_simp
          exact ⟨_, rfl, gr_refl _ _, ⟨_, rfl, by simp only [ByteArray.size_extract]; omega⟩, hJ⟩
        · intro a' w' k hdf hgr hfar hdep hJ hk
          have hkk : k ≤ 2 := by have h9 : spentAll cost7 15 = 2 := rfl; exact Nat.le_trans (Nat.le_add_right _ _) (h9 ▸ hk)
          have e0 : a'.tmps.getD 0 undef = .pointer (some ⟨g, 0, none⟩) := hfar 0 (by kernel_rfl)
          go_simp
          exact ⟨_, rfl, gr_refl _ _, rfl, hJ⟩
        · intro a' w' k hdf hgr hfar hdep hJ hk
          have hkk : k ≤ 2 := by have h9 : spentAll cost7 15 = 2 := rfl; exact Nat.le_trans (Nat.le_add_right _ _) (h9 ▸ hk)
          go_simp
          obtain ⟨p9, j1, j2, j3⟩ := hJ
          exact ⟨_, rfl, gr_someG (World.grownBy_alloc _ _ none), ⟨w'.heap.size, rfl, strs_new w' s7L _, by have := j3.lt; omega⟩, ⟨p9, j1, j2, j3.grown (World.grownBy_alloc _ _ none) (by simp) (by simp)⟩⟩
        · intro a' w' k hdf hgr hfar hdep hJ hk
          have hkk : k ≤ 2 := by have h9 : spentAll cost7 15 = 2 := rfl; exact Nat.le_trans (Nat.le_add_right _ _) (h9 ▸ hk)
          have e32 : a'.tmps.getD 32 undef = .pointer (some ⟨g, 0, none⟩) := hdep 3 _ 32 (by kernel_rfl) rfl rfl
          obtain ⟨B, e33, hB, hBg⟩ : ∃ B, a'.tmps.getD 33 undef = .slice (some ⟨B, 0, none⟩) 7 7 ∧ Strs w' (some ⟨B, 0, none⟩) s7L ∧ B ≠ g := hdep 4 _ 33 (by kernel_rfl) rfl rfl
          obtain ⟨p9, j1, j2, j3⟩ := hJ
          go_simp
          refine (oftxt_any g n c p9 A _ 7 s7L w' j3 hB (fun b off e => by cases e; exact hBg) (by omega) hn2 (by decide) (by decide)).mono ?_
          rintro e w2 ⟨x, rfl, hx, hr, hg⟩
          exact ⟨_, rfl, hg, ⟨x, rfl, s7_size x hx⟩, ⟨p9 + 1, by omega, by simp only [cost7]; omega, hr⟩⟩
        · intro a' w' k hdf hgr hfar hdep hJ hk
          have hkk : k ≤ 2 := by have h9 : spentAll cost7 15 = 2 := rfl; exact Nat.le_trans (Nat.le_add_right _ _) (h9 ▸ hk)
          obtain ⟨x, e31, hx⟩ : ∃ x, a'.tmps.getD 31 undef = .string x ∧ x.size ≤ 80 := hdep 2 _ 31 (by kernel_rfl) rfl rfl
          obtain ⟨y, e34, hy⟩ : ∃ x, a'.tmps.getD 34 undef = .string x ∧ x.size ≤ 1 := hdep 5 _ 34 (by kernel_rfl) rfl rfl
          have q1 : ¬ 9223372036854775807 < x.size + y.size := by omega
          go_simp
          exact ⟨_, rfl, gr_refl _ _, ⟨_, rfl, by simp only [ByteArray.size_append]; omega⟩, hJ⟩
        · intro a' w' k hdf hgr hfar hdep hJ hk
          have hkk : k ≤ 2 := by have h9 : spentAll cost7 15 = 2 := rfl; exact Nat.le_trans (Nat.le_add_right _ _) (h9 ▸ hk)
          have e3 : a'.tmps.getD 3 undef = .string s := hfar 3 (by kernel_rfl)
          go_simp
          exact ⟨_, rfl, gr_refl _ _, rfl, hJ⟩
        · intro a' w' k hdf hgr hfar hdep hJ hk
          have hkk : k ≤ 2 := by have h9 : spentAll cost7 15 = 2 := rfl; exact Nat.le_trans (Nat.le_add_right _ _) (h9 ▸ hk)
          have e4 : a'.tmps.getD 4 undef = .int .i64 i := hfar 4 (by kernel_rfl)
          go_simp
          exact ⟨_, rfl, gr_refl _ _, rfl, hJ⟩
        · intro a' w' k hdf hgr hfar hdep hJ hk
          have hkk : k ≤ 2 := by have h9 : spentAll cost7 15 = 2 := rfl; exact Nat.le_trans (Nat.le_add_right _ _) (h9 ▸ hk)
          have e0 : a'.tmps.getD 0 undef = .pointer (some ⟨g, 0, none⟩) := hfar 0 (by kernel_rfl)
          go_simp
          exact ⟨_, rfl, gr_refl _ _, rfl, hJ⟩
        · intro a' w' k hdf hgr hfar hdep hJ hk
          have hkk : k ≤ 2 := by have h9 : spentAll cost7 15 = 2 := rfl; exact Nat.le_trans (Nat.le_add_right _ _) (h9 ▸ hk)
          have e38 : a'.tmps.getD 38 undef = .pointer (some ⟨g, 0, none⟩) := hdep 9 _ 38 (by kernel_rfl) rfl rfl
          obtain ⟨p9, j1, j2, j3⟩ := hJ
          go_simp
          refine (pick_any g n c p9 A 2 w' j3 (by omega) hn2 (by omega) (by omega)).mono ?_
          rintro e w2 ⟨x, rfl, hx0, hx1, hr, hg⟩
          exact ⟨_, rfl, hg, ⟨x, rfl, hx0, hx1⟩, ⟨p9 + 1, by omega, by simp only [cost7]; omega, hr⟩⟩
        · intro a' w' k hdf hgr hfar hdep hJ hk
          have hkk : k ≤ 2 := by have h9 : spentAll cost7 15 = 2 := rfl; exact Nat.le_trans (Nat.le_add_right _ _) (h9 ▸ hk)
          have e37 : a'.tmps.getD 37 undef = .int .i64 i := hdep 8 _ 37 (by kernel_rfl) rfl rfl
          obtain ⟨x, e39, hx0, hx1⟩ : ∃ x, a'.tmps.getD 39 undef = .int .i64 x ∧ 0 ≤ x ∧ x < 2 := hdep 10 _ 39 (by kernel_rfl) rfl rfl
          have q1 : IntKind.i64.wrap ((i : Int) + x) = (i : Int) + x := IntWalk.i64_in _ (by omega)
          go_simp
          exact ⟨_, rfl, gr_refl _ _, ⟨x, rfl, hx0, hx1⟩, hJ⟩
        · intro a' w' k hdf hgr hfar hdep hJ hk
          have hkk : k ≤ 2 := by have h9 : spentAll cost7 15 = 2 := rfl; exact Nat.le_trans (Nat.le_add_right _ _) (h9 ▸ hk)
          have e36 : a'.tmps.getD 36 undef = .string s := hdep 7 _ 36 (by kernel_rfl) rfl rfl
          obtain ⟨x, e40, hx0, hx1⟩ : ∃ x, a'.tmps.getD 40 undef = .int .i64 ((i : Int) + x) ∧ 0 ≤ x ∧ x < 2 := hdep 11 _ 40 (by kernel_rfl) rfl rfl
          obtain ⟨j, rfl⟩ : ∃ j : Nat, x = (j : Int) := ⟨x.toNat, by omega⟩
          have q1 : 0 ≤ (i : Int) + (j : Int) ∧ (i : Int) + (j : Int) ≤ (ss : Int) := by omega
          go_simp
          exact ⟨_, rfl, gr_refl _ _, ⟨_, rfl, by simp only [ByteArray.size_extract]; omega⟩, hJ⟩
        · intro a' w' k hdf hgr hfar hdep hJ hk
          have hkk : k ≤ 2 := by have h9 : spentAll cost7 15 = 2 := rfl; exact Nat.le_trans (Nat.le_add_right _ _) (h9 ▸ hk)
          obtain ⟨x, e35, hx⟩ : ∃ x, a'.tmps.getD 35 undef = .string x ∧ x.size ≤ 81 := hdep 6 _ 35 (by kernel_rfl) rfl rfl
          obtain ⟨y, e41, hy⟩ : ∃ x, a'.tmps.getD 41 undef = .string x ∧ x.size ≤ 80 := hdep 12 _ 41 (by kernel_rfl) rfl rfl
          have q1 : ¬ 9223372036854775807 < x.size + y.size := by omega
          go_simp
          exact ⟨_, rfl, gr_refl _ _, ⟨_, rfl, by simp only [ByteArray.size_append]; omega⟩, hJ⟩
        · intro a' w' k hdf hgr hfar hdep hJ hk
          have hkk : k ≤ 2 := by have h9 : spentAll cost7 15 = 2 := rfl; exact Nat.le_trans (Nat.le_add_right _ _) (h9 ▸ hk)
          obtain ⟨x, e42, hx⟩ : ∃ x, a'.tmps.getD 42 undef = .string x ∧ x.size ≤ 161 := hdep 13 _ 42 (by kernel_rfl) rfl rfl
          go_simp
          exact ⟨_, rfl, gr_refl _ _, ⟨x, rfl, hx⟩, hJ⟩
    · have hs2 : s.size ≤ 80 := by omega
      have H18 := Lib.hid (pick_any g n c p6 A 18 w6 HR6.out (by omega) hn2 (by omega) (by omega))
      go_wp2_with fail
      refine H18.out.mono ?_
      rintro e w8 ⟨x8, rfl, hx80, hx81, hr8, hg8⟩
      have HR8 := Lib.hid hr8
      have HG8 := Lib.hid (HG6.out.trans hg8)
      clear hr8 hg8 H18
      by_cases hx8 : 0 < x8
      · go_wp2_with fail
        go_ret
        exact ⟨s, p6 + 1, rfl, by omega, by omega, by omega, HR8.out, HG8.out⟩
      · obtain ⟨ss, hss⟩ : ∃ q, s.size = q := ⟨_, rfl⟩
        have HSS := Lib.hid hss
        have hss1 : 1 ≤ ss ∧ ss ≤ 80 := by omega
        have HLEN := Lib.hid (pick_any g n c (p6 + 1) A ss w8 HR8.out (by omega) hn2 (by omega) (by omega))
        clear hs1 hs2
        go_wp2_with fail
        refine HLEN.out.mono ?_
        rintro e w9 ⟨x9, rfl, hx90, hx91, hr9, hg9⟩
        obtain ⟨i, rfl⟩ : ∃ i : Nat, x9 = (i : Int) := ⟨x9.toNat, by omega⟩
        have HRK := Lib.hid hr9
        have HGK := Lib.hid (HG8.out.trans hg9)
        clear hr9 hg9
        go_wp2_with fail
        refine wp_region_jsteps (u := w9) 43 rfl (by kernel_rfl) (fun w w' => w.grownBy w' (some g)) (sR g i s) cost7 (fun k w => ∃ p', (p6 + 1 + 1) ≤ p' ∧ p' ≤ (p6 + 1 + 1) + k ∧ Rd13 w g A n c p') (by kernel_rfl) (fun _ _ _ h1 h2 => h1.trans h2) (fun j v w w' h hg => sR_mono h hg) ?_ ?_ _ (gr_drewN _ _ _) ⟨(p6 + 1 + 1), Nat.le_refl _, Nat.le_refl _, HRK.out.grown (gr_drewN _ 1 none) (by simp) (by simp)⟩
        · intro a' w' hdf hgr hfar hall ⟨k9, hk9, p9, j1, j2, j3⟩
          have hk8 : k9 ≤ 2 := hk9
          obtain ⟨x, e2, hx⟩ : ∃ x, a'.tmps.getD 2 undef = .string x ∧ x.size ≤ 161 := hall 14 _ 2 rfl rfl
          have e2' : a'.tmps[2]?.getD undef = .string x := by rw [← e2]; simp
          go_wp2_with fail
          refine bodyPost_ret (v := .string x) (by simp [results, Tryz.results29, go_sem, e2']) hdf ?_
          exact ⟨x, p9, rfl, by omega, by omega, by omega, j3, HGK.out.trans hgr⟩
        refine ⟨?_, ?_, ?_, ?_, ?_, ?_, ?_, ?_, ?_, ?_, ?_, ?_, ?_, ?_, ?_, trivial⟩
        · intro a' w' k hdf hgr hfar hdep hJ hk
          have hkk : k ≤ 2 := by have h9 : spentAll cost7 15 = 2 := rfl; exact Nat.le_trans (Nat.le_add_right _ _) (h9 ▸ hk)
          have e3 : a'.tmps.getD 3 undef = .string s := hfar 3 (by kernel_rfl)
          go_simp
          exact ⟨_, rfl, gr_refl _ _, rfl, hJ⟩
        · intro a' w' k hdf hgr hfar hdep hJ hk
          have hkk : k ≤ 2 := by have h9 : spentAll cost7 15 = 2 := rfl; exact Nat.le_trans (Nat.le_add_right _ _) (h9 ▸ hk)
          have e4 : a'.tmps.getD 4 undef = .int .i64 i := hfar 4 (by kernel_rfl)
          go_simp
          exact ⟨_, rfl, gr_refl _ _, rfl, hJ⟩
        · intro a' w' k hdf hgr hfar hdep hJ hk
          have hkk : k ≤ 2 := by have h9 : spentAll cost7 15 = 2 := rfl; exact Nat.le_trans (Nat.le_add_right _ _) (h9 ▸ hk)
          have e29 : a'.tmps.getD 29 undef = .string s := hdep 0 _ 29 (by kernel_rfl) rfl rfl
          have e30 : a'.tmps.getD 30 undef = .int .i64 i := hdep 1 _ 30 (by kernel_rfl) rfl rfl
          have q1 : i ≤ ss := by omega
          go_simp
          exact ⟨_, rfl, gr_refl _ _, ⟨_, rfl, by simp only [ByteArray.size_extract]; omega⟩, hJ⟩
        · intro a' w' k hdf hgr hfar hdep hJ hk
          have hkk : k ≤ 2 := by have h9 : spentAll cost7 15 = 2 := rfl; exact Nat.le_trans (Nat.le_add_right _ _) (h9 ▸ hk)
          have e0 : a'.tmps.getD 0 undef = .pointer (some ⟨g, 0, none⟩) := hfar 0 (by kernel_rfl)
          go_simp
          exact ⟨_, rfl, gr_refl _ _, rfl, hJ⟩
        · intro a' w' k hdf hgr hfar hdep hJ hk
          have hkk : k ≤ 2 := by have h9 : spentAll cost7 15 = 2 := rfl; exact Nat.le_trans (Nat.le_add_right _ _) (h9 ▸ hk)
          go_simp
          obtain ⟨p9, j1, j2, j3⟩ := hJ
          exact ⟨_, rfl, gr_someG (World.grownBy_alloc _ _ none), ⟨w'.heap.size, rfl, strs_new w' s7L _, by have := j3.lt; omega⟩, ⟨p9, j1, j2, j3.grown (World.grownBy_alloc _ _ none) (by simp) (by simp)⟩⟩
        · intro a' w' k hdf hgr hfar hdep hJ hk
          have hkk : k ≤ 2 := by have h9 : spentAll cost7 15 = 2 := rfl; exact Nat.le_trans (Nat.le_add_right _ _) (h9 ▸ hk)
          have e32 : a'.tmps.getD 32 undef = .pointer (some ⟨g, 0, none⟩) := hdep 3 _ 32 (by kernel_rfl) rfl rfl
          obtain ⟨B, e33, hB, hBg⟩ : ∃ B, a'.tmps.getD 33 undef = .slice (some ⟨B, 0, none⟩) 7 7 ∧ Strs w' (some ⟨B, 0, none⟩) s7L ∧ B ≠ g := hdep 4 _ 33 (by kernel_rfl) rfl rfl
          obtain ⟨p9, j1, j2, j3⟩ := hJ
          go_simp
          refine (oftxt_any g n c p9 A _ 7 s7L w' j3 hB (fun b off e => by cases e; exact hBg) (by omega) hn2 (by decide) (by decide)).mono ?_
          rintro e w2 ⟨x, rfl, hx, hr, hg⟩
          exact ⟨_, rfl, hg, ⟨x, rfl, s7_size x hx⟩, ⟨p9 + 1, by omega, by simp only [cost7]; omega, hr⟩⟩
        · intro a' w' k hdf hgr hfar hdep hJ hk
          have hkk : k ≤ 2 := by have h9 : spentAll cost7 15 = 2 := rfl; exact Nat.le_trans (Nat.le_add_right _ _) (h9 ▸ hk)
          obtain ⟨x, e31, hx⟩ : ∃ x, a'.tmps.getD 31 undef = .string x ∧ x.size ≤ 80 := hdep 2 _ 31 (by kernel_rfl) rfl rfl
          obtain ⟨y, e34, hy⟩ : ∃ x, a'.tmps.getD 34 undef = .string x ∧ x.size ≤ 1 := hdep 5 _ 34 (by kernel_rfl) rfl rfl
          have q1 : ¬ 9223372036854775807 < x.size + y.size := by omega
          go_simp
          exact ⟨_, rfl, gr_refl _ _, ⟨_, rfl, by simp only [ByteArray.size_append]; omega⟩, hJ⟩
        · intro a' w' k hdf hgr hfar hdep hJ hk
          have hkk : k ≤ 2 := by have h9 : spentAll cost7 15 = 2 := rfl; exact Nat.le_trans (Nat.le_add_right _ _) (h9 ▸ hk)
          have e3 : a'.tmps.getD 3 undef = .string s := hfar 3 (by kernel_rfl)
          go_simp
          exact ⟨_, rfl, gr_refl _ _, rfl, hJ⟩
        · intro a' w' k hdf hgr hfar hdep hJ hk
          have hkk : k ≤ 2 := by have h9 : spentAll cost7 15 = 2 := rfl; exact Nat.le_trans (Nat.le_add_right _ _) (h9 ▸ hk)
          have e4 : a'.tmps.getD 4 undef = .int .i64 i := hfar 4 (by kernel_rfl)
          go_simp
          exact ⟨_, rfl, gr_refl _ _, rfl, hJ⟩
        · intro a' w' k hdf hgr hfar hdep hJ hk
          have hkk : k ≤ 2 := by have h9 : spentAll cost7 15 = 2 := rfl; exact Nat.le_trans (Nat.le_add_right _ _) (h9 ▸ hk)
          have e0 : a'.tmps.getD 0 undef = .pointer (some ⟨g, 0, none⟩) := hfar 0 (by kernel_rfl)
          go_simp
          exact ⟨_, rfl, gr_refl _ _, rfl, hJ⟩
        · intro a' w' k hdf hgr hfar hdep hJ hk
          have hkk : k ≤ 2 := by have h9 : spentAll cost7 15 = 2 := rfl; exact Nat.le_trans (Nat.le_add_right _ _) (h9 ▸ hk)
          have e38 : a'.tmps.getD 38 undef = .pointer (some ⟨g, 0, none⟩) := hdep 9 _ 38 (by kernel_rfl) rfl rfl
          obtain ⟨p9, j1, j2, j3⟩ := hJ
          go_simp
          refine (pick_any g n c p9 A 2 w' j3 (by omega) hn2 (by omega) (by omega)).mono ?_
          rintro e w2 ⟨x, rfl, hx0, hx1, hr, hg⟩
          exact ⟨_, rfl, hg, ⟨x, rfl, hx0, hx1⟩, ⟨p9 + 1, by omega, by simp only [cost7]; omega, hr⟩⟩
        · intro a' w' k hdf hgr hfar hdep hJ hk
          have hkk : k ≤ 2 := by have h9 : spentAll cost7 15 = 2 := rfl; exact Nat.le_trans (Nat.le_add_right _ _) (h9 ▸ hk)
          have e37 : a'.tmps.getD 37 undef = .int .i64 i := hdep 8 _ 37 (by kernel_rfl) rfl rfl
          obtain ⟨x, e39, hx0, hx1⟩ : ∃ x, a'.tmps.getD 39 undef = .int .i64 x ∧ 0 ≤ x ∧ x < 2 := hdep 10 _ 39 (by kernel_rfl) rfl rfl
          have q1 : IntKind.i64.wrap ((i : Int) + x) = (i : Int) + x := IntWalk.i64_in _ (by omega)
          go_simp
          exact ⟨_, rfl, gr_refl _ _, ⟨x, rfl, hx0, hx1⟩, hJ⟩
        · intro a' w' k hdf hgr hfar hdep hJ hk
          have hkk : k ≤ 2 := by have h9 : spentAll cost7 15 = 2 := rfl; exact Nat.le_trans (Nat.le_add_right _ _) (h9 ▸ hk)
          have e36 : a'.tmps.getD 36 undef = .string s := hdep 7 _ 36 (by kernel_rfl) rfl rfl
          obtain ⟨x, e40, hx0, hx1⟩ : ∃ x, a'.tmps.getD 40 undef = .int .i64 ((i : Int) + x) ∧ 0 ≤ x ∧ x < 2 := hdep 11 _ 40 (by kernel_rfl) rfl rfl
          obtain ⟨j, rfl⟩ : ∃ j : Nat, x = (j : Int) := ⟨x.toNat, by omega⟩
          have q1 : 0 ≤ (i : Int) + (j : Int) ∧ (i : Int) + (j : Int) ≤ (ss : Int) := by omega
          go_simp
          exact ⟨_, rfl, gr_refl _ _, ⟨_, rfl, by simp only [ByteArray.size_extract]; omega⟩, hJ⟩
        · intro a' w' k hdf hgr hfar hdep hJ hk
          have hkk : k ≤ 2 := by have h9 : spentAll cost7 15 = 2 := rfl; exact Nat.le_trans (Nat.le_add_right _ _) (h9 ▸ hk)
          obtain ⟨x, e35, hx⟩ : ∃ x, a'.tmps.getD 35 undef = .string x ∧ x.size ≤ 81 := hdep 6 _ 35 (by kernel_rfl) rfl rfl
          obtain ⟨y, e41, hy⟩ : ∃ x, a'.tmps.getD 41 undef = .string x ∧ x.size ≤ 80 := hdep 12 _ 41 (by kernel_rfl) rfl rfl
          have q1 : ¬ 9223372036854775807 < x.size + y.size := by omega
          go_simp
          exact ⟨_, rfl, gr_refl _ _, ⟨_, rfl, by simp only [ByteArray.size_append]; omega⟩, hJ⟩
        · intro a' w' k hdf hgr hfar hdep hJ hk
          have hkk : k ≤ 2 := by have h9 : spentAll cost7 15 = 2 := rfl; exact Nat.le_trans (Nat.le_add_right _ _) (h9 ▸ hk)
          obtain ⟨x, e42, hx⟩ : ∃ x, a'.tmps.getD 42 undef = .string x ∧ x.size ≤ 161 := hdep 13 _ 42 (by kernel_rfl) rfl rfl
          go_simp
          exact ⟨_, rfl, gr_refl _ _, ⟨x, rfl, hx⟩, hJ⟩
  · have h80 : ¬ 80 < s.size := by omega
    have H18 := Lib.hid (pick_any g n c (p + 1 + 1) A 18 w3 HR3.out (by omega) hn2 (by omega) (by omega))
    go_wp2_with fail
    refine H18.out.mono ?_
    rintro e w8 ⟨x8, rfl, hx80, hx81, hr8, hg8⟩
    have HR8 := Lib.hid hr8
    have HG8 := Lib.hid (HG3.out.trans hg8)
    clear hr8 hg8 H18
    by_cases hx8 : 0 < x8
    · go_wp2_with fail
      go_ret
      exact ⟨s, (p + 1 + 1) + 1, rfl, by omega, by omega, by omega, HR8.out, HG8.out⟩
    · obtain ⟨ss, hss⟩ : ∃ q, s.size = q := ⟨_, rfl⟩
      have HSS := Lib.hid hss
      have hss1 : 1 ≤ ss ∧ ss ≤ 80 := by omega
      have HLEN := Lib.hid (pick_any g n c ((p + 1 + 1) + 1) A ss w8 HR8.out (by omega) hn2 (by omega) (by omega))
      clear hs1 hs2
      go_wp2_with fail
      refine HLEN.out.mono ?_
      rintro e w9 ⟨x9, rfl, hx90, hx91, hr9, hg9⟩
      obtain ⟨i, rfl⟩ : ∃ i : Nat, x9 = (i : Int) := ⟨x9.toNat, by omega⟩
      have HRK := Lib.hid hr9
      have HGK := Lib.hid (HG8.out.trans hg9)
      clear hr9 hg9
      go_wp2_with fail
      refine wp_region_jsteps (u := w9) 43 rfl (by kernel_rfl) (fun w w' => w.grownBy w' (some g)) (sR g i s) cost7 (fun k w => ∃ p', ((p + 1 + 1) + 1 + 1) ≤ p' ∧ p' ≤ ((p + 1 + 1) + 1 + 1) + k ∧ Rd13 w g A n c p') (by kernel_rfl) (fun _ _ _ h1 h2 => h1.trans h2) (fun j v w w' h hg => sR_mono h hg) ?_ ?_ _ (gr_drewN _ _ _) ⟨((p + 1 + 1) + 1 + 1), Nat.le_refl _, Nat.le_refl _, HRK.out.grown (gr_drewN _ 1 none) (by simp) (by simp)⟩
      · intro a' w' hdf hgr hfar hall ⟨k9, hk9, p9, j1, j2, j3⟩
        have hk8 : k9 ≤ 2 := hk9
        obtain ⟨x, e2, hx⟩ : ∃ x, a'.tmps.getD 2 undef = .string x ∧ x.size ≤ 161 := hall 14 _ 2 rfl rfl
        have e2' : a'.tmps[2]?.getD undef = .string x := by rw [← e2]; simp
        go_wp2_with fail
        refine bodyPost_ret (v := .string x) (by simp [results, Tryz.results29, go_sem, e2']) hdf ?_
        exact ⟨x, p9, rfl, by omega, by omega, by omega, j3, HGK.out.trans hgr⟩
      refine ⟨?_, ?_, ?_, ?_, ?_, ?_, ?_, ?_, ?_, ?_, ?_, ?_, ?_, ?_, ?_, trivial⟩
      · intro a' w' k hdf hgr hfar hdep hJ hk
        have hkk : k ≤ 2 := by have h9 : spentAll cost7 15 = 2 := rfl; exact Nat.le_trans (Nat.le_add_right _ _) (h9 ▸ hk)
        have e3 : a'.tmps.getD 3 undef = .string s := hfar 3 (by kernel_rfl)
        go_simp
        exact ⟨_, rfl, gr_refl _ _, rfl, hJ⟩
      · intro a' w' k hdf hgr hfar hdep hJ hk
        have hkk : k ≤ 2 := by have h9 : spentAll cost7 15 = 2 := rfl; exact Nat.le_trans (Nat.le_add_right _ _) (h9 ▸ hk)
        have e4 : a'.tmps.getD 4 undef = .int .i64 i := hfar 4 (by kernel_rfl)
        go_simp
        exact ⟨_, rfl, gr_refl _ _, rfl, hJ⟩
      · intro a' w' k hdf hgr hfar hdep hJ hk
        have hkk : k ≤ 2 := by have h9 : spentAll cost7 15 = 2 := rfl; exact Nat.le_trans (Nat.le_add_right _ _) (h9 ▸ hk)
        have e29 : a'.tmps.getD 29 undef = .string s := hdep 0 _ 29 (by kernel_rfl) rfl rfl
        have e30 : a'.tmps.getD 30 undef = .int .i64 i := hdep 1 _ 30 (by kernel_rfl) rfl rfl
        have q1 : i ≤ ss := by omega
        go_simp
        exact ⟨_, rfl, gr_refl _ _, ⟨_, rfl, by simp only [ByteArray.size_extract]; omega⟩, hJ⟩
      · intro a' w' k hdf hgr hfar hdep hJ hk
        have hkk : k ≤ 2 := by have h9 : spentAll cost7 15 = 2 := rfl; exact Nat.le_trans (Nat.le_add_right _ _) (h9 ▸ hk)
        have e0 : a'.tmps.getD 0 undef = .pointer (some ⟨g, 0, none⟩) := hfar 0 (by kernel_rfl)
        go_simp
        exact ⟨_, rfl, gr_refl _ _, rfl, hJ⟩
      · intro a' w' k hdf hgr hfar hdep hJ hk
        have hkk : k ≤ 2 := by have h9 : spentAll cost7 15 = 2 := rfl; exact Nat.le_trans (Nat.le_add_right _ _) (h9 ▸ hk)
        go_simp
        obtain ⟨p9, j1, j2, j3⟩ := hJ
        exact ⟨_, rfl, gr_someG (World.grownBy_alloc _ _ none), ⟨w'.heap.size, rfl, strs_new w' s7L _, by have := j3.lt; omega⟩, ⟨p9, j1, j2, j3.grown (World.grownBy_alloc _ _ none) (by simp) (by simp)⟩⟩
      · intro a' w' k hdf hgr hfar hdep hJ hk
        have hkk : k ≤ 2 := by have h9 : spentAll cost7 15 = 2 := rfl; exact Nat.le_trans (Nat.le_add_right _ _) (h9 ▸ hk)
        have e32 : a'.tmps.getD 32 undef = .pointer (some ⟨g, 0, none⟩) := hdep 3 _ 32 (by kernel_rfl) rfl rfl
        obtain ⟨B, e33, hB, hBg⟩ : ∃ B, a'.tmps.getD 33 undef = .slice (some ⟨B, 0, none⟩) 7 7 ∧ Strs w' (some ⟨B, 0, none⟩) s7L ∧ B ≠ g := hdep 4 _ 33 (by kernel_rfl) rfl rfl
        obtain ⟨p9, j1, j2, j3⟩ := hJ
        go_simp
        refine (oftxt_any g n c p9 A _ 7 s7L w' j3 hB (fun b off e => by cases e; exact hBg) (by omega) hn2 (by decide) (by decide)).mono ?_
        rintro e w2 ⟨x, rfl, hx, hr, hg⟩
        exact ⟨_, rfl, hg, ⟨x, rfl, s7_size x hx⟩, ⟨p9 + 1, by omega, by simp only [cost7]; omega, hr⟩⟩
      · intro a' w' k hdf hgr hfar hdep hJ hk
        have hkk : k ≤ 2 := by have h9 : spentAll cost7 15 = 2 := rfl; exact Nat.le_trans (Nat.le_add_right _ _) (h9 ▸ hk)
        obtain ⟨x, e31, hx⟩ : ∃ x, a'.tmps.getD 31 undef = .string x ∧ x.size ≤ 80 := hdep 2 _ 31 (by kernel_rfl) rfl rfl
        obtain ⟨y, e34, hy⟩ : ∃ x, a'.tmps.getD 34 undef = .string x ∧ x.size ≤ 1 := hdep 5 _ 34 (by kernel_rfl) rfl rfl
        have q1 : ¬ 9223372036854775807 < x.size + y.size := by omega
        go_simp
        exact ⟨_, rfl, gr_refl _ _, ⟨_, rfl, by simp only [ByteArray.size_append]; omega⟩, hJ⟩
      · intro a' w' k hdf hgr hfar hdep hJ hk
        have hkk : k ≤ 2 := by have h9 : spentAll cost7 15 = 2 := rfl; exact Nat.le_trans (Nat.le_add_right _ _) (h9 ▸ hk)
        have e3 : a'.tmps.getD 3 undef = .string s := hfar 3 (by kernel_rfl)
        go_simp
        exact ⟨_, rfl, gr_refl _ _, rfl, hJ⟩
      · intro a' w' k hdf hgr hfar hdep hJ hk
        have hkk : k ≤ 2 := by have h9 : spentAll cost7 15 = 2 := rfl; exact Nat.le_trans (Nat.le_add_right _ _) (h9 ▸ hk)
        have e4 : a'.tmps.getD 4 undef = .int .i64 i := hfar 4 (by kernel_rfl)
        go_simp
        exact ⟨_, rfl, gr_refl _ _, rfl, hJ⟩
      · intro a' w' k hdf hgr hfar hdep hJ hk
        have hkk : k ≤ 2 := by have h9 : spentAll cost7 15 = 2 := rfl; exact Nat.le_trans (Nat.le_add_right _ _) (h9 ▸ hk)
        have e0 : a'.tmps.getD 0 undef = .pointer (some ⟨g, 0, none⟩) := hfar 0 (by kernel_rfl)
        go_simp
        exact ⟨_, rfl, gr_refl _ _, rfl, hJ⟩
      · intro a' w' k hdf hgr hfar hdep hJ hk
        have hkk : k ≤ 2 := by have h9 : spentAll cost7 15 = 2 := rfl; exact Nat.le_trans (Nat.le_add_right _ _) (h9 ▸ hk)
        have e38 : a'.tmps.getD 38 undef = .pointer (some ⟨g, 0, none⟩) := hdep 9 _ 38 (by kernel_rfl) rfl rfl
        obtain ⟨p9, j1, j2, j3⟩ := hJ
        go_simp
        refine (pick_any g n c p9 A 2 w' j3 (by omega) hn2 (by omega) (by omega)).mono ?_
        rintro e w2 ⟨x, rfl, hx0, hx1, hr, hg⟩
        exact ⟨_, rfl, hg, ⟨x, rfl, hx0, hx1⟩, ⟨p9 + 1, by omega, by simp only [cost7]; omega, hr⟩⟩
      · intro a' w' k hdf hgr hfar hdep hJ hk
        have hkk : k ≤ 2 := by have h9 : spentAll cost7 15 = 2 := rfl; exact Nat.le_trans (Nat.le_add_right _ _) (h9 ▸ hk)
        have e37 : a'.tmps.getD 37 undef = .int .i64 i := hdep 8 _ 37 (by kernel_rfl) rfl rfl
        obtain ⟨x, e39, hx0, hx1⟩ : ∃ x, a'.tmps.getD 39 undef = .int .i64 x ∧ 0 ≤ x ∧ x < 2 := hdep 10 _ 39 (by kernel_rfl) rfl rfl
        have q1 : IntKind.i64.wrap ((i : Int) + x) = (i : Int) + x := IntWalk.i64_in _ (by omega)
        go_simp
        exact ⟨_, rfl, gr_refl _ _, ⟨x, rfl, hx0, hx1⟩, hJ⟩
      · intro a' w' k hdf hgr hfar hdep hJ hk
        have hkk : k ≤ 2 := by have h9 : spentAll cost7 15 = 2 := rfl; exact Nat.le_trans (Nat.le_add_right _ _) (h9 ▸ hk)
        have e36 : a'.tmps.getD 36 undef = .string s := hdep 7 _ 36 (by kernel_rfl) rfl rfl
        obtain ⟨x, e40, hx0, hx1⟩ : ∃ x, a'.tmps.getD 40 undef = .int .i64 ((i : Int) + x) ∧ 0 ≤ x ∧ x < 2 := hdep 11 _ 40 (by kernel_rfl) rfl rfl
        obtain ⟨j, rfl⟩ : ∃ j : Nat, x = (j : Int) := ⟨x.toNat, by omega⟩
        have q1 : 0 ≤ (i : Int) + (j : Int) ∧ (i : Int) + (j : Int) ≤ (ss : Int) := by omega
        go_simp
        exact ⟨_, rfl, gr_refl _ _, ⟨_, rfl, by simp only [ByteArray.size_extract]; omega⟩, hJ⟩
      · intro a' w' k hdf hgr hfar hdep hJ hk
        have hkk : k ≤ 2 := by have h9 : spentAll cost7 15 = 2 := rfl; exact Nat.le_trans (Nat.le_add_right _ _) (h9 ▸ hk)
        obtain ⟨x, e35, hx⟩ : ∃ x, a'.tmps.getD 35 undef = .string x ∧ x.size ≤ 81 := hdep 6 _ 35 (by kernel_rfl) rfl rfl
        obtain ⟨y, e41, hy⟩ : ∃ x, a'.tmps.getD 41 undef = .string x ∧ x.size ≤ 80 := hdep 12 _ 41 (by kernel_rfl) rfl rfl
        have q1 : ¬ 9223372036854775807 < x.size + y.size := by omega
        go_simp
        exact ⟨_, rfl, gr_refl _ _, ⟨_, rfl, by simp only [ByteArray.size_append]; omega⟩, hJ⟩
      · intro a' w' k hdf hgr hfar hdep hJ hk
        have hkk : k ≤ 2 := by have h9 : spentAll cost7 15 = 2 := rfl; exact Nat.le_trans (Nat.le_add_right _ _) (h9 ▸ hk)
        obtain ⟨x, e42, hx⟩ : ∃ x, a'.tmps.getD 42 undef = .string x ∧ x.size ≤ 161 := hdep 13 _ 42 (by kernel_rfl) rfl rfl
        go_simp
        exact ⟨_, rfl, gr_refl _ _, ⟨x, rfl, hx⟩, hJ⟩
end

section
open Go.ChangeShapes Go.WideShapes Go.ChangeAt Go.RowKit Go.Joins Go.Deep

theorem laid_out_p : laidOutB Tryz.prog = true := by kernel_rfl
set_option maxHeartbeats 1000000 in
theorem open_anyT (A : Option Addr) (n c : Nat) (w : World) (h : Byts w A n) (hc : n ≤ c) (hn : n ≤ 9223372036854775807) :
    Calls Tryz.prog 30 #[.slice A n c] w fun e w' => e = .returned (.pointer (some ⟨w.heap.size, 0, none⟩)) ∧ (∃ n' c', n' ≤ 2000 ∧ Rd13 w' w.heap.size A n' c' 0 ∧ (0 < n' → ∀ b off, A = some ⟨b, off, none⟩ → b < w.heap.size)) ∧ w.grownBy w' none := by
  have key : ∀ n', n' ≤ n → Rd13 (w.alloc (.cells #[.slice A n' c, .int .i64 0] 79)) w.heap.size A n' c 0 ∧ (0 < n' → ∀ b off, A = some ⟨b, off, none⟩ → b < w.heap.size) := fun n' hn' => by
    have hlt : 0 < n' → ∀ b off, A = some ⟨b, off, none⟩ → b < w.heap.size := fun hp b off e => by
      obtain ⟨b2, off2, e2, hb, _⟩ := h (by omega)
      rw [e] at e2
      cases e2
      exact hb
    refine ⟨⟨Pr.new w _ _ _, ?_, fun hp b off e => Nat.ne_of_lt (hlt hp b off e)⟩, hlt⟩
    intro hp
    obtain ⟨b, off, e, hb, hcc⟩ := h (by omega)
    refine ⟨b, off, e, by simp; omega, fun k hk => ?_⟩
    obtain ⟨x, h1, h2⟩ := hcc k (by omega)
    exact ⟨x, (World.grownBy_alloc w _ none).cell h1 (by simp), h2⟩
  have KEY := Lib.hid key
  clear key
  by_cases hb : 2000 < n
  · have hA : ∃ a, A = some a := by obtain ⟨b, off, e, _⟩ := h (by omega); exact ⟨_, e⟩
    obtain ⟨a, rfl⟩ := hA
    have hc0 : ¬ c = 0 := by omega
    clear h
    go_enter Tryz.func30, Tryz.ntmps30
    go_wp2_with fail
    go_ret
    exact ⟨rfl, ⟨2000, c, Nat.le_refl _, KEY.out 2000 (by omega)⟩, World.grownBy_alloc _ _ _⟩
  · clear h
    go_enter Tryz.func30, Tryz.ntmps30
    go_wp2_with fail
    go_ret
    exact ⟨rfl, ⟨n, c, by omega, KEY.out n (Nat.le_refl _)⟩, World.grownBy_alloc _ _ _⟩


set_option maxRecDepth 100000 in
/-- Bytes that came in as an argument. -/
theorem open_bytsT {H : Type} {enc : TypeId × Value → H} {W : World} {base : Nat} {v : Value} {d : DataW H} {p : List MemPlace} (hval : Value.okWide Tryz.prog W .any base 22 v) (h : DataW.Trod enc Tryz.prog W 0 (fun _ => true) true 22 v d p) :
    ∃ A n c, v = .slice A n c ∧ n ≤ c ∧ n ≤ 9223372036854775807 ∧ Byts W A n := by
  obtain ⟨E0, len, cap, rfl⟩ := okWide_slice Tryz.underlying22 hval
  have h1' := h
  obtain ⟨fuel, h1'⟩ := h1'
  simp only [Value.cells] at h1'
  have hmx : maxLen ≤ 9223372036854775807 := by simp [maxLen]
  rcases open_ints Tryz.underlying22 Tryz.underlying5 (by kernel_rfl) h1' with ⟨hcs, _⟩ | ⟨a, len', cap', zs, hcs, _, hl, hm, hz, _, hcell, hwz⟩
  · simp only [List.cons.injEq, and_true] at hcs
    cases hcs
    exact ⟨none, 0, 0, rfl, Nat.le_refl _, by omega, fun h => by omega⟩
  · simp only [List.cons.injEq, and_true] at hcs
    cases hcs
    simp only [if_true] at hz
    refine ⟨some a, _, _, rfl, hl, by omega, fun hpos => ?_⟩
    obtain ⟨b, off, spot⟩ := a
    have hspot : spot = none := by simpa [Addr.add] using World.cell?_spot (hcell 0 (by omega))
    subst hspot
    have hc0 := hcell 0 (by omega)
    rw [addr_flat] at hc0
    refine ⟨b, off, rfl, World.block_lt_of_cell? W _ hc0, fun k hk => ?_⟩
    have hck := hcell k (by omega)
    rw [addr_flat] at hck
    refine ⟨_, hck, ?_⟩
    have hmem : zs.getD k 0 ∈ zs := by
      rw [List.getD_eq_getElem?_getD, List.getElem?_eq_getElem (by omega)]
      exact List.getElem_mem _
    exact bounds_u8 (hwz _ hmem)


theorem gr_row5 {w w1 w2 : World} {row : Option Nat} (h : w.grownBy w1 none) (h2 : w1.grownBy w2 row) (hr : ∀ k, row = some k → w.heap.size ≤ k) : w.grownBy w2 none :=
  ⟨h2.os.trans h.os, h2.tape.trans h.tape, h2.output.trans h.output, Nat.le_trans h.size h2.size, fun k hk hn => (h2.block k (Nat.lt_of_lt_of_le hk h.size) (fun e => by have := hr k e.symm; omega)).trans (h.block k hk hn)⟩

/-- How a drawn text comes. -/
def TxtP (w : World) (e : Ending) (w' : World) : Prop := ∃ s, e = .returned (.string s) ∧ s.size ≤ 161 ∧ w.grownBy w' none

theorem Strs.at_ {w : World} {A : Option Addr} {ss : List ByteArray} {j : Nat} {s : ByteArray} (h : Strs w A ss) (hj : ss[j]? = some s) : ∃ b off, A = some ⟨b, off, none⟩ ∧ w.cell? ⟨b, off + j, none⟩ = some (.string s) := by
  obtain ⟨b, off, e, _, hc⟩ := h (by have := (List.getElem?_eq_some_iff.1 hj).1; omega)
  exact ⟨b, off, e, hc j s hj⟩

set_option maxHeartbeats 1000000 in
theorem fatexts_any (A B : Option Addr) (c d : Nat) (ss : List ByteArray) (w : World) (h : Strs w A ss) (h2 : Strs w B ss) (hn : ss.length ≤ 1048576) :
    Calls Tryz.prog 20 #[.slice A ss.length c, .slice B ss.length d] w fun e w' => e = .returned (.bool true) ∧ ∃ m, w' = w.drewN m := by
  have HS := Lib.hid h
  have HS2 := Lib.hid h2
  obtain ⟨n, hnn⟩ : ∃ n, ss.length = n := ⟨_, rfl⟩
  have HN := Lib.hid hnn
  rw [hnn] at hn ⊢
  clear h h2 hnn
  have hnn : ((n : Int) == (n : Int)) = true := by simp
  go_enter Tryz.func20, Tryz.ntmps20
  go_wp2_with fail
  go_loopw [11] (fun i wr => ∃ j : Nat, j ≤ n ∧ i = .int .i64 j ∧ Hid (∃ m, wr = w.drewN m)) (fun i _ => n - (intOf i).toNat)
  case atStart => exact ⟨0, Nat.zero_le _, rfl, Lib.hid ⟨0, rfl⟩⟩
  case round =>
    obtain ⟨j, hj, rfl, hgr⟩ := hrel
    have hgr2 : w.grownBy wr none := by obtain ⟨m, rfl⟩ := hgr.out; exact gr_drewN _ _ _
    have HGR := Lib.hid hgr2
    clear hgr2
    by_cases hlt : j < n
    · obtain ⟨z, hz⟩ : ∃ z, ss[j]? = some z := ⟨_, List.getElem?_eq_getElem (by have := HN.out; omega)⟩
      obtain ⟨b, off, rfl, hcell⟩ := (HS.out.grown HGR.out).at_ hz
      obtain ⟨b2, off2, rfl, hcell2⟩ := (HS2.out.grown HGR.out).at_ hz
      have hj0 : (0 : Int) ≤ (j : Int) := by omega
      have hj1 : (j : Int) < (n : Int) := by omega
      clear hz
      go_wp2_with fail
      go_quiet (fail)
      go_wp2_with fail
      go_roundw
      case rel => exact ⟨j + 1, by omega, by go_num, Lib.hid (by obtain ⟨m, rfl⟩ := hgr.out; exact ⟨m + _, World.drewN_drewN _ _ _⟩)⟩
      case measure => simp [intOf]; omega
    · go_wp2_with fail
      go_ret
      exact ⟨rfl, hgr.out⟩
end
end

/-! TakeC -/
section
section
open Go.RowKit

/-- How a step of the reader ends. -/
def TakeP (n0 b : Nat) (r : Option MS) (w : World) (e : Ending) (w' : World) : Prop := Chg (WX n0 w) w w' ∧ match r with
  | some m' => e = .returned (.bool true) ∧ ∃ v0 v1 vs ps, RS w' n0 b m' v0 v1 vs ps
  | none => e = .returned (.bool false)
theorem takeP_no {n0 b : Nat} {r : Option MS} {w w' : World} {e : Ending} (hr : r = none) (he : e = .returned (.bool false)) (hc : Chg (WX n0 w) w w') : TakeP n0 b r w e w' := by
  subst hr; exact ⟨hc, he⟩
theorem takeP_yes {n0 b : Nat} {r : Option MS} {m' : MS} {w w' : World} {e : Ending} {v0 v1 : Value} {vs : List Value} {ps : List Pnd} (hr : r = some m') (he : e = .returned (.bool true)) (hc : Chg (WX n0 w) w w') (h : RS w' n0 b m' v0 v1 vs ps) : TakeP n0 b r w e w' := by
  subst hr; exact ⟨hc, he, v0, v1, vs, ps, h⟩

theorem rs_wx {w : World} {n0 b : Nat} {m : MS} {v0 v1 : Value} {vs : List Value} {ps : List Pnd} (h : RS w n0 b m v0 v1 vs ps) : ∀ k, (k = b ∨ v0.ownBlock = some k) → WX n0 w k := by
  rintro k (rfl | e)
  · exact ⟨h.base, _, _, _, h.box, .inr (.inr (.inl rfl))⟩
  · obtain ⟨cs, hcs⟩ := own_heap h.cur.1 e
    exact ⟨(h.cur.1.lt k e).1, _, _, _, hcs, .inl rfl⟩
theorem rs_set {w : World} {n0 b : Nat} {m : MS} {v0 v1 : Value} {vs : List Value} {ps : List Pnd} (h : RS w n0 b m v0 v1 vs ps) (i : Nat) (u : Value) : Chg (WX n0 w) w (w.setCell ⟨b, i, none⟩ u) :=
  Chg.row (gr_set w b i u) (fun k hk => by cases hk; exact rs_wx h _ (.inl rfl))
theorem pnd_lt {w : World} {n0 b : Nat} {m : MS} {v0 v1 : Value} {vs : List Value} {ps : List Pnd} (h : RS w n0 b m v0 v1 vs ps) : ∀ k, w.heap.size ≤ k → k ∉ ps.map Pnd.blk := by
  intro k hk hm
  obtain ⟨p, hp, rfl⟩ := List.mem_map.1 hm
  obtain ⟨o, ho⟩ := h.outs.mem p hp
  have := blk_lt ho.heap
  omega
/-- The reader without terms in the innermost loop. -/
theorem rs_none {w : World} {n0 b : Nat} {os : List Out} {v0 v1 : Value} {vs : List Value} {ps : List Pnd} (h : RS w n0 b ([], os) v0 v1 vs ps) : ∃ A c, v0 = .slice A 0 c := by
  obtain ⟨A, k, c, rfl⟩ := own_form h.cur.1
  have h1 := own_len h.cur.1
  have h2 := All2.length _ _ h.cur.2
  simp at h2
  exact ⟨A, c, by rw [h1, ← h2]⟩
/-- .. with a term at least. -/
theorem rs_some {w : World} {n0 b : Nat} {x : Tm} {ts : List Tm} {os : List Out} {v0 v1 : Value} {vs : List Value} {ps : List Pnd} (h : RS w n0 b (x :: ts, os) v0 v1 vs ps) : ∃ A n c, v0 = .slice A (n + 1) c ∧ n = ts.length := by
  obtain ⟨A, k, c, rfl⟩ := own_form h.cur.1
  have h1 := own_len h.cur.1
  have h2 := All2.length _ _ h.cur.2
  simp at h2
  exact ⟨A, ts.length, c, by rw [h1, ← h2], rfl⟩

set_option maxRecDepth 100000 in
set_option maxHeartbeats 1000000 in
theorem change_none (n0 b : Nat) (c : Int) (os : List Out) (v0 v1 : Value) (vs : List Value) (ps : List Pnd) (w : World) (h : RS w n0 b ([], os) v0 v1 vs ps) :
    Calls Tryz.prog 94 #[.pointer (some ⟨b, 0, none⟩), .int .u8 c] w (TakeP n0 b none w) := by
  obtain ⟨A, cp, rfl⟩ := rs_none h
  have HP := Lib.hid (pop_t_none b A cp v1 w h.box)
  clear h
  go_enter Tryz.func94, Tryz.ntmps94
  go_wp2_with fail
  refine HP.out.mono ?_
  rintro e w' ⟨rfl, rfl⟩
  go_wp2_with fail
  go_ret
  exact takeP_no rfl rfl (Chg.refl _ _)

set_option maxRecDepth 100000 in
set_option maxHeartbeats 1000000 in
theorem change_some (n0 b : Nat) (c : Int) (x : Tm) (ts : List Tm) (os : List Out) (v0 v1 : Value) (vs : List Value) (ps : List Pnd) (w : World) (h : RS w n0 b (x :: ts, os) v0 v1 vs ps) (hl : ts.length ≤ 1000) (hn : n0 ≤ w.heap.size) :
    Calls Tryz.prog 94 #[.pointer (some ⟨b, 0, none⟩), .int .u8 c] w (TakeP n0 b (some (.pre c x :: ts, os)) w) := by
  obtain ⟨A, n, cp, rfl, hnt⟩ := rs_some h
  rw [← hnt] at hl
  obtain ⟨vs', xv, rfl, hvl, hx, h1⟩ := rs_pop h
  obtain ⟨ty, pv, rfl⟩ := hx.iface
  have ho := h.cur.1
  rw [List.length_append, hvl] at ho
  have HP := Lib.hid (pop_t_some n0 b A n cp v1 ty pv vs' w h.box ho (by omega))
  have HC1 := Lib.hid (rs_set h 0 (.slice A n cp))
  have hx1 : PT (w.setCell ⟨b, 0, none⟩ (.slice A n cp)) (fun k => k ∉ ps.map Pnd.blk) x (.iface ty pv) :=
    PT.keepT (fun b' xs T fr hb hT hh => ((Chg.row (wr := fun k => k = b) (gr_set w b 0 (.slice A n cp)) (fun k hk => by cases hk; rfl)).same b' (blk_lt hh) (rs_not (v0 := .slice A (n + 1) cp) (v1 := v1) h.box b' xs T fr hb hT hh)).trans hh) (fun _ hb _ => hb) x _ hx
  obtain ⟨w1, hw1⟩ : ∃ z, w.setCell ⟨b, 0, none⟩ (.slice A n cp) = z := ⟨_, rfl⟩
  rw [hw1] at h1 HP HC1 hx1
  obtain ⟨w2, hw2⟩ : ∃ z, w1.alloc (.cells #[.int .u8 c, .iface ty pv] 119) = z := ⟨_, rfl⟩
  have g2 : w1.grownBy w2 none := by rw [← hw2]; exact World.grownBy_alloc _ _ _
  have h2 := h1.grown g2
  have hx2 : PT w2 (fun k => k ∉ ps.map Pnd.blk) (.pre c x) (.iface 116 (.pointer (some ⟨w1.heap.size, 0, none⟩))) :=
    ⟨w1.heap.size, _, rfl, pnd_lt h1 _ (Nat.le_refl _), by rw [← hw2]; exact heap_alloc_new _ _, hx1.grown g2⟩
  have hsz : w.heap.size = w1.heap.size := by rw [← hw1]; simp
  have HQ := Lib.hid (push_t n0 b (.slice A n cp) v1 116 (.pointer (some ⟨w1.heap.size, 0, none⟩)) vs' w2 h2.box h2.cur.1 (by omega) (by have := g2.size; omega))
  have H2 := Lib.hid h2
  have HX := Lib.hid hx2
  have HC2 := Lib.hid (chgX_trans HC1.out (chgX_grown g2))
  clear h h1 h2 hx hx1 hx2 ho g2 hw1 hnt
  go_enter Tryz.func94, Tryz.ntmps94
  go_wp2_with fail
  refine HP.out.mono ?_
  rintro e w' ⟨rfl, rfl⟩
  go_wp2_with fail
  refine HQ.out.mono ?_
  rintro e w3 ⟨rfl, u, hc3, ho3, hch3, hu3⟩
  have HR := Lib.hid (rs_push H2.out HX.out hc3 ho3 hch3 hu3)
  have HC3 := Lib.hid (chgX_trans HC2.out (chgX_of hch3 (fun k _ hk => rs_wx H2.out k hk)))
  clear hc3 ho3 hch3 hu3
  go_wp2_with fail
  go_ret
  exact takeP_yes rfl rfl HC3.out HR.out
end

section
open Go.RowKit

/-- What is taken from the reader, as a call. -/
theorem rs_popC {w : World} {n0 b : Nat} {x : Tm} {ts : List Tm} {os : List Out} {v0 v1 : Value} {vs : List Value} {ps : List Pnd} (h : RS w n0 b (x :: ts, os) v0 v1 vs ps) (hl : ts.length ≤ 1000) :
    ∃ w1 ty pv u vs', w1.heap.size = w.heap.size ∧ RS w1 n0 b (ts, os) u v1 vs' ps ∧ PT w1 (fun k => k ∉ ps.map Pnd.blk) x (.iface ty pv) ∧ Chg (WX n0 w) w w1 ∧ (∀ S t v, PT w S t v → PT w1 S t v) ∧
      Calls Tryz.prog 114 #[.pointer (some ⟨b, 0, none⟩)] w fun e w' => e = .returned (.tuple #[.iface ty pv, .bool true]) ∧ w' = w1 := by
  obtain ⟨A, n, cp, rfl, hnt⟩ := rs_some h
  rw [← hnt] at hl
  obtain ⟨vs', xv, rfl, hvl, hx, h1⟩ := rs_pop h
  obtain ⟨ty, pv, rfl⟩ := hx.iface
  have ho := h.cur.1
  rw [List.length_append, hvl] at ho
  have hk : ∀ (S : Nat → Prop) t v, PT w S t v → PT (w.setCell ⟨b, 0, none⟩ (.slice A n cp)) S t v := fun S t v ht =>
    PT.keepT (fun b' xs T fr _ hT hh => ((Chg.row (wr := fun k => k = b) (gr_set w b 0 (.slice A n cp)) (fun k hk => by cases hk; rfl)).same b' (blk_lt hh) (rs_not (v0 := .slice A (n + 1) cp) (v1 := v1) (L := []) h.box b' xs T fr (by simp) hT hh)).trans hh) (fun _ hb _ => hb) t v ht
  exact ⟨w.setCell ⟨b, 0, none⟩ (.slice A n cp), ty, pv, _, vs', by simp, h1, hk _ _ _ hx, rs_set h 0 _, hk, pop_t_some n0 b A n cp v1 ty pv vs' w h.box ho (by omega)⟩
/-- .. with no term there. -/
theorem rs_popN {w : World} {n0 b : Nat} {os : List Out} {v0 v1 : Value} {vs : List Value} {ps : List Pnd} (h : RS w n0 b ([], os) v0 v1 vs ps) :
    Calls Tryz.prog 114 #[.pointer (some ⟨b, 0, none⟩)] w fun e w' => e = .returned (.tuple #[.nilIface, .bool false]) ∧ w' = w := by
  obtain ⟨A, cp, rfl⟩ := rs_none h
  exact pop_t_none b A cp v1 w h.box
/-- A term that is put, as a call. -/
theorem rs_pushC {w : World} {n0 b : Nat} {t : Tm} {ts : List Tm} {os : List Out} {v0 v1 : Value} {vs : List Value} {ps : List Pnd} {ty : TypeId} {pv : Value} (h : RS w n0 b (ts, os) v0 v1 vs ps) (hx : PT w (fun k => k ∉ ps.map Pnd.blk) t (.iface ty pv)) (hl : ts.length ≤ 1000) (hn : n0 ≤ w.heap.size) :
    Calls Tryz.prog 93 #[.pointer (some ⟨b, 0, none⟩), .iface ty pv] w fun e w' => e = .returned (.tuple #[]) ∧ Chg (WX n0 w) w w' ∧ ∃ u vs', RS w' n0 b (t :: ts, os) u v1 vs' ps := by
  have hvl := All2.length _ _ h.cur.2
  simp at hvl
  refine (push_t n0 b v0 v1 ty pv vs w h.box h.cur.1 (by omega) hn).mono ?_
  rintro e w3 ⟨rfl, u, hc3, ho3, hch3, hu3⟩
  exact ⟨rfl, chgX_of hch3 (fun k _ hk => rs_wx h k hk), u, _, rs_push h hx hc3 ho3 hch3 hu3⟩

set_option maxRecDepth 100000 in
set_option maxHeartbeats 1000000 in
theorem join_none (n0 b : Nat) (c : Int) (os : List Out) (v0 v1 : Value) (vs : List Value) (ps : List Pnd) (w : World) (h : RS w n0 b ([], os) v0 v1 vs ps) :
    Calls Tryz.prog 95 #[.pointer (some ⟨b, 0, none⟩), .int .u8 c] w (TakeP n0 b none w) := by
  have HP := Lib.hid (rs_popN h)
  clear h
  go_enter Tryz.func95, Tryz.ntmps95
  go_wp2_with fail
  refine HP.out.mono ?_
  rintro e w' ⟨rfl, rfl⟩
  go_wp2_with fail
  refine HP.out.mono ?_
  rintro e w ⟨rfl, rfl⟩
  go_wp2_with fail
  go_ret
  exact takeP_no rfl rfl (Chg.refl _ _)

set_option maxRecDepth 100000 in
set_option maxHeartbeats 1000000 in
theorem join_one (n0 b : Nat) (c : Int) (y : Tm) (os : List Out) (v0 v1 : Value) (vs : List Value) (ps : List Pnd) (w : World) (h : RS w n0 b ([y], os) v0 v1 vs ps) :
    Calls Tryz.prog 95 #[.pointer (some ⟨b, 0, none⟩), .int .u8 c] w (TakeP n0 b none w) := by
  obtain ⟨w1, ty, pv, u, vs', -, h1, -, hc1, -, hcall⟩ := rs_popC h (by simp)
  have HP := Lib.hid hcall
  have HQ := Lib.hid (rs_popN h1)
  have HC := Lib.hid hc1
  clear h h1 hc1 hcall
  go_enter Tryz.func95, Tryz.ntmps95
  go_wp2_with fail
  refine HP.out.mono ?_
  rintro e w' ⟨rfl, rfl⟩
  go_wp2_with fail
  refine HQ.out.mono ?_
  rintro e w2 ⟨rfl, rfl⟩
  go_wp2_with fail
  go_ret
  exact takeP_no rfl rfl HC.out

set_option maxRecDepth 100000 in
set_option maxHeartbeats 1000000 in
theorem join_some (n0 b : Nat) (c : Int) (y x : Tm) (ts : List Tm) (os : List Out) (v0 v1 : Value) (vs : List Value) (ps : List Pnd) (w : World) (h : RS w n0 b (y :: x :: ts, os) v0 v1 vs ps) (hl : ts.length ≤ 990) (hn : n0 ≤ w.heap.size) :
    Calls Tryz.prog 95 #[.pointer (some ⟨b, 0, none⟩), .int .u8 c] w (TakeP n0 b (some (.two c x y :: ts, os)) w) := by
  obtain ⟨w1, ty, pv, u, vs', hz1, h1, hy1, hc1, -, hcall⟩ := rs_popC h (by simp; omega)
  obtain ⟨w2, tx, px, u2, vs2, hz2, h2, hx2, hc2, hk2, hcall2⟩ := rs_popC h1 (by omega)
  have HP := Lib.hid hcall
  have HQ := Lib.hid hcall2
  obtain ⟨w3, hw3⟩ : ∃ z, w2.alloc (.cells #[.int .u8 c, .iface tx px, .iface ty pv] 123) = z := ⟨_, rfl⟩
  have g3 : w2.grownBy w3 none := by rw [← hw3]; exact World.grownBy_alloc _ _ _
  have h3 := h2.grown g3
  have hy2 : PT w2 (fun k => k ∉ ps.map Pnd.blk) y (.iface ty pv) := hk2 _ _ _ hy1
  have hx3 : PT w3 (fun k => k ∉ ps.map Pnd.blk) (.two c x y) (.iface 120 (.pointer (some ⟨w2.heap.size, 0, none⟩))) :=
    ⟨w2.heap.size, _, _, rfl, pnd_lt h2 _ (Nat.le_refl _), by rw [← hw3]; exact heap_alloc_new _ _, hx2.grown g3, hy2.grown g3⟩
  have HR := Lib.hid (rs_pushC h3 hx3 (by omega) (by have := g3.size; omega))
  have HC := Lib.hid (chgX_trans (chgX_trans hc1 hc2) (chgX_grown g3))
  clear h h1 h2 h3 hc1 hc2 hcall hcall2 g3 hy1 hy2 hx2 hx3 hk2 hz1 hz2
  go_enter Tryz.func95, Tryz.ntmps95
  go_wp2_with fail
  refine HP.out.mono ?_
  rintro e w' ⟨rfl, rfl⟩
  go_wp2_with fail
  refine HQ.out.mono ?_
  rintro e w' ⟨rfl, rfl⟩
  go_wp2_with fail
  refine HR.out.mono ?_
  rintro e w4 ⟨rfl, hc4, u4, vs4, hr4⟩
  have HC4 := Lib.hid (chgX_trans HC.out hc4)
  have HR4 := Lib.hid hr4
  clear hc4 hr4
  go_wp2_with fail
  go_ret
  exact takeP_yes rfl rfl HC4.out HR4.out
end

section
open Go.RowKit

/-- Behind the beginning of a loop. -/
theorem rs_begin {w w2 w3 : World} {n0 b : Nat} {x : Tm} {ts : List Tm} {os : List Out} {u v1 u1 xv : Value} {vs : List Value} {ps : List Pnd} {c v : Int} (h : RS w n0 b (ts, os) u v1 vs ps) (hn : n0 ≤ w.heap.size) (hx : PT w (fun k => k ∉ ps.map Pnd.blk) x xv)
    (g2 : w.grownBy w2 none) (hq : w2.heap[w.heap.size]? = some (.cells #[.int .u8 c, .int .u8 v, xv, .nilIface] 125 (0, 0)))
    (hc : CR w3 b u u1) (ho : w3.ownsRow n0 154 2 u1 (ps.length + 1) (flatP ps ++ [.pointer (some ⟨w.heap.size, 0, none⟩), u])) (hch : Chg (fun k => k = b ∨ v1.ownBlock = some k) w2 w3) :
    RS (w3.setCell ⟨b, 0, none⟩ (.slice none 0 0)) n0 b ([], ⟨c, v, x, ts⟩ :: os) (.slice none 0 0) u1 [] (⟨w.heap.size, xv, u, vs⟩ :: ps) ∧ Chg (WX n0 w) w (w3.setCell ⟨b, 0, none⟩ (.slice none 0 0)) := by
  have hcr : CR w b u v1 := h.box
  have hlt := hcr.lt
  have hc4 : Chg (fun k => k = b ∨ v1.ownBlock = some k) w2 (w3.setCell ⟨b, 0, none⟩ (.slice none 0 0)) := hch.trans (Chg.row (gr_set w3 b 0 _) (wr := fun k => k = b ∨ v1.ownBlock = some k) (fun k hk => .inl (by simpa using hk.symm))) (fun _ _ e => e) (fun _ _ e => e)
  have hcw : Chg (fun k => k = b ∨ v1.ownBlock = some k) w (w3.setCell ⟨b, 0, none⟩ (.slice none 0 0)) := (Chg.grown g2).trans hc4 (fun _ _ e => e) (fun _ _ e => e)
  have hnt : ∀ k xs T fr, k ∉ ps.map Pnd.blk → NT T → w.heap[k]? = some (.cells xs T fr) → ¬ (k = b ∨ v1.ownBlock = some k) := fun k xs T fr hk hT hh e =>
    e.elim (rs_not hcr k xs T fr hk hT hh) (own_not h.row hh (by rcases hT with e | e | e <;> rw [e] <;> decide))
  have hL : ∀ k, k ∉ ps.map Pnd.blk → k < w.heap.size → k ∉ (w.heap.size :: ps.map Pnd.blk) := fun k hk hl hm => by
    rcases List.mem_cons.1 hm with e | e
    · omega
    · exact hk e
  have hun : ∀ g, u.ownBlock = some g → ¬ (g = b ∨ v1.ownBlock = some g) := fun g hg e => by
    rcases e with e | e
    · exact own_not h.cur.1 h.box (by decide) (e ▸ hg)
    · obtain ⟨cs, hcs⟩ := own_heap h.row e
      exact own_not h.cur.1 hcs (by decide) hg
  refine ⟨⟨h.base, hc.set0 _, ⟨⟨rfl, .inl ⟨rfl, rfl⟩⟩, trivial⟩, ?_, ⟨⟨hn, ?_, ?_, ?_⟩, ?_⟩, ?_, ?_⟩, hcw.mono (fun k _ e => ?_)⟩
  · show (w3.setCell ⟨b, 0, none⟩ (.slice none 0 0)).ownsRow n0 _ 2 u1 (ps.length + 1) (flatP ps ++ [.pointer (some ⟨w.heap.size, 0, none⟩), u])
    exact own_keep ho (fun g hg => Below.heap_setCell _ _ _ _ (fun e => own_not ho hc (by decide) (by rw [hg]; simpa using e)))
  · refine (hc4.same _ (blk_lt hq) ?_).trans hq
    rintro (e | e)
    · omega
    · have := (h.row.lt _ e).2; omega
  · exact PT.keepT (fun b' xs T fr hb hT hh => (hcw.same b' (blk_lt hh) (hnt b' xs T fr hb hT hh)).trans hh) hL _ _ hx
  · exact h.cur.chg hcw hun hnt hL
  · refine OS.chg hcw hnt hL h.outs (fun p hp => ?_)
    obtain ⟨o, hoo⟩ := h.outs.mem p hp
    refine ⟨?_, fun g hg => ?_⟩
    · rintro (e | e)
      · exact (outs_not h p hp).1 (.inl e)
      · exact own_not h.row hoo.heap (by decide) e
    · rintro (e | e)
      · exact (outs_not h p hp).2 g hg (.inl e)
      · obtain ⟨cs, hcs⟩ := own_heap h.row e
        exact own_not hoo.row.1 hcs (by decide) hg
  · exact List.nodup_cons.2 ⟨pnd_lt h _ (Nat.le_refl _), h.nodup⟩
  · refine List.pairwise_cons.2 ⟨fun v hv g hg => by simp [Value.ownBlock] at hg, h.apart⟩
  · rcases e with rfl | e
    · exact rs_wx h _ (.inl rfl)
    · obtain ⟨cs, hcs⟩ := own_heap h.row e
      exact ⟨(h.row.lt k e).1, _, _, _, hcs, .inr (.inl rfl)⟩

set_option maxRecDepth 100000 in
set_option maxHeartbeats 1000000 in
theorem begin_none (n0 b : Nat) (c v : Int) (os : List Out) (v0 v1 : Value) (vs : List Value) (ps : List Pnd) (w : World) (h : RS w n0 b ([], os) v0 v1 vs ps) :
    Calls Tryz.prog 96 #[.pointer (some ⟨b, 0, none⟩), .int .u8 c, .int .u8 v] w (TakeP n0 b none w) := by
  have HP := Lib.hid (rs_popN h)
  clear h
  go_enter Tryz.func96, Tryz.ntmps96
  go_wp2_with fail
  refine HP.out.mono ?_
  rintro e w' ⟨rfl, rfl⟩
  go_wp2_with fail
  go_ret
  exact takeP_no rfl rfl (Chg.refl _ _)

set_option maxRecDepth 100000 in
set_option maxHeartbeats 2000000 in
theorem begin_some (n0 b : Nat) (c v : Int) (x : Tm) (ts : List Tm) (os : List Out) (v0 v1 : Value) (vs : List Value) (ps : List Pnd) (w : World) (h : RS w n0 b (x :: ts, os) v0 v1 vs ps) (hl : ts.length ≤ 1000) (hl2 : os.length ≤ 1000) (hn : n0 ≤ w.heap.size) :
    Calls Tryz.prog 96 #[.pointer (some ⟨b, 0, none⟩), .int .u8 c, .int .u8 v] w (TakeP n0 b (some ([], ⟨c, v, x, ts⟩ :: os)) w) := by
  obtain ⟨w1, ty, pv, u, vs', hz1, h1, hx1, hc1, -, hcall⟩ := rs_popC h (by omega)
  have hn1 : n0 ≤ w1.heap.size := by omega
  have hpl := h.outs.len
  simp only at hpl
  obtain ⟨A, k, d, rfl⟩ := own_form h1.cur.1
  obtain ⟨A1, k1, d1, rfl⟩ := own_form h1.row
  obtain rfl := own_len h1.row
  obtain ⟨w2, hw2⟩ : ∃ z, w1.drew.alloc (.cells #[.int .u8 c, .int .u8 v, .iface ty pv, .nilIface] 125) = z := ⟨_, rfl⟩
  have g2 : w1.grownBy w2 none := by rw [← hw2]; exact (gr_drewN w1 1 none).trans (World.grownBy_alloc w1.drew _ none)
  have hq2 : w2.heap[w1.heap.size]? = some (.cells #[.int .u8 c, .int .u8 v, .iface ty pv, .nilIface] 125 (0, 0)) := by rw [← hw2]; exact heap_alloc_new w1.drew _
  have h2 := h1.grown g2
  have hb1 : CR w1 b (.slice A k d) (.slice A1 ps.length d1) := h1.box
  have hb2 : CR w2 b (.slice A k d) (.slice A1 ps.length d1) := h2.box
  have c0 := hb1.c0
  have d0 := hb2.c0
  have HP := Lib.hid hcall
  have HQ := Lib.hid (push_o n0 b _ _ ⟨w1.heap.size, 0, none⟩ A k d ps.length (flatP ps) w2 hb2 h2.row (by omega) (by have := g2.size; omega))
  have HB := Lib.hid (fun u1 w3 hc ho hch => rs_begin (v1 := (.slice A1 ps.length d1)) (u1 := u1) (w3 := w3) (c := c) (v := v) h1 hn1 hx1 g2 hq2 hc ho hch)
  have HC := Lib.hid hc1
  obtain ⟨np, hnp⟩ : ∃ n, ps.length = n := ⟨_, rfl⟩
  rw [hnp] at HQ HB
  clear h h1 h2 hc1 hcall g2 hx1 hq2 hb1 hb2 hz1 hn1 hpl hnp
  go_enter Tryz.func96, Tryz.ntmps96
  go_wp2_with fail
  refine HP.out.mono ?_
  rintro e w' ⟨rfl, rfl⟩
  go_wp2_with fail
  go_region_law (go_simp
                 go_at_call 115
                 refine HQ.out.mono ?_
                 rintro e w3 ⟨rfl, u1, hc3, ho3, hch3⟩
                 have HR := Lib.hid (HB.out u1 w3 hc3 ho3 hch3)
                 have e0 := hc3.c0
                 have f0 := hc3.f 0
                 clear hc3 ho3 hch3)
  all_goals
    go_wp2_with fail
    go_ret
    exact takeP_yes rfl rfl (chgX_trans HC.out HR.out.2) HR.out.1
end
end

/-! Whole -/
section
section
open Go.RowKit

def lastb (c : Int) : Int := if c = 91 then 93 else 125
theorem lastb_any (c : Int) (w : World) :
    Calls Tryz.prog 82 #[.int .u8 c] w fun e w' => e = .returned (.int .u8 (lastb c)) ∧ w' = w := by
  unfold lastb
  by_cases h : c = 91
  · rw [if_pos h]
    subst h
    go_enter Tryz.func82, Tryz.ntmps82
    go_wp2_with fail
    go_ret
    exact ⟨rfl, rfl⟩
  · rw [if_neg h]
    have hb : (c == 91) = false := by simpa using h
    go_enter Tryz.func82, Tryz.ntmps82
    go_wp2_with fail
    go_ret
    exact ⟨rfl, rfl⟩

/-- Taking a loop that has begun, where it does not matter what is left. -/
theorem rs_outN {w : World} {n0 b : Nat} {m : MS} {v0 v1 : Value} {vs : List Value} {ps : List Pnd} (h : RS w n0 b m v0 v1 vs ps) (hl : ps.length ≤ 1000) :
    ∃ p q r, Calls Tryz.prog 98 #[.pointer (some ⟨b, 1, none⟩)] w fun e w' => (∃ A k c, e = .returned (.tuple #[.agg #[.pointer p, .slice A k c], .bool r]) ∧ q = Value.slice A k c) ∧ Chg (WX n0 w) w w' ∧ (r = true ↔ ps ≠ []) := by
  obtain ⟨A, k, c, hv⟩ := own_form h.row
  have ho := h.row
  have hb : CR w b v0 v1 := h.box
  subst hv
  obtain rfl := own_len ho
  cases ps with
  | nil =>
    refine ⟨none, .slice none 0 0, false, (pop_o_none b A c v0 w hb).mono ?_⟩
    rintro e w' ⟨rfl, hg⟩
    exact ⟨⟨_, _, _, rfl, rfl⟩, Chg.grown hg, by simp⟩
  | cons p ps =>
    obtain ⟨o, hoo⟩ := h.outs.mem p (by simp)
    obtain ⟨A2, k2, c2, hlv⟩ := own_form hoo.row.1
    have ho2 : w.ownsRow n0 154 2 (.slice A (ps.length + 1) c) (ps.length + 1) (flatP ps ++ [.pointer (some ⟨p.blk, 0, none⟩), .slice A2 k2 c2]) := by rw [← hlv]; exact ho
    refine ⟨some ⟨p.blk, 0, none⟩, p.lv, true, (pop_o_some n0 b A ps.length c v0 ⟨p.blk, 0, none⟩ A2 k2 c2 (flatP ps) w hb ho2 (by simp at hl; omega)).mono ?_⟩
    rintro e w' ⟨rfl, hc, _⟩
    exact ⟨⟨_, _, _, rfl, hlv⟩, chgX_of hc (fun k _ e => rs_wx h k (.inl e)), by simp⟩

theorem rs_drew {w : World} {n0 b k : Nat} {m : MS} {v0 v1 : Value} {vs : List Value} {ps : List Pnd} (h : RS w n0 b m v0 v1 vs ps) : RS (w.drewN k) n0 b m v0 v1 vs ps := h.grown (gr_drewN w k none)

/-- popOnly of the reader's terms. -/
theorem rs_only {w : World} {n0 b : Nat} {m : MS} {v0 v1 : Value} {vs : List Value} {ps : List Pnd} (h : RS w n0 b m v0 v1 vs ps) (hl : m.1.length ≤ 1000) :
    ∃ x : Value, (x = .nilIface ∨ ∃ ty pv, x = .iface ty pv) ∧ Calls Tryz.prog 99 #[.pointer (some ⟨b, 0, none⟩)] w fun e w' =>
      e = .returned (.tuple #[x, .bool (decide (m.1.length = 1))]) ∧ Chg (WX n0 w) w w' ∧ ∃ u vs', RS w' n0 b (m.1.tail, m.2) u v1 vs' ps ∧ ∀ y, m.1 = [y] → PT w' (fun k => k ∉ ps.map Pnd.blk) y x := by
  obtain ⟨ts, os⟩ := m
  cases ts with
  | nil =>
    obtain ⟨A, cp, rfl⟩ := rs_none h
    refine ⟨.nilIface, .inl rfl, (only_t_none b A cp v1 w h.box).mono ?_⟩
    rintro e w' ⟨rfl, k, rfl⟩
    exact ⟨rfl, chgX_grown (gr_drewN w k none), _, _, rs_drew h, fun y hy => by simp at hy⟩
  | cons y ts =>
    obtain ⟨A, n, cp, rfl, hnt⟩ := rs_some h
    obtain ⟨vs', xv, rfl, hvl, hx, h1⟩ := rs_pop h
    obtain ⟨ty, pv, rfl⟩ := hx.iface
    have ho := h.cur.1
    rw [List.length_append, hvl] at ho
    simp only [List.length_cons] at hl
    refine ⟨.iface ty pv, .inr ⟨ty, pv, rfl⟩, (only_t_some n0 b A n cp v1 ty pv vs' _ rfl w h.box ho (by omega)).mono ?_⟩
    rintro e w' ⟨rfl, k, rfl⟩
    refine ⟨by simp [hnt], chgX_trans (rs_set h 0 _) (chgX_grown (gr_drewN _ k none)), _, _, rs_drew h1, fun z hz => ?_⟩
    cases hz
    have hz : PT (w.setCell ⟨b, 0, none⟩ (.slice A n cp)) (fun k => k ∉ ps.map Pnd.blk) y (.iface ty pv) := PT.keepT (fun b' xs T fr _ hT hh => ((Chg.row (wr := fun k => k = b) (gr_set w b 0 (.slice A n cp)) (fun k hk => by cases hk; rfl)).same b' (blk_lt hh) (rs_not (v0 := .slice A (n + 1) cp) (v1 := v1) (L := []) h.box b' xs T fr (by simp) hT hh)).trans hh) (fun _ hb _ => hb) _ _ hx
    exact hz.grown (gr_drewN _ k none)

set_option maxRecDepth 100000 in
set_option maxHeartbeats 1000000 in
/-- No loop ends where there is not one term, or no loop has begun. -/
theorem end_none (n0 b : Nat) (c : Int) (m : MS) (v0 v1 : Value) (vs : List Value) (ps : List Pnd) (w : World) (h : RS w n0 b m v0 v1 vs ps) (hl : m.1.length ≤ 1000) (hl2 : m.2.length ≤ 1000) (hm : m.1.length ≠ 1 ∨ m.2 = []) :
    Calls Tryz.prog 97 #[.pointer (some ⟨b, 0, none⟩), .int .u8 c] w (TakeP n0 b none w) := by
  obtain ⟨x, hx, hcall⟩ := rs_only h hl
  have HP := Lib.hid hcall
  have HE := Lib.hid (show ps.length = m.2.length from h.outs.len.symm)
  have HM := Lib.hid hm
  obtain ⟨r, hr⟩ : ∃ r, decide (m.1.length = 1) = r := ⟨_, rfl⟩
  rw [hr] at HP
  have HR := Lib.hid hr
  clear h hcall hm hr
  go_enter Tryz.func97, Tryz.ntmps97
  go_wp2_with fail
  refine HP.out.mono ?_
  rintro e w1 ⟨rfl, hc1, u, vs', h1, _⟩
  obtain ⟨p, q, r2, hcall2⟩ := rs_outN h1 (by have := HE.out; omega)
  have HQ := Lib.hid hcall2
  have HC1 := Lib.hid hc1
  clear h1 hcall2 hc1
  rcases hx with rfl | ⟨ty, pv, rfl⟩
  all_goals
    go_wp2_with fail
    refine HQ.out.mono ?_
    rintro e w2 ⟨⟨A, k, d, rfl, -⟩, hc2, hr2⟩
    have HC2 := Lib.hid (chgX_trans HC1.out hc2)
    have hp := Pr.new w2 154 (.pointer p) (.slice A k d)
    have hno : (!r || !r2) = true := by
      cases r with
      | false => rfl
      | true =>
        cases r2 with
        | false => rfl
        | true =>
          have e1 := of_decide_eq_true HR.out
          have e2 := hr2.1 rfl
          exfalso
          rcases HM.out with e | e
          · exact e e1
          · apply e2; apply List.length_eq_zero_iff.1; have := HE.out; rw [e] at this; simpa using this
    clear hc2 hr2 hp
    cases r
    · go_wp2_with fail
      go_ret
      exact takeP_no rfl rfl (chgX_trans HC2.out (chgX_grown (World.grownBy_alloc _ _ _)))
    · cases r2
      · go_wp2_with fail
        go_ret
        exact takeP_no rfl rfl (chgX_trans HC2.out (chgX_grown (World.grownBy_alloc _ _ _)))
      · cases hno
end

section
open Go.RowKit

/-- Behind the end of a loop, ahead of the push. -/
theorem rs_end {w w5 : World} {n0 b : Nat} {y : Tm} {o : Out} {os : List Out} {u v1 v2 x : Value} {vs : List Value} {p : Pnd} {ps : List Pnd} (h : RS w n0 b ([], o :: os) u v1 vs (p :: ps)) (hx : PT w (fun k => k ∉ (p :: ps).map Pnd.blk) y x)
    (hch : Chg (fun k => k = b ∨ k = p.blk) w w5) (hp5 : w5.heap[p.blk]? = some (.cells #[.int .u8 o.c, .int .u8 o.v, p.x, x] 125 (0, 0))) (hc : CR w5 b p.lv v2) (ho : w5.ownsRow n0 154 2 v2 ps.length (flatP ps)) :
    RS w5 n0 b (o.low, os) p.lv v2 p.us ps ∧ PT w5 (fun k => k ∉ ps.map Pnd.blk) (.loop o.c o.v o.over y) (.iface 87 (.pointer (some ⟨p.blk, 0, none⟩))) := by
  have hcr : CR w b u v1 := h.box
  obtain ⟨hoo, hos⟩ := h.outs
  have hnd := List.nodup_cons.1 h.nodup
  have hnt : ∀ k xs T fr, k ∉ (p :: ps).map Pnd.blk → NT T → w.heap[k]? = some (.cells xs T fr) → ¬ (k = b ∨ k = p.blk) := fun k xs T fr hk hT hh e =>
    e.elim (rs_not hcr k xs T fr hk hT hh) (fun e => hk (by simp [e]))
  have hL : ∀ k, k ∉ (p :: ps).map Pnd.blk → k < w.heap.size → k ∉ ps.map Pnd.blk := fun k hk _ hm => hk (by rw [List.map_cons]; exact List.mem_cons_of_mem _ hm)
  have hrow : ∀ {n : Nat} {v : Value} {xs : List Value}, w.ownsRow n0 40 1 v n xs → ∀ g, v.ownBlock = some g → ¬ (g = b ∨ g = p.blk) := fun hr g hg e => by
    rcases e with e | e
    · exact own_not hr h.box (by decide) (e ▸ hg)
    · exact own_not hr hoo.heap (by decide) (e ▸ hg)
  have hkp : ∀ t v, PT w (fun k => k ∉ (p :: ps).map Pnd.blk) t v → PT w5 (fun k => k ∉ ps.map Pnd.blk) t v := fun t v ht =>
    PT.keepT (fun b' xs T fr hb hT hh => (hch.same b' (blk_lt hh) (hnt b' xs T fr hb hT hh)).trans hh) hL t v ht
  refine ⟨⟨h.base, hc, hoo.row.chg hch (hrow hoo.row.1) hnt hL, ho, OS.chg hch hnt hL hos (fun q hq => ?_), hnd.2, ?_⟩, p.blk, p.x, x, rfl, hnd.1, hp5, hkp _ _ hoo.over, hkp _ _ hx⟩
  · obtain ⟨oq, hoq⟩ := hos.mem q hq
    refine ⟨?_, hrow hoq.row.1⟩
    rintro (e | e)
    · have h1 := hoq.heap
      rw [e, h.box] at h1
      cases h1
    · exact hnd.1 (by rw [← e]; exact List.mem_map.2 ⟨q, hq, rfl⟩)
  · exact (List.pairwise_cons.1 h.apart).2

set_option maxRecDepth 100000 in
set_option maxHeartbeats 2000000 in
theorem end_some (n0 b : Nat) (c : Int) (y : Tm) (o : Out) (os : List Out) (v0 v1 : Value) (vs : List Value) (ps : List Pnd) (w : World) (h : RS w n0 b ([y], o :: os) v0 v1 vs ps) (hl2 : os.length ≤ 900) (hl3 : o.low.length ≤ 900) (hn : n0 ≤ w.heap.size) (hoc : o.c = 91 ∨ o.c = 123) :
    Calls Tryz.prog 97 #[.pointer (some ⟨b, 0, none⟩), .int .u8 c] w (TakeP n0 b (step (.fin c) ([y], o :: os)) w) := by
  cases ps with
  | nil => exact h.outs.elim
  | cons p ps =>
  obtain ⟨x, hx, hcall⟩ := rs_only h (by simp)
  have HP := Lib.hid hcall
  have hpl := h.outs.len
  simp only [List.length_cons] at hpl
  have hpl2 : ps.length ≤ 900 := by omega
  have hlb : lastb o.c = o.c + 2 := by unfold lastb; rcases hoc with e | e <;> rw [e] <;> decide
  have HLB := Lib.hid hlb
  clear h hcall hpl hlb
  go_enter Tryz.func97, Tryz.ntmps97
  go_wp2_with fail
  refine HP.out.mono ?_
  rintro e w1 ⟨rfl, hc1, u, vs', h1, hy⟩
  have hy1 := hy y rfl
  have h1' : RS w1 n0 b ([], o :: os) u v1 vs' (p :: ps) := h1
  obtain ⟨ty, pv, rfl⟩ := hy1.iface
  have hsz1 := hc1.size
  obtain ⟨A, k, d, hv⟩ := own_form h1'.row
  have ho1 := h1'.row
  have hb1 : CR w1 b u v1 := h1'.box
  subst hv
  obtain rfl := own_len ho1
  obtain ⟨hoo, _⟩ := h1'.outs
  obtain ⟨A2, k2, d2, hlv⟩ := own_form hoo.row.1
  have ho2 : w1.ownsRow n0 154 2 (.slice A (ps.length + 1) d) (ps.length + 1) (flatP ps ++ [.pointer (some ⟨p.blk, 0, none⟩), .slice A2 k2 d2]) := by rw [← hlv]; exact ho1
  have HQ := Lib.hid (pop_o_some n0 b A ps.length d u ⟨p.blk, 0, none⟩ A2 k2 d2 (flatP ps) w1 hb1 ho2 (by omega))
  have HS := Lib.hid (own_short ho2 (m := ps.length) (by omega) (flatP_length ps))
  have H1 := Lib.hid h1'
  have HY := Lib.hid hy1
  have HC1 := Lib.hid hc1
  have HOO := Lib.hid hoo
  have HLV := Lib.hid hlv
  have HB1 := Lib.hid hb1
  clear h1 h1' hy hy1 hc1 ho1 ho2 hb1 hoo hlv
  simp only [List.length_cons, List.length_nil]
  go_wp2_with fail
  refine HQ.out.mono ?_
  rintro e w2 ⟨rfl, hc2, hb2⟩
  have hblk : p.blk ≠ b := fun e => by
    have h1 := HOO.out.heap
    rw [e] at h1
    have h2 := HB1.out
    unfold CR at h2
    rw [h2] at h1
    cases h1
  have hp2 : w2.heap[p.blk]? = some (.cells #[.int .u8 o.c, .int .u8 o.v, p.x, .nilIface] 125 (0, 0)) := (hc2.same _ (blk_lt HOO.out.heap) hblk).trans HOO.out.heap
  obtain ⟨w3, hw3⟩ : ∃ z, w2.alloc (.cells #[.pointer (some ⟨p.blk, 0, none⟩), .slice A2 k2 d2] 154) = z := ⟨_, rfl⟩
  have g3 : w2.grownBy w3 none := by rw [← hw3]; exact World.grownBy_alloc _ _ _
  have hbox : Pr w3 w2.heap.size 154 (.pointer (some ⟨p.blk, 0, none⟩)) (.slice A2 k2 d2) := by rw [← hw3]; exact Pr.new w2 _ _ _
  have hp3 : w3.heap[p.blk]? = some (.cells #[.int .u8 o.c, .int .u8 o.v, p.x, .nilIface] 125 (0, 0)) := (g3.block _ (blk_lt hp2) (by simp)).trans hp2
  have hb3 : CR w3 b u (.slice A ps.length d) := hb2.grown g3 (by simp)
  have q0 := hbox.c0
  have q1 := hbox.c1
  have l0 : w3.cell? ⟨p.blk, 0, none⟩ = some (.int .u8 o.c) := cell_of_row w3 p.blk 0 _ _ (0, 0) hp3
  have HCH3 := Lib.hid (show Chg (fun k => k = b ∨ k = p.blk) w1 w3 from (hc2.mono (fun _ _ e => .inl e)).trans (Chg.grown (wr := fun k => k = b ∨ k = p.blk) g3) (fun _ _ e => e) (fun _ _ e => e))
  have HL := Lib.hid (fun w => lastb_any o.c w)
  have HX3 := Lib.hid hbox
  have HP3 := Lib.hid hp3
  have HB3 := Lib.hid hb3
  have hsz2 : w1.heap.size ≤ w2.heap.size := hc2.size
  have hpb : p.blk < w2.heap.size := blk_lt hp2
  have hbb : b < w2.heap.size := hb2.lt
  clear hc2 hb2 hp2 g3 hbox hp3 hb3
  have l3 : w3.cell? ⟨p.blk, 3, none⟩ = some .nilIface := cell_of_row w3 p.blk 3 _ _ (0, 0) HP3.out
  have lf : w3.frozen? ⟨p.blk, 3, none⟩ = false := by have := HP3.out; simp [World.frozen?, this]
  have c0 := HB3.out.c0
  have f0 := HB3.out.f 0
  have n1 : ¬ w2.heap.size = p.blk := by omega
  have n2 : ¬ w2.heap.size = b := by omega
  have n3 : ¬ b = p.blk := fun e => hblk e.symm
  go_wp2_with fail
  refine (HL.out w3).mono ?_
  rintro e w3 ⟨rfl, rfl⟩
  rw [HLB.out]
  have HC3 := Lib.hid (chgX_trans HC1.out (chgX_of HCH3.out (fun k _ e => by
    rcases e with e | e
    · exact rs_wx H1.out k (.inl e)
    · exact ⟨by rw [e]; exact HOO.out.base, _, _, _, by rw [e]; exact HOO.out.heap, .inr (.inr (.inr rfl))⟩)))
  by_cases hcc : o.c + 2 = c
  · have hne : ((o.c + 2) != c) = false := by simpa using hcc
    obtain ⟨w4, hw4⟩ : ∃ z, w3.setCell ⟨p.blk, 3, none⟩ (.iface ty pv) = z := ⟨_, rfl⟩
    obtain ⟨w5, hw5⟩ : ∃ z, w4.setCell ⟨b, 0, none⟩ (.slice A2 k2 d2) = z := ⟨_, rfl⟩
    have g4 : w3.grownBy w4 (some p.blk) := by rw [← hw4]; exact gr_set _ _ _ _
    have g5 : w4.grownBy w5 (some b) := by rw [← hw5]; exact gr_set _ _ _ _
    have hp4 : w4.heap[p.blk]? = some (.cells #[.int .u8 o.c, .int .u8 o.v, p.x, .iface ty pv] 125 (0, 0)) := by
      have := HP3.out
      rw [← hw4]; simp [World.setCell, Array.getElem?_modify, this]
    have hp5 := (g5.block _ (blk_lt hp4) (by simpa using hblk)).trans hp4
    have hb4 : CR w4 b u (.slice A ps.length d) := HB3.out.grown g4 (by simpa using n3)
    have hb5 : CR w5 b (.slice A2 k2 d2) (.slice A ps.length d) := by rw [← hw5]; exact hb4.set0 _
    have hx4 := HX3.out.grown g4 (by simpa using n1)
    have hx5 := hx4.grown g5 (by simpa using n2)
    have b0 := hb4.c0
    have bf := hb4.f 0
    have x41 := hx4.c1
    have x50 := hx5.c0
    have hch5 : Chg (fun k => k = b ∨ k = p.blk) w1 w5 := (HCH3.out.trans (Chg.row (wr := fun k => k = b ∨ k = p.blk) g4 (fun k hk => .inr (by simpa using hk.symm))) (fun _ _ e => e) (fun _ _ e => e)).trans (Chg.row (wr := fun k => k = b ∨ k = p.blk) g5 (fun k hk => .inl (by simpa using hk.symm))) (fun _ _ e => e) (fun _ _ e => e)
    have ho5 := hch5.own HS.out (fun g hg e => by
      rcases e with e | e
      · exact own_not HS.out HB1.out (by decide) (e ▸ hg)
      · exact own_not HS.out HOO.out.heap (by decide) (e ▸ hg))
    obtain ⟨hr5, hpt5⟩ := rs_end H1.out HY.out hch5 hp5 (by rw [HLV.out]; exact hb5) ho5
    have hsz5 : w1.heap.size ≤ w5.heap.size := hch5.size
    have HR := Lib.hid (rs_pushC (w := w5.drew) (rs_drew (k := 1) hr5) (hpt5.grown (gr_drewN w5 1 none)) (by omega) (by simp; omega))
    have HC5 := Lib.hid (chgX_trans HC1.out (chgX_of hch5 (fun k _ e => by
      rcases e with e | e
      · exact rs_wx H1.out k (.inl e)
      · exact ⟨by rw [e]; exact HOO.out.base, _, _, _, by rw [e]; exact HOO.out.heap, .inr (.inr (.inr rfl))⟩)))
    clear g4 g5 hp4 hp5 hb4 hb5 hx4 hx5 hch5 ho5 hr5 hpt5
    go_wp2_with fail
    go_region_law (go_simp
                   go_at_call 93
                   refine HR.out.mono ?_
                   rintro e w6 ⟨rfl, hc6, u6, vs6, hr6⟩
                   have HR6 := Lib.hid hr6
                   have HC6 := Lib.hid hc6
                   clear hc6 hr6)
    all_goals
      go_wp2_with fail
      go_ret
      exact takeP_yes (by simp only [step]; rw [if_pos hcc]) rfl (chgX_trans (chgX_trans HC5.out (chgX_grown (gr_drewN w5 1 none))) HC6.out) HR6.out
  · have hne : ((o.c + 2) != c) = true := by simpa using hcc
    go_wp2_with fail
    go_ret
    exact takeP_no (by simp only [step]; rw [if_neg hcc]) rfl HC3.out
end

section
open Go.RowKit

theorem takeP_ret {n0 b : Nat} {r : Option MS} {w w' : World} {e : Ending} (h : TakeP n0 b r w e w') : e = .returned (.bool r.isSome) := by
  obtain ⟨_, h⟩ := h
  cases r with
  | none => exact h
  | some m => exact h.1
theorem takeP_from {n0 b : Nat} {r : Option MS} {w w1 w' : World} {e : Ending} (hg : w.grownBy w1 none) (h : TakeP n0 b r w1 e w') : TakeP n0 b r w e w' := ⟨chgX_trans (chgX_grown hg) h.1, h.2⟩

theorem change_any (n0 b : Nat) (c : Int) (m : MS) (v0 v1 : Value) (vs : List Value) (ps : List Pnd) (w : World) (h : RS w n0 b m v0 v1 vs ps) (hl : m.1.length ≤ 900) (hn : n0 ≤ w.heap.size) :
    Calls Tryz.prog 94 #[.pointer (some ⟨b, 0, none⟩), .int .u8 c] w (TakeP n0 b (step (.pre c) m) w) := by
  obtain ⟨ts, os⟩ := m
  cases ts with
  | nil => exact change_none n0 b c os v0 v1 vs ps w h
  | cons x ts => exact change_some n0 b c x ts os v0 v1 vs ps w h (by simp at hl; omega) hn
theorem join_any (n0 b : Nat) (c : Int) (m : MS) (v0 v1 : Value) (vs : List Value) (ps : List Pnd) (w : World) (h : RS w n0 b m v0 v1 vs ps) (hl : m.1.length ≤ 900) (hn : n0 ≤ w.heap.size) :
    Calls Tryz.prog 95 #[.pointer (some ⟨b, 0, none⟩), .int .u8 c] w (TakeP n0 b (step (.two c) m) w) := by
  obtain ⟨ts, os⟩ := m
  cases ts with
  | nil => exact join_none n0 b c os v0 v1 vs ps w h
  | cons y ts =>
    cases ts with
    | nil => exact join_one n0 b c y os v0 v1 vs ps w h
    | cons x ts => exact join_some n0 b c y x ts os v0 v1 vs ps w h (by simp at hl; omega) hn
theorem begin_any (n0 b : Nat) (c v : Int) (m : MS) (v0 v1 : Value) (vs : List Value) (ps : List Pnd) (w : World) (h : RS w n0 b m v0 v1 vs ps) (hl : m.1.length ≤ 900) (hl2 : m.2.length ≤ 900) (hn : n0 ≤ w.heap.size) :
    Calls Tryz.prog 96 #[.pointer (some ⟨b, 0, none⟩), .int .u8 c, .int .u8 v] w (TakeP n0 b (step (.beg c v) m) w) := by
  obtain ⟨ts, os⟩ := m
  cases ts with
  | nil => exact begin_none n0 b c v os v0 v1 vs ps w h
  | cons x ts => exact begin_some n0 b c v x ts os v0 v1 vs ps w h (by simp at hl; omega) (by simp at hl2; omega) hn
theorem end_any (n0 b : Nat) (c : Int) (m : MS) (v0 v1 : Value) (vs : List Value) (ps : List Pnd) (w : World) (h : RS w n0 b m v0 v1 vs ps) (hl : m.1.length ≤ 900) (hl2 : m.2.length ≤ 900) (hl3 : ∀ o ∈ m.2, (o.c = 91 ∨ o.c = 123) ∧ o.low.length ≤ 900) (hn : n0 ≤ w.heap.size) :
    Calls Tryz.prog 97 #[.pointer (some ⟨b, 0, none⟩), .int .u8 c] w (TakeP n0 b (step (.fin c) m) w) := by
  obtain ⟨ts, os⟩ := m
  match ts, os, h, hl, hl2, hl3 with
  | [], os, h, hl, hl2, hl3 => exact end_none n0 b c _ v0 v1 vs ps w h (by simp) (by simp at hl2 ⊢; omega) (.inl (by simp))
  | y :: x :: ts, os, h, hl, hl2, hl3 => exact end_none n0 b c _ v0 v1 vs ps w h (by simp at hl ⊢; omega) (by simp at hl2 ⊢; omega) (.inl (by simp))
  | [y], [], h, hl, hl2, hl3 => exact end_none n0 b c _ v0 v1 vs ps w h (by simp) (by simp) (.inr rfl)
  | [y], o :: os, h, hl, hl2, hl3 =>
    have := hl3 o (by simp)
    exact end_some n0 b c y o os v0 v1 vs ps w h (by simp at hl2; omega) this.2 hn this.1

set_option maxRecDepth 100000 in
set_option maxHeartbeats 1000000 in
theorem take_pre (n0 b : Nat) (c v : Int) (r : Option MS) (w : World) (hb : ∀ w1, w.grownBy w1 none → Calls Tryz.prog 94 #[.pointer (some ⟨b, 0, none⟩), .int .u8 c] w1 (TakeP n0 b r w1)) :
    Calls Tryz.prog 63 #[.pointer (some ⟨b, 0, none⟩), insT 3 c v] w (TakeP n0 b r w) := by
  obtain ⟨w1, hw1⟩ : ∃ z, w.alloc (.cells #[.int .i64 3, .int .u8 c, .int .u8 v] 66) = z := ⟨_, rfl⟩
  have g1 : w.grownBy w1 none := by rw [← hw1]; exact World.grownBy_alloc _ _ _
  have hc3 : C3 w1 w.heap.size (.int .i64 3) (.int .u8 c) (.int .u8 v) 66 := by rw [← hw1]; exact c3_new w _ _ _ _
  have c0 := hc3.c0
  have c1 := hc3.c1
  have c2 := hc3.c2
  have HB := Lib.hid (hb w1 g1)
  have HG := Lib.hid g1
  clear hb g1 hc3
  unfold insT
  go_enter Tryz.func63, Tryz.ntmps63
  go_wp2_with fail
  refine HB.out.mono ?_
  intro e w2 h
  obtain rfl := takeP_ret h
  have H := Lib.hid h
  clear h
  go_wp2_with fail
  go_ret
  exact takeP_from HG.out H.out

set_option maxRecDepth 100000 in
set_option maxHeartbeats 1000000 in
theorem take_two (n0 b : Nat) (c v : Int) (r : Option MS) (w : World) (hb : ∀ w1, w.grownBy w1 none → Calls Tryz.prog 95 #[.pointer (some ⟨b, 0, none⟩), .int .u8 c] w1 (TakeP n0 b r w1)) :
    Calls Tryz.prog 63 #[.pointer (some ⟨b, 0, none⟩), insT 4 c v] w (TakeP n0 b r w) := by
  obtain ⟨w1, hw1⟩ : ∃ z, w.alloc (.cells #[.int .i64 4, .int .u8 c, .int .u8 v] 66) = z := ⟨_, rfl⟩
  have g1 : w.grownBy w1 none := by rw [← hw1]; exact World.grownBy_alloc _ _ _
  have hc3 : C3 w1 w.heap.size (.int .i64 4) (.int .u8 c) (.int .u8 v) 66 := by rw [← hw1]; exact c3_new w _ _ _ _
  have c0 := hc3.c0
  have c1 := hc3.c1
  have c2 := hc3.c2
  have HB := Lib.hid (hb w1 g1)
  have HG := Lib.hid g1
  clear hb g1 hc3
  unfold insT
  go_enter Tryz.func63, Tryz.ntmps63
  go_wp2_with fail
  refine HB.out.mono ?_
  intro e w2 h
  obtain rfl := takeP_ret h
  have H := Lib.hid h
  clear h
  go_wp2_with fail
  go_ret
  exact takeP_from HG.out H.out

set_option maxRecDepth 100000 in
set_option maxHeartbeats 1000000 in
theorem take_beg (n0 b : Nat) (c v : Int) (r : Option MS) (w : World) (hb : ∀ w1, w.grownBy w1 none → Calls Tryz.prog 96 #[.pointer (some ⟨b, 0, none⟩), .int .u8 c, .int .u8 v] w1 (TakeP n0 b r w1)) :
    Calls Tryz.prog 63 #[.pointer (some ⟨b, 0, none⟩), insT 5 c v] w (TakeP n0 b r w) := by
  obtain ⟨w1, hw1⟩ : ∃ z, w.alloc (.cells #[.int .i64 5, .int .u8 c, .int .u8 v] 66) = z := ⟨_, rfl⟩
  have g1 : w.grownBy w1 none := by rw [← hw1]; exact World.grownBy_alloc _ _ _
  have hc3 : C3 w1 w.heap.size (.int .i64 5) (.int .u8 c) (.int .u8 v) 66 := by rw [← hw1]; exact c3_new w _ _ _ _
  have c0 := hc3.c0
  have c1 := hc3.c1
  have c2 := hc3.c2
  have HB := Lib.hid (hb w1 g1)
  have HG := Lib.hid g1
  clear hb g1 hc3
  unfold insT
  go_enter Tryz.func63, Tryz.ntmps63
  go_wp2_with fail
  refine HB.out.mono ?_
  intro e w2 h
  obtain rfl := takeP_ret h
  have H := Lib.hid h
  clear h
  go_wp2_with fail
  go_ret
  exact takeP_from HG.out H.out

set_option maxRecDepth 100000 in
set_option maxHeartbeats 1000000 in
theorem take_fin (n0 b : Nat) (c v : Int) (r : Option MS) (w : World) (hb : ∀ w1, w.grownBy w1 none → Calls Tryz.prog 97 #[.pointer (some ⟨b, 0, none⟩), .int .u8 c] w1 (TakeP n0 b r w1)) :
    Calls Tryz.prog 63 #[.pointer (some ⟨b, 0, none⟩), insT 6 c v] w (TakeP n0 b r w) := by
  obtain ⟨w1, hw1⟩ : ∃ z, w.alloc (.cells #[.int .i64 6, .int .u8 c, .int .u8 v] 66) = z := ⟨_, rfl⟩
  have g1 : w.grownBy w1 none := by rw [← hw1]; exact World.grownBy_alloc _ _ _
  have hc3 : C3 w1 w.heap.size (.int .i64 6) (.int .u8 c) (.int .u8 v) 66 := by rw [← hw1]; exact c3_new w _ _ _ _
  have c0 := hc3.c0
  have c1 := hc3.c1
  have c2 := hc3.c2
  have HB := Lib.hid (hb w1 g1)
  have HG := Lib.hid g1
  clear hb g1 hc3
  unfold insT
  go_enter Tryz.func63, Tryz.ntmps63
  go_wp2_with fail
  refine HB.out.mono ?_
  intro e w2 h
  obtain rfl := takeP_ret h
  have H := Lib.hid h
  clear h
  go_wp2_with fail
  go_ret
  exact takeP_from HG.out H.out

set_option maxRecDepth 100000 in
set_option maxHeartbeats 1000000 in
theorem take_dig (n0 b : Nat) (c : Int) (m : MS) (v0 v1 : Value) (vs : List Value) (ps : List Pnd) (w : World) (h : RS w n0 b m v0 v1 vs ps) (hl : m.1.length ≤ 900) (hn : n0 ≤ w.heap.size) :
    Calls Tryz.prog 63 #[.pointer (some ⟨b, 0, none⟩), insT 1 c 0] w (TakeP n0 b (step (.dig c) m) w) := by
  obtain ⟨w1, hw1⟩ : ∃ z, w.alloc (.cells #[.int .i64 1, .int .u8 c, .int .u8 0] 66) = z := ⟨_, rfl⟩
  have g1 : w.grownBy w1 none := by rw [← hw1]; exact World.grownBy_alloc _ _ _
  have hc3 : C3 w1 w.heap.size (.int .i64 1) (.int .u8 c) (.int .u8 0) 66 := by rw [← hw1]; exact c3_new w _ _ _ _
  have c0 := hc3.c0
  have c1 := hc3.c1
  have c2 := hc3.c2
  obtain ⟨ts, os⟩ := m
  have h1 := rs_drew (k := 1) (h.grown g1)
  have hsz := g1.size
  have HR := Lib.hid (rs_pushC (w := w1.drew) h1 (show PT w1.drew (fun k => k ∉ ps.map Pnd.blk) (.dig c) (.iface 114 (.int .u8 c)) from rfl) (by simp at hl; omega) (by simp; omega))
  have HG := Lib.hid g1
  clear h h1 g1 hc3 hsz
  unfold insT
  go_enter Tryz.func63, Tryz.ntmps63
  go_wp2_with fail
  go_region_law (go_simp
                 go_at_call 93
                 refine HR.out.mono ?_
                 rintro e w6 ⟨rfl, hc6, u6, vs6, hr6⟩
                 have HR6 := Lib.hid hr6
                 have HC6 := Lib.hid hc6
                 clear hc6 hr6)
  all_goals
    go_wp2_with fail
    go_ret
    exact takeP_yes rfl rfl (chgX_trans (chgX_grown (HG.out.trans (gr_drewN w1 1 none))) HC6.out) HR6.out

set_option maxRecDepth 100000 in
set_option maxHeartbeats 1000000 in
theorem take_var (n0 b : Nat) (c : Int) (m : MS) (v0 v1 : Value) (vs : List Value) (ps : List Pnd) (w : World) (h : RS w n0 b m v0 v1 vs ps) (hl : m.1.length ≤ 900) (hn : n0 ≤ w.heap.size) :
    Calls Tryz.prog 63 #[.pointer (some ⟨b, 0, none⟩), insT 2 c 0] w (TakeP n0 b (step (.var c) m) w) := by
  obtain ⟨w1, hw1⟩ : ∃ z, w.alloc (.cells #[.int .i64 2, .int .u8 c, .int .u8 0] 66) = z := ⟨_, rfl⟩
  have g1 : w.grownBy w1 none := by rw [← hw1]; exact World.grownBy_alloc _ _ _
  have hc3 : C3 w1 w.heap.size (.int .i64 2) (.int .u8 c) (.int .u8 0) 66 := by rw [← hw1]; exact c3_new w _ _ _ _
  have c0 := hc3.c0
  have c1 := hc3.c1
  have c2 := hc3.c2
  obtain ⟨ts, os⟩ := m
  have h1 := rs_drew (k := 1) (h.grown g1)
  have hsz := g1.size
  have HR := Lib.hid (rs_pushC (w := w1.drew) h1 (show PT w1.drew (fun k => k ∉ ps.map Pnd.blk) (.var c) (.iface 64 (.int .u8 c)) from rfl) (by simp at hl; omega) (by simp; omega))
  have HG := Lib.hid g1
  clear h h1 g1 hc3 hsz
  unfold insT
  go_enter Tryz.func63, Tryz.ntmps63
  go_wp2_with fail
  go_region_law (go_simp
                 go_at_call 93
                 refine HR.out.mono ?_
                 rintro e w6 ⟨rfl, hc6, u6, vs6, hr6⟩
                 have HR6 := Lib.hid hr6
                 have HC6 := Lib.hid hc6
                 clear hc6 hr6)
  all_goals
    go_wp2_with fail
    go_ret
    exact takeP_yes rfl rfl (chgX_trans (chgX_grown (HG.out.trans (gr_drewN w1 1 none))) HC6.out) HR6.out

set_option maxRecDepth 100000 in
set_option maxHeartbeats 1000000 in
theorem take_bad (n0 b : Nat) (c v : Int) (w : World) :
    Calls Tryz.prog 63 #[.pointer (some ⟨b, 0, none⟩), insT 0 c v] w (TakeP n0 b none w) := by
  obtain ⟨w1, hw1⟩ : ∃ z, w.alloc (.cells #[.int .i64 0, .int .u8 c, .int .u8 v] 66) = z := ⟨_, rfl⟩
  have g1 : w.grownBy w1 none := by rw [← hw1]; exact World.grownBy_alloc _ _ _
  have hc3 : C3 w1 w.heap.size (.int .i64 0) (.int .u8 c) (.int .u8 v) 66 := by rw [← hw1]; exact c3_new w _ _ _ _
  have c0 := hc3.c0
  have c1 := hc3.c1
  have c2 := hc3.c2
  have HG := Lib.hid g1
  clear g1 hc3
  unfold insT
  go_enter Tryz.func63, Tryz.ntmps63
  go_wp2_with fail
  go_ret
  exact takeP_no rfl rfl (chgX_grown HG.out)

theorem told_low {n : Nat} {m : MS} (h : Told7 n m) : m.1.length ≤ n ∧ m.2.length ≤ n ∧ ∀ o ∈ m.2, (o.c = 91 ∨ o.c = 123) ∧ o.low.length ≤ n := by
  have hg := h.hg
  rw [hgt_eq] at hg
  have key : ∀ (os : List Out) (o : Out), o ∈ os → o.low.length ≤ (low os).length := by
    intro os
    induction os with
    | nil => intro o ho; cases ho
    | cons p os ih =>
      intro o ho
      simp only [low, List.length_append, List.length_reverse]
      rcases List.mem_cons.1 ho with rfl | ho
      · omega
      · have := ih o ho; omega
  exact ⟨by omega, h.lv, fun o ho => ⟨(h.ok.2 o ho).1, by have := key _ o ho; omega⟩⟩

/-- The reader takes a piece of code. -/
theorem take_any (n0 b n : Nat) (x : ByteArray) (m : MS) (v0 v1 : Value) (vs : List Value) (ps : List Pnd) (w : World) (h : RS w n0 b m v0 v1 vs ps) (ht : Told7 n m) (hn9 : n ≤ 900) (hn : n0 ≤ w.heap.size) :
    Calls Tryz.prog 63 #[.pointer (some ⟨b, 0, none⟩), riV x] w (TakeP n0 b (stepB x m) w) := by
  obtain ⟨t1, t2, t3⟩ := told_low ht
  have hr := riV_of x
  unfold stepB
  cases hi : insOf x with
  | none =>
    rw [hi] at hr
    obtain ⟨c, v, hr⟩ := hr
    rw [hr]
    exact take_bad n0 b c v w
  | some i =>
    rw [hi] at hr
    rw [show riV x = i.val from hr]
    cases i with
    | dig c => exact take_dig n0 b c m v0 v1 vs ps w h (by omega) hn
    | var c => exact take_var n0 b c m v0 v1 vs ps w h (by omega) hn
    | pre c => exact take_pre n0 b c 0 _ w (fun w1 g1 => change_any n0 b c m v0 v1 vs ps w1 (h.grown g1) (by omega) (Nat.le_trans hn g1.size))
    | two c => exact take_two n0 b c 0 _ w (fun w1 g1 => join_any n0 b c m v0 v1 vs ps w1 (h.grown g1) (by omega) (Nat.le_trans hn g1.size))
    | beg c v => exact take_beg n0 b c v _ w (fun w1 g1 => begin_any n0 b c v m v0 v1 vs ps w1 (h.grown g1) (by omega) (by omega) (Nat.le_trans hn g1.size))
    | fin c => exact take_fin n0 b c 0 _ w (fun w1 g1 => end_any n0 b c m v0 v1 vs ps w1 (h.grown g1) (by omega) (by omega) (fun o ho => ⟨(t3 o ho).1, by have := (t3 o ho).2; omega⟩) (Nat.le_trans hn g1.size))
end

section
open Go.RowKit

/-- How whole ends. -/
def WholeP (n0 : Nat) (r : Option Tm) (w : World) (e : Ending) (w' : World) : Prop := Chg (WX n0 w) w w' ∧ ∃ x : Value, (x = .nilIface ∨ ∃ ty pv, x = .iface ty pv) ∧ e = .returned (.tuple #[x, .bool r.isSome]) ∧ ∀ t, r = some t → PT w' (fun _ => True) t x

set_option maxRecDepth 100000 in
set_option maxHeartbeats 1000000 in
theorem whole_any (n0 b : Nat) (m : MS) (v0 v1 : Value) (vs : List Value) (ps : List Pnd) (w : World) (h : RS w n0 b m v0 v1 vs ps) (hl : m.1.length ≤ 900) (hl2 : m.2.length ≤ 900) :
    Calls Tryz.prog 64 #[.pointer (some ⟨b, 0, none⟩)] w (WholeP n0 (whole m) w) := by
  obtain ⟨ts, os⟩ := m
  have hpl := h.outs.len
  simp only at hpl hl hl2
  obtain ⟨p, q, r, hcall⟩ := rs_outN h (by omega)
  have HP := Lib.hid hcall
  cases os with
  | cons o os =>
    have hw : whole (ts, o :: os) = none := by unfold whole; split <;> simp_all
    have hps : ps ≠ [] := by intro e; subst e; simp at hpl
    have HPS := Lib.hid hps
    rw [hw]
    clear h hcall hpl hps
    go_enter Tryz.func64, Tryz.ntmps64
    go_wp2_with fail
    refine HP.out.mono ?_
    rintro e w1 ⟨⟨A, k, c, rfl, -⟩, hc1, hr⟩
    obtain rfl := hr.2 HPS.out
    have HC1 := Lib.hid hc1
    clear hc1 hr
    go_wp2_with fail
    go_ret2
    exact ⟨chgX_trans HC1.out (chgX_grown (World.grownBy_alloc _ _ _)), _, .inl rfl, rfl, fun t ht => by cases ht⟩
  | nil =>
    have hps : ps = [] := List.length_eq_zero_iff.1 (by simpa using hpl.symm)
    subst hps
    obtain ⟨A, k, c, hv⟩ := own_form h.row
    have ho1 := h.row
    have hb1 : CR w b v0 v1 := h.box
    subst hv
    obtain rfl := own_len ho1
    have HPN := Lib.hid (pop_o_none b A c v0 w hb1)
    have H := Lib.hid h
    clear h hcall hpl HP hb1 ho1
    go_enter Tryz.func64, Tryz.ntmps64
    go_wp2_with fail
    refine HPN.out.mono ?_
    rintro e w1 ⟨rfl, hg1⟩
    have g2 := hg1.trans (World.grownBy_alloc w1 (.cells #[.pointer none, .slice none 0 0] 154) none)
    obtain ⟨x, hx, hcall⟩ := rs_only (H.out.grown g2) (Nat.le_trans hl (by omega))
    have HQ := Lib.hid hcall
    have HG := Lib.hid g2
    clear g2 hg1 hcall
    go_wp2_with fail
    refine HQ.out.mono ?_
    rintro e w3 ⟨rfl, hc3, u, vs', _, hy⟩
    have HC := Lib.hid (chgX_trans (chgX_grown HG.out) hc3)
    have HY := Lib.hid hy
    have hd : decide (ts.length = 1) = (whole (ts, [])).isSome := by
      match ts with
      | [] => rfl
      | [y] => rfl
      | y :: z :: ts => simp [whole]
    have HW := Lib.hid (show ∀ t, whole (ts, []) = some t → ts = [t] by
      intro t ht
      unfold whole at ht
      split at ht
      · rename_i e; cases e; cases ht; rfl
      · cases ht)
    simp only at hy ⊢
    rw [hd]
    clear hc3 hy hd
    rcases hx with rfl | ⟨ty, pv, rfl⟩
    all_goals
      go_wp2_with fail
      go_ret2
      exact ⟨HC.out, _, (by first | exact .inl rfl | exact .inr ⟨_, _, rfl⟩), rfl, fun t ht => (HY.out t (HW.out t ht)).any⟩
end
end

/-! SeqS -/
section
section
open Go.RowKit

/-- Whatever is no cells of these types lies as it lay. -/
structure KeepsX (X : TypeId → Prop) (W W' : World) : Prop where
  size : W.heap.size ≤ W'.heap.size
  same : ∀ (k : Nat) (o : Obj), W.heap[k]? = some o → (∀ xs t m, o = .cells xs t m → ¬ X t) → W'.heap[k]? = some o

theorem KeepsX.refl (X : TypeId → Prop) (W : World) : KeepsX X W W := ⟨Nat.le_refl _, fun _ _ h _ => h⟩
theorem KeepsX.trans {X : TypeId → Prop} {A B C : World} (h : KeepsX X A B) (k : KeepsX X B C) : KeepsX X A C :=
  ⟨Nat.le_trans h.size k.size, fun i o hi ho => k.same i o (h.same i o hi ho) ho⟩
theorem not_cells_spares {o : Obj} (h : o.isCells = false) (X : TypeId → Prop) : ∀ xs t m, o = .cells xs t m → ¬ X t := fun xs t m e => by subst e; cases h
theorem KeepsX.from {X : TypeId → Prop} {W W' : World} (h : KeepsX X W W') (B : Nat) : KeepsFrom B W W' :=
  ⟨h.size, fun k o _ hk ho => h.same k o hk (not_cells_spares ho X)⟩
theorem KeepsX.grown {X : TypeId → Prop} {W W' : World} (h : W.grownBy W' none) : KeepsX X W W' :=
  ⟨h.size, fun k o hk _ => (h.block k (Array.getElem?_eq_some_iff.1 hk).1 (fun e => by cases e)).trans hk⟩
theorem KeepsX.alloc {X : TypeId → Prop} (W : World) (o : Obj) : KeepsX X W (W.alloc o) := KeepsX.grown (World.grownBy_alloc W o none)
/-- A step that turns one block of such cells. -/
theorem KeepsX.grownX {X : TypeId → Prop} {W W' : World} {g : Nat} {xs : Array Value} {t : TypeId} {m : Nat × Nat} (h : W.grownBy W' (some g)) (hg : W.heap[g]? = some (.cells xs t m)) (ht : X t) : KeepsX X W W' :=
  ⟨h.size, fun k o hk ho => (h.block k (Array.getElem?_eq_some_iff.1 hk).1 (fun e => by cases e; rw [hg] at hk; cases hk; exact ho _ _ _ rfl ht)).trans hk⟩
theorem KeepsX.cell {X : TypeId → Prop} {W W' : World} (h : KeepsX X W W') {b : Nat} {v : Value} {t : TypeId} {m : Nat × Nat} (hb : W.heap[b]? = some (.cells #[v] t m)) (ht : ¬ X t) : W'.heap[b]? = some (.cells #[v] t m) :=
  h.same b _ hb (fun xs t' m' e => by cases e; exact ht)
theorem ownFrom_keepsX {β : Type} (X : TypeId → Prop) (W0 : World) {B : Nat} (hB : W0.heap.size ≤ B) : OwnFrom B (fun (_ : β) W => KeepsX X W0 W) := fun s A C row hs hg hr =>
  ⟨Nat.le_trans hs.size hg.size, fun k o hk ho => (hg.block k (Nat.lt_of_lt_of_le (Array.getElem?_eq_some_iff.1 hk).1 hs.size) (fun e => by
    have h1 := (hr k e.symm).1
    have h2 := (Array.getElem?_eq_some_iff.1 hk).1
    omega)).trans (hs.same k o hk ho)⟩
theorem OwnFrom.mono' {β : Type} {B B' : Nat} {I : β → World → Prop} (h : OwnFrom B I) (hB : B ≤ B') : OwnFrom B' I := fun s W W' row hs hg hr =>
  h s W W' row hs hg (fun r e => ⟨Nat.le_trans hB (hr r e).1, (hr r e).2⟩)
/-- A round: the loop's record is busy meanwhile, and ready again. -/
theorem KeepsX.round {X : TypeId → Prop} {W W3 : World} {l : Nat} {o o2 : Obj} (hl : W.heap[l]? = some o) (h : KeepsX X (W.putObj l o2) W3) : KeepsX X W (W3.putObj l o) := by
  have hlt := (Array.getElem?_eq_some_iff.1 hl).1
  refine ⟨by simpa using h.size, fun k o' hk ho => ?_⟩
  by_cases e : k = l
  · subst e
    rw [hl] at hk
    cases hk
    exact World.putObj_heap_same (Nat.lt_of_lt_of_le (by simpa using hlt) h.size)
  · rw [World.putObj_heap_other e]
    exact h.same k o' (by rw [World.putObj_heap_other e]; exact hk) ho

/-- **An iterator's contract**: these numbers come, one by one, or a round has said 'no more'. -/
def SeqOwn (X : TypeId → Prop) (P : Program) (g : Nat) (lb : Array Value) (zs : List Int) (w : World) : Prop :=
  ∀ (n l : Nat) (J Jx : List Int → World → Prop) (W : World), KeepsX X w W → OwnFrom W.heap.size J → OwnFrom W.heap.size Jx →
    (∀ m pre x W1, J pre W1 → pre.length < zs.length → YieldAt Fence.wide m P l #[.int .i64 x] W1 fun e W' =>
      (e = .returned (.bool true) ∧ J (pre ++ [x]) W' ∧ KeepsX X W1 W') ∨ (e = .returned (.bool false) ∧ Jx (pre ++ [x]) W' ∧ KeepsFrom W.heap.size W1 W')) →
    J [] W →
    CallsIn Fence.wide n P g (#[.func (.yield l) #[] #[]] ++ lb) W fun e W' => (∃ v, e = .returned v) ∧ (J zs W' ∨ ∃ pre, pre <+: zs ∧ Jx pre W')

/-- How the body of a round may be left. -/
def rangeEnd (X : TypeId → Prop) (B : Nat) (I Ix : List Int → World → Prop) (xs : List Int) (W : World) : Exit → Act → World → Prop
  | .normal, _, W' => KeepsX X W W' ∧ I xs W'
  | .ret, _, W' => KeepsFrom B W W' ∧ Ix xs W'
  | _, _, _ => False

/-- The mark of a loop. -/
def mark (D : Nat) : Deferred := { target := .collected D, args := #[] }

theorem range_own {P : Program} {g : Operand} {p : Tmp} {assign body : Code} {Q : Exit → Act → World → Prop} {a : Act} {w : World} {n : Nat} {X : TypeId → Prop}
    {gf : Nat} {lb : Array Value} (hg : a.eval g = .func (.func gf) #[] lb) (eg : ∀ args w, (callFunc gf args).run P w = .ok (.enter gf args) w)
    {zs : List Int} (hseq : SeqOwn X P gf lb zs w) (I Ix : List Int → World → Prop) (hI : OwnFrom w.heap.size I) (hIx : OwnFrom w.heap.size Ix) (h0 : I [] w) (a₁ : Int → Act)
    (hassign : ∀ (l m : Nat) (x : Int) (W : World) (K : Act → World → Prop), K (a₁ x) W →
      assign.wpIn (Fence.wide.inRound l) m P (Exit.then K (fun _ _ _ => False)) { tmps := a.tmps.setIfInBounds p (.int .i64 x), defers := [] } W)
    (hbody : ∀ (l m : Nat) (pre : List Int) (x : Int) (W : World), I pre W → pre.length < zs.length → body.wpIn (Fence.wide.inRound l) m P (rangeEnd X w.heap.size I Ix (pre ++ [x]) W) (a₁ x) W)
    (hdone : ∀ (D : Nat) (W : World), w.heap.size ≤ D → I zs W → W.heap[D]? = some (.deferred (some [])) → Q .normal { a with defers := mark D :: a.defers } W)
    (hstop : ∀ (D : Nat) (pre : List Int) (W : World), w.heap.size ≤ D → pre <+: zs → Ix pre W → W.heap[D]? = some (.deferred (some [])) → Code.ret.wpIn Fence.wide n P Q { a with defers := mark D :: a.defers } W) :
    (Code.rangeFunc g #[p] assign body).wpIn Fence.wide n P Q a w := by
  refine wpIn_rangeFunc ?_
  intro fn hfn
  obtain ⟨R, hR⟩ : ∃ R : LoopState → Option Code → Loop, R = fun st pe => { state := st, pending := pe, fn, tmps := a.tmps, params := #[p], assign, body, defers := w.heap.size } := ⟨_, rfl⟩
  obtain ⟨V, hV⟩ : ∃ V, (w.alloc (.deferred (some []))).alloc (.loop (R .ready none)) = V := ⟨_, rfl⟩
  have vs : V.heap.size = w.heap.size + 2 := by rw [← hV]; simp
  have vg : w.grownBy V none := by rw [← hV]; exact (World.grownBy_alloc _ _ _).trans (World.grownBy_alloc _ _ _)
  have vl : V.heap[w.heap.size + 1]? = some (.loop (R .ready none)) := by
    have h1 := World.alloc_heap_new (w.alloc (.deferred (some []))) (.loop (R .ready none))
    rw [World.size_alloc] at h1
    rw [← hV]; exact h1
  have vd : V.heap[w.heap.size]? = some (.deferred (some [])) := by
    rw [← hV]; exact (Below.heap_alloc _ _ _ (by simp)).trans (World.alloc_heap_new w _)
  refine ⟨w.heap.size + 1, [mark w.heap.size], V, { target := .fn (.func gf) lb, args := #[.func (.yield (w.heap.size + 1)) #[] #[]] }, V, gf, #[.func (.yield (w.heap.size + 1)) #[] #[]] ++ lb, V, ?_, ?_, ?_, ?_, ?_, ?_⟩
  · rw [← hV, hR]; exact run_enterLoop_outer _ _ _ _ _
  · simp only [resolve, hg]
    simp [go_sem]
  · intro _ _; trivial
  · simp [invoke, go_sem, eg]
  · intro h; cases h
  · -- what stands beside the invariant: the loop's record and the block of its mark
    have side : ∀ (st : LoopState) (pe : Option Code) (A B : World) (row : Option Nat), A.grownBy B row → (∀ r, row = some r → V.heap.size ≤ r ∧ ∃ o : Obj, A.heap[r]? = some o ∧ o.isCells = false) →
        A.heap[w.heap.size + 1]? = some (.loop (R st pe)) ∧ A.heap[w.heap.size]? = some (.deferred (some [])) → B.heap[w.heap.size + 1]? = some (.loop (R st pe)) ∧ B.heap[w.heap.size]? = some (.deferred (some [])) := fun st pe A B row hg' hr hs =>
      ⟨(hg'.block _ (Array.getElem?_eq_some_iff.1 hs.1).1 (fun e => by have := (hr _ e.symm).1; omega)).trans hs.1,
       (hg'.block _ (Array.getElem?_eq_some_iff.1 hs.2).1 (fun e => by have := (hr _ e.symm).1; omega)).trans hs.2⟩
    have hI2 : OwnFrom V.heap.size (fun pre W => I pre W ∧ W.heap[w.heap.size + 1]? = some (.loop (R .ready none)) ∧ W.heap[w.heap.size]? = some (.deferred (some []))) := fun s A B row hs hg' hr =>
      ⟨hI s A B row hs.1 hg' (fun r e => ⟨by have := (hr r e).1; omega, (hr r e).2⟩), side _ _ A B row hg' hr hs.2⟩
    have hIx2 : OwnFrom V.heap.size (fun pre W => Ix pre W ∧ W.heap[w.heap.size + 1]? = some (.loop (R .done (some .ret))) ∧ W.heap[w.heap.size]? = some (.deferred (some []))) := fun s A B row hs hg' hr =>
      ⟨hIx s A B row hs.1 hg' (fun r e => ⟨by have := (hr r e).1; omega, (hr r e).2⟩), side _ _ A B row hg' hr hs.2⟩
    refine (hseq _ (w.heap.size + 1) _ _ V (KeepsX.grown vg) hI2 hIx2 ?_ ⟨hI [] w V none h0 vg (fun r e => by cases e), vl, vd⟩).mono ?_
    · rintro m pre x W ⟨hi, hl, hk⟩ hlen
      have hlt : w.heap.size + 1 < W.heap.size := (Array.getElem?_eq_some_iff.1 hl).1
      have hy := run_yield (P := P) (args := #[.int .i64 x]) hl (by rw [hR]; rfl)
      rw [hR] at hy
      have hz : ((#[p] : Array Tmp).zip #[Value.int .i64 x]).foldl (fun t (q, v) => t.setIfInBounds q v) a.tmps = a.tmps.setIfInBounds p (.int .i64 x) := by simp
      refine ⟨fn, _, assign, body, hy, roundIn_of_wpIn hfn ?_⟩
      show assign.wpIn _ _ P _ { tmps := ((#[p] : Array Tmp).zip #[Value.int .i64 x]).foldl (fun t (q, v) => t.setIfInBounds q v) a.tmps, defers := [] } W
      rw [hz]
      refine hassign _ _ x W _ ⟨_, run_beginRound hl (by rw [hR]), ?_⟩
      obtain ⟨Wb, hWb⟩ : ∃ Wb, W.putObj (w.heap.size + 1) (.loop { R .ready none with state := .busy }) = Wb := ⟨_, rfl⟩
      have hlb : Wb.heap[w.heap.size + 1]? = some (.loop { R .ready none with state := .busy }) := by rw [← hWb]; exact World.putObj_heap_same hlt
      have hkb : Wb.heap[w.heap.size]? = some (.deferred (some [])) := by rw [← hWb]; exact (World.putObj_heap_other (by omega)).trans hk
      have hib : I pre Wb := by rw [← hWb]; exact hI.putObj _ hi (by omega) hl rfl
      rw [hWb]
      refine wpIn_mono (hbody _ _ pre x Wb hib hlen) ?_
      have last : ∀ (jump : Option Code) (W3 : World), KeepsFrom w.heap.size Wb W3 →
          (Instr.endRound (w.heap.size + 1) jump).run P W3 = .ok (.bool jump.isNone) (W3.putObj (w.heap.size + 1) (.loop (R (if jump.isNone then .ready else .done) jump))) ∧
          W3.heap[w.heap.size + 1]? = some (.loop { R .ready none with state := .busy }) ∧ W3.heap[w.heap.size]? = some (.deferred (some [])) := fun jump W3 hk3 => by
        have h3 := hk3.same _ _ (by omega) hlb rfl
        have h4 := run_endRound (P := P) jump h3
        refine ⟨?_, h3, hk3.same _ _ (Nat.le_refl _) hkb rfl⟩
        rw [h4, hR]
      rintro e a3 W3 hp
      cases e with
      | normal =>
        obtain ⟨hk3, hi3⟩ := hp
        obtain ⟨hr, hl3, hd3⟩ := last none W3 (hk3.from _)
        have hlt3 := (Array.getElem?_eq_some_iff.1 hl3).1
        refine ⟨_, _, hr, .inl ⟨rfl, ⟨hI.putObj _ hi3 (by omega) hl3 rfl, World.putObj_heap_same hlt3, (World.putObj_heap_other (by omega)).trans hd3⟩, ?_⟩⟩
        rw [← hWb] at hk3
        exact KeepsX.round hl hk3
      | ret =>
        obtain ⟨hk3, hi3⟩ := hp
        obtain ⟨hr, hl3, hd3⟩ := last (some .ret) W3 hk3
        have hlt3 := (Array.getElem?_eq_some_iff.1 hl3).1
        refine ⟨_, _, hr, .inr ⟨rfl, ⟨hIx.putObj _ hi3 (by omega) hl3 rfl, World.putObj_heap_same hlt3, (World.putObj_heap_other (by omega)).trans hd3⟩, ?_⟩⟩
        refine ⟨?_, fun k o hk ho hc => ?_⟩
        · have := hk3.size
          rw [← hWb] at this
          simpa using this
        · rw [World.putObj_heap_other (by omega)]
          refine hk3.same k o (by omega) ?_ hc
          rw [← hWb, World.putObj_heap_other (by omega)]
          exact ho
      | exit id => exact hp.elim
      | goto t => exact hp.elim
      | panic ch => exact hp.elim
      | outgrown => exact hp.elim
    · rintro e W2 ⟨⟨v, rfl⟩, (⟨hi, hl, hk⟩ | ⟨pre, hpre, hi, hl, hk⟩)⟩
      · have h5 := run_endLoop (P := P) hl (by rw [hR]; simp)
        refine ⟨none, _, by rw [h5, hR], hdone _ _ (Nat.le_refl _) (hI.putObj _ hi (by omega) hl rfl) ((World.putObj_heap_other (by omega)).trans hk)⟩
      · have h5 := run_endLoop (P := P) hl (by rw [hR]; simp)
        refine ⟨some .ret, _, by rw [h5, hR], hstop _ pre _ (Nat.le_refl _) hpre (hIx.putObj _ hi (by omega) hl rfl) ((World.putObj_heap_other (by omega)).trans hk)⟩

/-- At the function's end: its marks, one by one. -/
theorem leaves_marks {P : Program} {n : Nat} {fn : Func} {tmps : Array Value} {R : Ending → World → Prop} {v : Value} (K : World → Prop)
    (hres : ∀ w, (results fn tmps).run P w = .ok v w) (hR : ∀ w, K w → R (.returned v) w) :
    ∀ (ds : List Nat) (w : World), (∀ (D : Nat) (w : World), D ∈ ds → K w → w.heap[D]? = some (.deferred (some [])) → K (w.putObj D (.deferred none))) → ds.Nodup → (∀ D ∈ ds, w.heap[D]? = some (.deferred (some []))) → K w → LeavesInM Fence.wide n P fn tmps R (ds.map mark) .returning w
  | [], w, _, _, _, hK => ⟨v, hres w, hR w hK⟩
  | D :: ds, w, hs, hn, hd, hK => by
    obtain ⟨h1, h2⟩ := List.nodup_cons.1 hn
    refine ⟨by simp, .inl ⟨D, _, rfl, run_takeDeferred (hd D (by simp)), ?_⟩⟩
    refine leaves_marks K hres hR ds _ (fun D' w hm => hs D' w (by simp [hm])) h2 (fun D' hm => ?_) (hs D w (by simp) hK (hd D (by simp)))
    have hne : D' ≠ D := fun e => h1 (e ▸ hm)
    rw [World.putObj_heap_other hne]
    exact hd D' (by simp [hm])
end

section
open Go.RowKit

/-- Whatever is no cells of these blocks and types lies as it lay. -/
structure KeepsK (X : Nat → TypeId → Prop) (W W' : World) : Prop where
  size : W.heap.size ≤ W'.heap.size
  same : ∀ (k : Nat) (o : Obj), W.heap[k]? = some o → (∀ xs t m, o = .cells xs t m → ¬ X k t) → W'.heap[k]? = some o

theorem KeepsK.refl (X : Nat → TypeId → Prop) (W : World) : KeepsK X W W := ⟨Nat.le_refl _, fun _ _ h _ => h⟩
theorem KeepsK.trans {X : Nat → TypeId → Prop} {A B C : World} (h : KeepsK X A B) (k : KeepsK X B C) : KeepsK X A C :=
  ⟨Nat.le_trans h.size k.size, fun i o hi ho => k.same i o (h.same i o hi ho) ho⟩
theorem not_cells_sparesK {o : Obj} (h : o.isCells = false) (X : Nat → TypeId → Prop) (k : Nat) : ∀ xs t m, o = .cells xs t m → ¬ X k t := fun xs t m e => by subst e; cases h
theorem KeepsK.from {X : Nat → TypeId → Prop} {W W' : World} (h : KeepsK X W W') (B : Nat) : KeepsFrom B W W' :=
  ⟨h.size, fun k o _ hk ho => h.same k o hk (not_cells_sparesK ho X k)⟩
theorem KeepsK.grown {X : Nat → TypeId → Prop} {W W' : World} (h : W.grownBy W' none) : KeepsK X W W' :=
  ⟨h.size, fun k o hk _ => (h.block k (Array.getElem?_eq_some_iff.1 hk).1 (fun e => by cases e)).trans hk⟩
theorem KeepsK.alloc {X : Nat → TypeId → Prop} (W : World) (o : Obj) : KeepsK X W (W.alloc o) := KeepsK.grown (World.grownBy_alloc W o none)
/-- A step that turns one block of such cells. -/
theorem KeepsK.grownX {X : Nat → TypeId → Prop} {W W' : World} {g : Nat} {xs : Array Value} {t : TypeId} {m : Nat × Nat} (h : W.grownBy W' (some g)) (hg : W.heap[g]? = some (.cells xs t m)) (ht : X g t) : KeepsK X W W' :=
  ⟨h.size, fun k o hk ho => (h.block k (Array.getElem?_eq_some_iff.1 hk).1 (fun e => by cases e; rw [hg] at hk; cases hk; exact ho _ _ _ rfl ht)).trans hk⟩
theorem KeepsK.cell {X : Nat → TypeId → Prop} {W W' : World} (h : KeepsK X W W') {b : Nat} {v : Value} {t : TypeId} {m : Nat × Nat} (hb : W.heap[b]? = some (.cells #[v] t m)) (ht : ¬ X b t) : W'.heap[b]? = some (.cells #[v] t m) :=
  h.same b _ hb (fun xs t' m' e => by cases e; exact ht)
theorem KeepsK.row {X : Nat → TypeId → Prop} {W W' : World} (h : KeepsK X W W') {b : Nat} {xs : Array Value} {t : TypeId} {m : Nat × Nat} (hb : W.heap[b]? = some (.cells xs t m)) (ht : ¬ X b t) : W'.heap[b]? = some (.cells xs t m) :=
  h.same b _ hb (fun xs t' m' e => by cases e; exact ht)
theorem ownFrom_keepsK {β : Type} (X : Nat → TypeId → Prop) (W0 : World) {B : Nat} (hB : W0.heap.size ≤ B) : OwnFrom B (fun (_ : β) W => KeepsK X W0 W) := fun s A C row hs hg hr =>
  ⟨Nat.le_trans hs.size hg.size, fun k o hk ho => (hg.block k (Nat.lt_of_lt_of_le (Array.getElem?_eq_some_iff.1 hk).1 hs.size) (fun e => by
    have h1 := (hr k e.symm).1
    have h2 := (Array.getElem?_eq_some_iff.1 hk).1
    omega)).trans (hs.same k o hk ho)⟩
/-- A round: the loop's record is busy meanwhile, and ready again. -/
theorem KeepsK.round {X : Nat → TypeId → Prop} {W W3 : World} {l : Nat} {o o2 : Obj} (hl : W.heap[l]? = some o) (h : KeepsK X (W.putObj l o2) W3) : KeepsK X W (W3.putObj l o) := by
  have hlt := (Array.getElem?_eq_some_iff.1 hl).1
  refine ⟨by simpa using h.size, fun k o' hk ho => ?_⟩
  by_cases e : k = l
  · subst e
    rw [hl] at hk
    cases hk
    exact World.putObj_heap_same (Nat.lt_of_lt_of_le (by simpa using hlt) h.size)
  · rw [World.putObj_heap_other e]
    exact h.same k o' (by rw [World.putObj_heap_other e]; exact hk) ho
theorem ownFrom_keepsF {β : Type} (B0 : Nat) (W0 : World) {B : Nat} (hB : W0.heap.size ≤ B) : OwnFrom B (fun (_ : β) W => KeepsFrom B0 W0 W) := fun s A C row hs hg hr =>
  ⟨Nat.le_trans hs.size hg.size, fun k o hb hk ho => (hg.block k (Nat.lt_of_lt_of_le (Array.getElem?_eq_some_iff.1 hk).1 hs.size) (fun e => by
    have h1 := (hr k e.symm).1
    have h2 := (Array.getElem?_eq_some_iff.1 hk).1
    omega)).trans (hs.same k o hb hk ho)⟩
theorem KeepsFrom.upK {B B' : Nat} {W W' : World} (h : KeepsFrom B W W') (hB : B ≤ B') : KeepsFrom B' W W' := ⟨h.size, fun k o hb hk ho => h.same k o (Nat.le_trans hB hb) hk ho⟩
theorem RoundIn.inRoundK {F : Fence} {n : Nat} {P : Program} {l : Nat} {f : FuncId} {tmps : Array Value} {assign body : Code} {w : World} {R : Ending → World → Prop} (l0 : Nat)
    (h : RoundIn F n P l f tmps assign body w R) : RoundIn (F.inRound l0) n P l f tmps assign body w R := h

/-- **An iterator's contract**: these things come, one by one, or a round has said 'no more'. -/
def SeqOwnK {α : Type} (vs : α → Array Value) (X : Nat → TypeId → Prop) (P : Program) (g : Nat) (lb : Array Value) (zs : List α) (w : World) : Prop :=
  ∀ (n l : Nat) (J Jx : List α → World → Prop) (W : World), KeepsK X w W → OwnFrom W.heap.size J → OwnFrom W.heap.size Jx →
    (∀ m pre x W1, J pre W1 → pre ++ [x] <+: zs → YieldAt Fence.wide m P l (vs x) W1 fun e W' =>
      (e = .returned (.bool true) ∧ J (pre ++ [x]) W' ∧ KeepsK X W1 W') ∨ (e = .returned (.bool false) ∧ Jx (pre ++ [x]) W' ∧ KeepsFrom W.heap.size W1 W')) →
    J [] W →
    CallsIn Fence.wide n P g (#[.func (.yield l) #[] #[]] ++ lb) W fun e W' => (∃ v, e = .returned v) ∧ (J zs W' ∨ ∃ pre, pre <+: zs ∧ Jx pre W')

/-- How the body of a round may be left. -/
def rangeEndK {α : Type} (X : Nat → TypeId → Prop) (B : Nat) (I Ix : List α → World → Prop) (xs : List α) (W : World) : Exit → Act → World → Prop
  | .normal, _, W' => KeepsK X W W' ∧ I xs W'
  | .ret, _, W' => KeepsFrom B W W' ∧ Ix xs W'
  | _, _, _ => False

theorem range_ownK {α : Type} (vs : α → Array Value) {P : Program} {g : Operand} {ps : Array Tmp} {assign body : Code} {Q : Exit → Act → World → Prop} {a : Act} {w : World} {n : Nat} {X : Nat → TypeId → Prop}
    {gf : Nat} {lb : Array Value} (hg : a.eval g = .func (.func gf) #[] lb) (eg : ∀ args w, (callFunc gf args).run P w = .ok (.enter gf args) w)
    {zs : List α} (hseq : SeqOwnK vs X P gf lb zs w) (I Ix : List α → World → Prop) (hI : OwnFrom w.heap.size I) (hIx : OwnFrom w.heap.size Ix) (h0 : I [] w) (hsz : ∀ x, (vs x).size = ps.size) (a₁ : α → Act)
    (hassign : ∀ (l m : Nat) (x : α) (W : World) (K : Act → World → Prop), K (a₁ x) W →
      assign.wpIn (Fence.wide.inRound l) m P (Exit.then K (fun _ _ _ => False)) { tmps := (ps.zip (vs x)).foldl (fun t (q, v) => t.setIfInBounds q v) a.tmps, defers := [] } W)
    (hbody : ∀ (l m : Nat) (pre : List α) (x : α) (W : World), w.heap.size ≤ l → (∃ r, W.heap[l]? = some (.loop r)) → I pre W → pre ++ [x] <+: zs → body.wpIn (Fence.wide.inRound l) m P (rangeEndK X w.heap.size I Ix (pre ++ [x]) W) (a₁ x) W)
    (hdone : ∀ (D : Nat) (W : World), w.heap.size ≤ D → I zs W → W.heap[D]? = some (.deferred (some [])) → Q .normal { a with defers := mark D :: a.defers } W)
    (hstop : ∀ (D : Nat) (pre : List α) (W : World), w.heap.size ≤ D → pre <+: zs → Ix pre W → W.heap[D]? = some (.deferred (some [])) → Code.ret.wpIn Fence.wide n P Q { a with defers := mark D :: a.defers } W) :
    (Code.rangeFunc g ps assign body).wpIn Fence.wide n P Q a w := by
  refine wpIn_rangeFunc ?_
  intro fn hfn
  obtain ⟨R, hR⟩ : ∃ R : LoopState → Option Code → Loop, R = fun st pe => { state := st, pending := pe, fn, tmps := a.tmps, params := ps, assign, body, defers := w.heap.size } := ⟨_, rfl⟩
  obtain ⟨V, hV⟩ : ∃ V, (w.alloc (.deferred (some []))).alloc (.loop (R .ready none)) = V := ⟨_, rfl⟩
  have vsz : V.heap.size = w.heap.size + 2 := by rw [← hV]; simp
  have vg : w.grownBy V none := by rw [← hV]; exact (World.grownBy_alloc _ _ _).trans (World.grownBy_alloc _ _ _)
  have vl : V.heap[w.heap.size + 1]? = some (.loop (R .ready none)) := by
    have h1 := World.alloc_heap_new (w.alloc (.deferred (some []))) (.loop (R .ready none))
    rw [World.size_alloc] at h1
    rw [← hV]; exact h1
  have vd : V.heap[w.heap.size]? = some (.deferred (some [])) := by
    rw [← hV]; exact (Below.heap_alloc _ _ _ (by simp)).trans (World.alloc_heap_new w _)
  refine ⟨w.heap.size + 1, [mark w.heap.size], V, { target := .fn (.func gf) lb, args := #[.func (.yield (w.heap.size + 1)) #[] #[]] }, V, gf, #[.func (.yield (w.heap.size + 1)) #[] #[]] ++ lb, V, ?_, ?_, ?_, ?_, ?_, ?_⟩
  · rw [← hV, hR]; exact run_enterLoop_outer _ _ _ _ _
  · simp only [resolve, hg]
    simp [go_sem]
  · intro _ _; trivial
  · simp [invoke, go_sem, eg]
  · intro h; cases h
  · -- what stands beside the invariant: the loop's record and the block of its mark
    have side : ∀ (st : LoopState) (pe : Option Code) (A B : World) (row : Option Nat), A.grownBy B row → (∀ r, row = some r → V.heap.size ≤ r ∧ ∃ o : Obj, A.heap[r]? = some o ∧ o.isCells = false) →
        A.heap[w.heap.size + 1]? = some (.loop (R st pe)) ∧ A.heap[w.heap.size]? = some (.deferred (some [])) → B.heap[w.heap.size + 1]? = some (.loop (R st pe)) ∧ B.heap[w.heap.size]? = some (.deferred (some [])) := fun st pe A B row hg' hr hs =>
      ⟨(hg'.block _ (Array.getElem?_eq_some_iff.1 hs.1).1 (fun e => by have := (hr _ e.symm).1; omega)).trans hs.1,
       (hg'.block _ (Array.getElem?_eq_some_iff.1 hs.2).1 (fun e => by have := (hr _ e.symm).1; omega)).trans hs.2⟩
    have hI2 : OwnFrom V.heap.size (fun pre W => I pre W ∧ W.heap[w.heap.size + 1]? = some (.loop (R .ready none)) ∧ W.heap[w.heap.size]? = some (.deferred (some []))) := fun s A B row hs hg' hr =>
      ⟨hI s A B row hs.1 hg' (fun r e => ⟨by have := (hr r e).1; omega, (hr r e).2⟩), side _ _ A B row hg' hr hs.2⟩
    have hIx2 : OwnFrom V.heap.size (fun pre W => Ix pre W ∧ W.heap[w.heap.size + 1]? = some (.loop (R .done (some .ret))) ∧ W.heap[w.heap.size]? = some (.deferred (some []))) := fun s A B row hs hg' hr =>
      ⟨hIx s A B row hs.1 hg' (fun r e => ⟨by have := (hr r e).1; omega, (hr r e).2⟩), side _ _ A B row hg' hr hs.2⟩
    refine (hseq _ (w.heap.size + 1) _ _ V (KeepsK.grown vg) hI2 hIx2 ?_ ⟨hI [] w V none h0 vg (fun r e => by cases e), vl, vd⟩).mono ?_
    · rintro m pre x W ⟨hi, hl, hk⟩ hlen
      have hlt : w.heap.size + 1 < W.heap.size := (Array.getElem?_eq_some_iff.1 hl).1
      have hy := run_yield (P := P) (args := (vs x)) hl (by rw [hR]; exact hsz x)
      rw [hR] at hy
      refine ⟨fn, _, assign, body, hy, roundIn_of_wpIn hfn ?_⟩
      refine hassign _ _ x W _ ⟨_, run_beginRound hl (by rw [hR]), ?_⟩
      obtain ⟨Wb, hWb⟩ : ∃ Wb, W.putObj (w.heap.size + 1) (.loop { R .ready none with state := .busy }) = Wb := ⟨_, rfl⟩
      have hlb : Wb.heap[w.heap.size + 1]? = some (.loop { R .ready none with state := .busy }) := by rw [← hWb]; exact World.putObj_heap_same hlt
      have hkb : Wb.heap[w.heap.size]? = some (.deferred (some [])) := by rw [← hWb]; exact (World.putObj_heap_other (by omega)).trans hk
      have hib : I pre Wb := by rw [← hWb]; exact hI.putObj _ hi (by omega) hl rfl
      rw [hWb]
      refine wpIn_mono (hbody _ _ pre x Wb (by omega) ⟨_, hlb⟩ hib hlen) ?_
      have last : ∀ (jump : Option Code) (W3 : World), KeepsFrom w.heap.size Wb W3 →
          (Instr.endRound (w.heap.size + 1) jump).run P W3 = .ok (.bool jump.isNone) (W3.putObj (w.heap.size + 1) (.loop (R (if jump.isNone then .ready else .done) jump))) ∧
          W3.heap[w.heap.size + 1]? = some (.loop { R .ready none with state := .busy }) ∧ W3.heap[w.heap.size]? = some (.deferred (some [])) := fun jump W3 hk3 => by
        have h3 := hk3.same _ _ (by omega) hlb rfl
        have h4 := run_endRound (P := P) jump h3
        refine ⟨?_, h3, hk3.same _ _ (Nat.le_refl _) hkb rfl⟩
        rw [h4, hR]
      rintro e a3 W3 hp
      cases e with
      | normal =>
        obtain ⟨hk3, hi3⟩ := hp
        obtain ⟨hr, hl3, hd3⟩ := last none W3 (hk3.from _)
        have hlt3 := (Array.getElem?_eq_some_iff.1 hl3).1
        refine ⟨_, _, hr, .inl ⟨rfl, ⟨hI.putObj _ hi3 (by omega) hl3 rfl, World.putObj_heap_same hlt3, (World.putObj_heap_other (by omega)).trans hd3⟩, ?_⟩⟩
        rw [← hWb] at hk3
        exact KeepsK.round hl hk3
      | ret =>
        obtain ⟨hk3, hi3⟩ := hp
        obtain ⟨hr, hl3, hd3⟩ := last (some .ret) W3 hk3
        have hlt3 := (Array.getElem?_eq_some_iff.1 hl3).1
        refine ⟨_, _, hr, .inr ⟨rfl, ⟨hIx.putObj _ hi3 (by omega) hl3 rfl, World.putObj_heap_same hlt3, (World.putObj_heap_other (by omega)).trans hd3⟩, ?_⟩⟩
        refine ⟨?_, fun k o hk ho hc => ?_⟩
        · have := hk3.size
          rw [← hWb] at this
          simpa using this
        · rw [World.putObj_heap_other (by omega)]
          refine hk3.same k o (by omega) ?_ hc
          rw [← hWb, World.putObj_heap_other (by omega)]
          exact ho
      | exit id => exact hp.elim
      | goto t => exact hp.elim
      | panic ch => exact hp.elim
      | outgrown => exact hp.elim
    · rintro e W2 ⟨⟨v, rfl⟩, (⟨hi, hl, hk⟩ | ⟨pre, hpre, hi, hl, hk⟩)⟩
      · have h5 := run_endLoop (P := P) hl (by rw [hR]; simp)
        refine ⟨none, _, by rw [h5, hR], hdone _ _ (Nat.le_refl _) (hI.putObj _ hi (by omega) hl rfl) ((World.putObj_heap_other (by omega)).trans hk)⟩
      · have h5 := run_endLoop (P := P) hl (by rw [hR]; simp)
        refine ⟨some .ret, _, by rw [h5, hR], hstop _ pre _ (Nat.le_refl _) hpre (hIx.putObj _ hi (by omega) hl rfl) ((World.putObj_heap_other (by omega)).trans hk)⟩

/-- The same within a round of another loop: no mark. -/
theorem range_inK {α : Type} (vs : α → Array Value) {P : Program} {g : Operand} {ps : Array Tmp} {assign body : Code} {Q : Exit → Act → World → Prop} {a : Act} {w : World} {n : Nat} {X : Nat → TypeId → Prop}
    {l₀ : Nat} {r₀ : Loop} (hl₀ : w.heap[l₀]? = some (.loop r₀)) {gf : Nat} {lb : Array Value} (hg : a.eval g = .func (.func gf) #[] lb) (eg : ∀ args w, (callFunc gf args).run P w = .ok (.enter gf args) w)
    {zs : List α} (hseq : SeqOwnK vs X P gf lb zs w) (I Ix : List α → World → Prop) (hI : OwnFrom w.heap.size I) (hIx : OwnFrom w.heap.size Ix) (h0 : I [] w) (hsz : ∀ x, (vs x).size = ps.size) (a₁ : α → Act)
    (hassign : ∀ (l m : Nat) (x : α) (W : World) (K : Act → World → Prop), K (a₁ x) W →
      assign.wpIn (Fence.wide.inRound l) m P (Exit.then K (fun _ _ _ => False)) { tmps := (ps.zip (vs x)).foldl (fun t (q, v) => t.setIfInBounds q v) a.tmps, defers := [] } W)
    (hbody : ∀ (l m : Nat) (pre : List α) (x : α) (W : World), w.heap.size ≤ l → (∃ r, W.heap[l]? = some (.loop r)) → I pre W → pre ++ [x] <+: zs → body.wpIn (Fence.wide.inRound l) m P (rangeEndK X w.heap.size I Ix (pre ++ [x]) W) (a₁ x) W)
    (hdone : ∀ (W : World), I zs W → Q .normal a W)
    (hstop : ∀ (pre : List α) (W : World), pre <+: zs → Ix pre W → Code.ret.wpIn (Fence.wide.inRound l₀) n P Q a W) :
    (Code.rangeFunc g ps assign body).wpIn (Fence.wide.inRound l₀) n P Q a w := by
  refine wpIn_rangeFunc ?_
  intro fn hfn
  obtain ⟨R, hR⟩ : ∃ R : LoopState → Option Code → Loop, R = fun st pe => { state := st, pending := pe, fn, tmps := a.tmps, params := ps, assign, body, defers := r₀.defers } := ⟨_, rfl⟩
  obtain ⟨V, hV⟩ : ∃ V, w.alloc (.loop (R .ready none)) = V := ⟨_, rfl⟩
  have vsz : V.heap.size = w.heap.size + 1 := by rw [← hV]; simp
  have vg : w.grownBy V none := by rw [← hV]; exact World.grownBy_alloc _ _ _
  have vl : V.heap[w.heap.size]? = some (.loop (R .ready none)) := by rw [← hV]; exact World.alloc_heap_new w _
  refine ⟨w.heap.size, [], V, { target := .fn (.func gf) lb, args := #[.func (.yield w.heap.size) #[] #[]] }, V, gf, #[.func (.yield w.heap.size) #[] #[]] ++ lb, V, ?_, ?_, ?_, ?_, ?_, ?_⟩
  · rw [← hV, hR]; exact run_enterLoop_inner hl₀ _ _ _ _ _
  · simp only [resolve, hg]
    simp [go_sem]
  · intro _ _; trivial
  · simp [invoke, go_sem, eg]
  · intro h; cases h
  · have side : ∀ (st : LoopState) (pe : Option Code) (A B : World) (row : Option Nat), A.grownBy B row → (∀ r, row = some r → V.heap.size ≤ r ∧ ∃ o : Obj, A.heap[r]? = some o ∧ o.isCells = false) →
        A.heap[w.heap.size]? = some (.loop (R st pe)) → B.heap[w.heap.size]? = some (.loop (R st pe)) := fun st pe A B row hg' hr hs =>
      (hg'.block _ (Array.getElem?_eq_some_iff.1 hs).1 (fun e => by have := (hr _ e.symm).1; omega)).trans hs
    have hI2 : OwnFrom V.heap.size (fun pre W => I pre W ∧ W.heap[w.heap.size]? = some (.loop (R .ready none))) := fun s A B row hs hg' hr =>
      ⟨hI s A B row hs.1 hg' (fun r e => ⟨by have := (hr r e).1; omega, (hr r e).2⟩), side _ _ A B row hg' hr hs.2⟩
    have hIx2 : OwnFrom V.heap.size (fun pre W => Ix pre W ∧ W.heap[w.heap.size]? = some (.loop (R .done (some .ret)))) := fun s A B row hs hg' hr =>
      ⟨hIx s A B row hs.1 hg' (fun r e => ⟨by have := (hr r e).1; omega, (hr r e).2⟩), side _ _ A B row hg' hr hs.2⟩
    refine (hseq _ w.heap.size _ _ V (KeepsK.grown vg) hI2 hIx2 ?_ ⟨hI [] w V none h0 vg (fun r e => by cases e), vl⟩).mono ?_
    · rintro m pre x W ⟨hi, hl⟩ hlen
      have hlt : w.heap.size < W.heap.size := (Array.getElem?_eq_some_iff.1 hl).1
      have hy := run_yield (P := P) (args := (vs x)) hl (by rw [hR]; exact hsz x)
      rw [hR] at hy
      refine ⟨fn, _, assign, body, hy, roundIn_of_wpIn hfn ?_⟩
      refine hassign _ _ x W _ ⟨_, run_beginRound hl (by rw [hR]), ?_⟩
      obtain ⟨Wb, hWb⟩ : ∃ Wb, W.putObj w.heap.size (.loop { R .ready none with state := .busy }) = Wb := ⟨_, rfl⟩
      have hlb : Wb.heap[w.heap.size]? = some (.loop { R .ready none with state := .busy }) := by rw [← hWb]; exact World.putObj_heap_same hlt
      have hib : I pre Wb := by rw [← hWb]; exact hI.putObj _ hi (by omega) hl rfl
      rw [hWb]
      refine wpIn_mono (hbody _ _ pre x Wb (Nat.le_refl _) ⟨_, hlb⟩ hib hlen) ?_
      have last : ∀ (jump : Option Code) (W3 : World), KeepsFrom w.heap.size Wb W3 →
          (Instr.endRound w.heap.size jump).run P W3 = .ok (.bool jump.isNone) (W3.putObj w.heap.size (.loop (R (if jump.isNone then .ready else .done) jump))) ∧
          W3.heap[w.heap.size]? = some (.loop { R .ready none with state := .busy }) := fun jump W3 hk3 => by
        have h3 := hk3.same _ _ (Nat.le_refl _) hlb rfl
        have h4 := run_endRound (P := P) jump h3
        refine ⟨?_, h3⟩
        rw [h4, hR]
      rintro e a3 W3 hp
      cases e with
      | normal =>
        obtain ⟨hk3, hi3⟩ := hp
        obtain ⟨hr, hl3⟩ := last none W3 (hk3.from _)
        have hlt3 := (Array.getElem?_eq_some_iff.1 hl3).1
        refine ⟨_, _, hr, .inl ⟨rfl, ⟨hI.putObj _ hi3 (by omega) hl3 rfl, World.putObj_heap_same hlt3⟩, ?_⟩⟩
        rw [← hWb] at hk3
        exact KeepsK.round hl hk3
      | ret =>
        obtain ⟨hk3, hi3⟩ := hp
        obtain ⟨hr, hl3⟩ := last (some .ret) W3 hk3
        have hlt3 := (Array.getElem?_eq_some_iff.1 hl3).1
        refine ⟨_, _, hr, .inr ⟨rfl, ⟨hIx.putObj _ hi3 (by omega) hl3 rfl, World.putObj_heap_same hlt3⟩, ?_⟩⟩
        refine ⟨?_, fun k o hk ho hc => ?_⟩
        · have := hk3.size
          rw [← hWb] at this
          simpa using this
        · rw [World.putObj_heap_other (by omega)]
          refine hk3.same k o (by omega) ?_ hc
          rw [← hWb, World.putObj_heap_other (by omega)]
          exact ho
      | exit id => exact hp.elim
      | goto t => exact hp.elim
      | panic ch => exact hp.elim
      | outgrown => exact hp.elim
    · rintro e W2 ⟨⟨v, rfl⟩, (⟨hi, hl⟩ | ⟨pre, hpre, hi, hl⟩)⟩
      · have h5 := run_endLoop (P := P) hl (by rw [hR]; simp)
        exact ⟨none, _, by rw [h5, hR], hdone _ (hI.putObj _ hi (by omega) hl rfl)⟩
      · have h5 := run_endLoop (P := P) hl (by rw [hR]; simp)
        exact ⟨some .ret, _, by rw [h5, hR], hstop pre _ hpre (hIx.putObj _ hi (by omega) hl rfl)⟩
end

section
open Go.RowKit

/-- **An iterator's contract**: things come one by one, each one allowed behind those that came, and what came in the end is whole. -/
def SeqSetK {α : Type} (vs : α → Array Value) (X : Nat → TypeId → Prop) (P : Program) (g : Nat) (lb : Array Value) (Pre : List α → α → Prop) (End : List α → Prop) (w : World) : Prop :=
  ∀ (n l : Nat) (J : List α → World → Prop) (W : World), KeepsK X w W → OwnFrom W.heap.size J →
    (∀ m pre x W1, J pre W1 → Pre pre x → YieldAt Fence.wide m P l (vs x) W1 fun e W' => e = .returned (.bool true) ∧ J (pre ++ [x]) W' ∧ KeepsK X W1 W') →
    J [] W →
    CallsIn Fence.wide n P g (#[.func (.yield l) #[] #[]] ++ lb) W fun e W' => (∃ v, e = .returned v) ∧ ∃ zs, End zs ∧ J zs W'

/-- How the body of a round may be left. -/
def rangeEndS {α : Type} (X : Nat → TypeId → Prop) (I : List α → World → Prop) (xs : List α) (W : World) : Exit → Act → World → Prop
  | .normal, _, W' => KeepsK X W W' ∧ I xs W'
  | _, _, _ => False

theorem range_ownS {α : Type} (vs : α → Array Value) {P : Program} {g : Operand} {ps : Array Tmp} {assign body : Code} {Q : Exit → Act → World → Prop} {a : Act} {w : World} {n : Nat} {X : Nat → TypeId → Prop}
    {gf : Nat} {lb : Array Value} (hg : a.eval g = .func (.func gf) #[] lb) (eg : ∀ args w, (callFunc gf args).run P w = .ok (.enter gf args) w)
    {Pre : List α → α → Prop} {End : List α → Prop} (hseq : SeqSetK vs X P gf lb Pre End w) (I : List α → World → Prop) (hI : OwnFrom w.heap.size I) (h0 : I [] w) (hsz : ∀ x, (vs x).size = ps.size) (a₁ : α → Act)
    (hassign : ∀ (l m : Nat) (x : α) (W : World) (K : Act → World → Prop), K (a₁ x) W →
      assign.wpIn (Fence.wide.inRound l) m P (Exit.then K (fun _ _ _ => False)) { tmps := (ps.zip (vs x)).foldl (fun t (q, v) => t.setIfInBounds q v) a.tmps, defers := [] } W)
    (hbody : ∀ (l m : Nat) (pre : List α) (x : α) (W : World), w.heap.size ≤ l → (∃ r, W.heap[l]? = some (.loop r)) → I pre W → Pre pre x → body.wpIn (Fence.wide.inRound l) m P (rangeEndS X I (pre ++ [x]) W) (a₁ x) W)
    (hdone : ∀ (D : Nat) (zs : List α) (W : World), w.heap.size ≤ D → End zs → I zs W → W.heap[D]? = some (.deferred (some [])) → Q .normal { a with defers := mark D :: a.defers } W) :
    (Code.rangeFunc g ps assign body).wpIn Fence.wide n P Q a w := by
  refine wpIn_rangeFunc ?_
  intro fn hfn
  obtain ⟨R, hR⟩ : ∃ R : LoopState → Option Code → Loop, R = fun st pe => { state := st, pending := pe, fn, tmps := a.tmps, params := ps, assign, body, defers := w.heap.size } := ⟨_, rfl⟩
  obtain ⟨V, hV⟩ : ∃ V, (w.alloc (.deferred (some []))).alloc (.loop (R .ready none)) = V := ⟨_, rfl⟩
  have vsz : V.heap.size = w.heap.size + 2 := by rw [← hV]; simp
  have vg : w.grownBy V none := by rw [← hV]; exact (World.grownBy_alloc _ _ _).trans (World.grownBy_alloc _ _ _)
  have vl : V.heap[w.heap.size + 1]? = some (.loop (R .ready none)) := by
    have h1 := World.alloc_heap_new (w.alloc (.deferred (some []))) (.loop (R .ready none))
    rw [World.size_alloc] at h1
    rw [← hV]; exact h1
  have vd : V.heap[w.heap.size]? = some (.deferred (some [])) := by
    rw [← hV]; exact (Below.heap_alloc _ _ _ (by simp)).trans (World.alloc_heap_new w _)
  refine ⟨w.heap.size + 1, [mark w.heap.size], V, { target := .fn (.func gf) lb, args := #[.func (.yield (w.heap.size + 1)) #[] #[]] }, V, gf, #[.func (.yield (w.heap.size + 1)) #[] #[]] ++ lb, V, ?_, ?_, ?_, ?_, ?_, ?_⟩
  · rw [← hV, hR]; exact run_enterLoop_outer _ _ _ _ _
  · simp only [resolve, hg]
    simp [go_sem]
  · intro _ _; trivial
  · simp [invoke, go_sem, eg]
  · intro h; cases h
  · -- what stands beside the invariant: the loop's record and the block of its mark
    have side : ∀ (st : LoopState) (pe : Option Code) (A B : World) (row : Option Nat), A.grownBy B row → (∀ r, row = some r → V.heap.size ≤ r ∧ ∃ o : Obj, A.heap[r]? = some o ∧ o.isCells = false) →
        A.heap[w.heap.size + 1]? = some (.loop (R st pe)) ∧ A.heap[w.heap.size]? = some (.deferred (some [])) → B.heap[w.heap.size + 1]? = some (.loop (R st pe)) ∧ B.heap[w.heap.size]? = some (.deferred (some [])) := fun st pe A B row hg' hr hs =>
      ⟨(hg'.block _ (Array.getElem?_eq_some_iff.1 hs.1).1 (fun e => by have := (hr _ e.symm).1; omega)).trans hs.1,
       (hg'.block _ (Array.getElem?_eq_some_iff.1 hs.2).1 (fun e => by have := (hr _ e.symm).1; omega)).trans hs.2⟩
    have hI2 : OwnFrom V.heap.size (fun pre W => I pre W ∧ W.heap[w.heap.size + 1]? = some (.loop (R .ready none)) ∧ W.heap[w.heap.size]? = some (.deferred (some []))) := fun s A B row hs hg' hr =>
      ⟨hI s A B row hs.1 hg' (fun r e => ⟨by have := (hr r e).1; omega, (hr r e).2⟩), side _ _ A B row hg' hr hs.2⟩
    refine (hseq _ (w.heap.size + 1) _ V (KeepsK.grown vg) hI2 ?_ ⟨hI [] w V none h0 vg (fun r e => by cases e), vl, vd⟩).mono ?_
    · rintro m pre x W ⟨hi, hl, hk⟩ hlen
      have hlt : w.heap.size + 1 < W.heap.size := (Array.getElem?_eq_some_iff.1 hl).1
      have hy := run_yield (P := P) (args := (vs x)) hl (by rw [hR]; exact hsz x)
      rw [hR] at hy
      refine ⟨fn, _, assign, body, hy, roundIn_of_wpIn hfn ?_⟩
      refine hassign _ _ x W _ ⟨_, run_beginRound hl (by rw [hR]), ?_⟩
      obtain ⟨Wb, hWb⟩ : ∃ Wb, W.putObj (w.heap.size + 1) (.loop { R .ready none with state := .busy }) = Wb := ⟨_, rfl⟩
      have hlb : Wb.heap[w.heap.size + 1]? = some (.loop { R .ready none with state := .busy }) := by rw [← hWb]; exact World.putObj_heap_same hlt
      have hkb : Wb.heap[w.heap.size]? = some (.deferred (some [])) := by rw [← hWb]; exact (World.putObj_heap_other (by omega)).trans hk
      have hib : I pre Wb := by rw [← hWb]; exact hI.putObj _ hi (by omega) hl rfl
      rw [hWb]
      refine wpIn_mono (hbody _ _ pre x Wb (by omega) ⟨_, hlb⟩ hib hlen) ?_
      have last : ∀ (jump : Option Code) (W3 : World), KeepsFrom w.heap.size Wb W3 →
          (Instr.endRound (w.heap.size + 1) jump).run P W3 = .ok (.bool jump.isNone) (W3.putObj (w.heap.size + 1) (.loop (R (if jump.isNone then .ready else .done) jump))) ∧
          W3.heap[w.heap.size + 1]? = some (.loop { R .ready none with state := .busy }) ∧ W3.heap[w.heap.size]? = some (.deferred (some [])) := fun jump W3 hk3 => by
        have h3 := hk3.same _ _ (by omega) hlb rfl
        have h4 := run_endRound (P := P) jump h3
        refine ⟨?_, h3, hk3.same _ _ (Nat.le_refl _) hkb rfl⟩
        rw [h4, hR]
      rintro e a3 W3 hp
      cases e with
      | normal =>
        obtain ⟨hk3, hi3⟩ := hp
        obtain ⟨hr, hl3, hd3⟩ := last none W3 (hk3.from _)
        have hlt3 := (Array.getElem?_eq_some_iff.1 hl3).1
        refine ⟨_, _, hr, rfl, ⟨hI.putObj _ hi3 (by omega) hl3 rfl, World.putObj_heap_same hlt3, (World.putObj_heap_other (by omega)).trans hd3⟩, ?_⟩
        rw [← hWb] at hk3
        exact KeepsK.round hl hk3
      | ret => exact hp.elim
      | exit id => exact hp.elim
      | goto t => exact hp.elim
      | panic ch => exact hp.elim
      | outgrown => exact hp.elim
    · rintro e W2 ⟨⟨v, rfl⟩, zs, hend, hi, hl, hk⟩
      have h5 := run_endLoop (P := P) hl (by rw [hR]; simp)
      exact ⟨none, _, by rw [h5, hR], hdone _ zs _ (Nat.le_refl _) hend (hI.putObj _ hi (by omega) hl rfl) ((World.putObj_heap_other (by omega)).trans hk)⟩
end
end

/-! SplitI -/
section
section
open Go.RowKit

/-- **An iterator's contract**, one that keeps its state in a box of its own: these things come, one by one, or a round has said 'no more'. -/
def SeqOwnB {α : Type} (vs : α → Array Value) (X : Nat → TypeId → Prop) (P : Program) (g : Nat) (lb : Array Value) (zs : List α) (b0 : Nat) (tb : TypeId) (w : World) : Prop :=
  ∀ (n l : Nat) (J Jx : List α → World → Prop) (W : World), KeepsK X w W → OwnFrom W.heap.size J → OwnFrom W.heap.size Jx → (∀ pre A u v, A.heap[b0]? = some (.cells #[u] tb (0, 0)) → J pre A → J pre (A.setCell ⟨b0, 0, none⟩ v)) →
    (∀ m pre x W1, J pre W1 → pre ++ [x] <+: zs → YieldAt Fence.wide m P l (vs x) W1 fun e W' =>
      (e = .returned (.bool true) ∧ J (pre ++ [x]) W' ∧ KeepsK X W1 W') ∨ (e = .returned (.bool false) ∧ Jx (pre ++ [x]) W' ∧ KeepsFrom W.heap.size W1 W')) →
    J [] W →
    CallsIn Fence.wide n P g (#[.func (.yield l) #[] #[]] ++ lb) W fun e W' => (∃ v, e = .returned v) ∧ (J zs W' ∨ ∃ pre, pre <+: zs ∧ Jx pre W')

theorem range_ownB {α : Type} (vs : α → Array Value) {P : Program} {g : Operand} {ps : Array Tmp} {assign body : Code} {Q : Exit → Act → World → Prop} {a : Act} {w : World} {n : Nat} {X : Nat → TypeId → Prop}
    {gf : Nat} {lb : Array Value} (hg : a.eval g = .func (.func gf) #[] lb) (eg : ∀ args w, (callFunc gf args).run P w = .ok (.enter gf args) w)
    {zs : List α} {b0 : Nat} {tb : TypeId} (hb0 : b0 < w.heap.size) (hseq : SeqOwnB vs X P gf lb zs b0 tb w) (I Ix : List α → World → Prop) (hI : OwnFrom w.heap.size I) (hIx : OwnFrom w.heap.size Ix) (hIb : ∀ pre A u v, A.heap[b0]? = some (.cells #[u] tb (0, 0)) → I pre A → I pre (A.setCell ⟨b0, 0, none⟩ v)) (h0 : I [] w) (hsz : ∀ x, (vs x).size = ps.size) (a₁ : α → Act)
    (hassign : ∀ (l m : Nat) (x : α) (W : World) (K : Act → World → Prop), K (a₁ x) W →
      assign.wpIn (Fence.wide.inRound l) m P (Exit.then K (fun _ _ _ => False)) { tmps := (ps.zip (vs x)).foldl (fun t (q, v) => t.setIfInBounds q v) a.tmps, defers := [] } W)
    (hbody : ∀ (l m : Nat) (pre : List α) (x : α) (W : World), w.heap.size ≤ l → (∃ r, W.heap[l]? = some (.loop r)) → I pre W → pre ++ [x] <+: zs → body.wpIn (Fence.wide.inRound l) m P (rangeEndK X w.heap.size I Ix (pre ++ [x]) W) (a₁ x) W)
    (hdone : ∀ (D : Nat) (W : World), w.heap.size ≤ D → I zs W → W.heap[D]? = some (.deferred (some [])) → Q .normal { a with defers := mark D :: a.defers } W)
    (hstop : ∀ (D : Nat) (pre : List α) (W : World), w.heap.size ≤ D → pre <+: zs → Ix pre W → W.heap[D]? = some (.deferred (some [])) → Code.ret.wpIn Fence.wide n P Q { a with defers := mark D :: a.defers } W) :
    (Code.rangeFunc g ps assign body).wpIn Fence.wide n P Q a w := by
  refine wpIn_rangeFunc ?_
  intro fn hfn
  obtain ⟨R, hR⟩ : ∃ R : LoopState → Option Code → Loop, R = fun st pe => { state := st, pending := pe, fn, tmps := a.tmps, params := ps, assign, body, defers := w.heap.size } := ⟨_, rfl⟩
  obtain ⟨V, hV⟩ : ∃ V, (w.alloc (.deferred (some []))).alloc (.loop (R .ready none)) = V := ⟨_, rfl⟩
  have vsz : V.heap.size = w.heap.size + 2 := by rw [← hV]; simp
  have vg : w.grownBy V none := by rw [← hV]; exact (World.grownBy_alloc _ _ _).trans (World.grownBy_alloc _ _ _)
  have vl : V.heap[w.heap.size + 1]? = some (.loop (R .ready none)) := by
    have h1 := World.alloc_heap_new (w.alloc (.deferred (some []))) (.loop (R .ready none))
    rw [World.size_alloc] at h1
    rw [← hV]; exact h1
  have vd : V.heap[w.heap.size]? = some (.deferred (some [])) := by
    rw [← hV]; exact (Below.heap_alloc _ _ _ (by simp)).trans (World.alloc_heap_new w _)
  refine ⟨w.heap.size + 1, [mark w.heap.size], V, { target := .fn (.func gf) lb, args := #[.func (.yield (w.heap.size + 1)) #[] #[]] }, V, gf, #[.func (.yield (w.heap.size + 1)) #[] #[]] ++ lb, V, ?_, ?_, ?_, ?_, ?_, ?_⟩
  · rw [← hV, hR]; exact run_enterLoop_outer _ _ _ _ _
  · simp only [resolve, hg]
    simp [go_sem]
  · intro _ _; trivial
  · simp [invoke, go_sem, eg]
  · intro h; cases h
  · -- what stands beside the invariant: the loop's record and the block of its mark
    have side : ∀ (st : LoopState) (pe : Option Code) (A B : World) (row : Option Nat), A.grownBy B row → (∀ r, row = some r → V.heap.size ≤ r ∧ ∃ o : Obj, A.heap[r]? = some o ∧ o.isCells = false) →
        A.heap[w.heap.size + 1]? = some (.loop (R st pe)) ∧ A.heap[w.heap.size]? = some (.deferred (some [])) → B.heap[w.heap.size + 1]? = some (.loop (R st pe)) ∧ B.heap[w.heap.size]? = some (.deferred (some [])) := fun st pe A B row hg' hr hs =>
      ⟨(hg'.block _ (Array.getElem?_eq_some_iff.1 hs.1).1 (fun e => by have := (hr _ e.symm).1; omega)).trans hs.1,
       (hg'.block _ (Array.getElem?_eq_some_iff.1 hs.2).1 (fun e => by have := (hr _ e.symm).1; omega)).trans hs.2⟩
    have hI2 : OwnFrom V.heap.size (fun pre W => I pre W ∧ W.heap[w.heap.size + 1]? = some (.loop (R .ready none)) ∧ W.heap[w.heap.size]? = some (.deferred (some []))) := fun s A B row hs hg' hr =>
      ⟨hI s A B row hs.1 hg' (fun r e => ⟨by have := (hr r e).1; omega, (hr r e).2⟩), side _ _ A B row hg' hr hs.2⟩
    have hIx2 : OwnFrom V.heap.size (fun pre W => Ix pre W ∧ W.heap[w.heap.size + 1]? = some (.loop (R .done (some .ret))) ∧ W.heap[w.heap.size]? = some (.deferred (some []))) := fun s A B row hs hg' hr =>
      ⟨hIx s A B row hs.1 hg' (fun r e => ⟨by have := (hr r e).1; omega, (hr r e).2⟩), side _ _ A B row hg' hr hs.2⟩
    refine (hseq _ (w.heap.size + 1) _ _ V (KeepsK.grown vg) hI2 hIx2 (fun pre A u v hA h => ⟨hIb pre A u v hA h.1, (Below.heap_setCell _ _ _ _ (by simp; omega)).trans h.2.1, (Below.heap_setCell _ _ _ _ (by simp; omega)).trans h.2.2⟩) ?_ ⟨hI [] w V none h0 vg (fun r e => by cases e), vl, vd⟩).mono ?_
    · rintro m pre x W ⟨hi, hl, hk⟩ hlen
      have hlt : w.heap.size + 1 < W.heap.size := (Array.getElem?_eq_some_iff.1 hl).1
      have hy := run_yield (P := P) (args := (vs x)) hl (by rw [hR]; exact hsz x)
      rw [hR] at hy
      refine ⟨fn, _, assign, body, hy, roundIn_of_wpIn hfn ?_⟩
      refine hassign _ _ x W _ ⟨_, run_beginRound hl (by rw [hR]), ?_⟩
      obtain ⟨Wb, hWb⟩ : ∃ Wb, W.putObj (w.heap.size + 1) (.loop { R .ready none with state := .busy }) = Wb := ⟨_, rfl⟩
      have hlb : Wb.heap[w.heap.size + 1]? = some (.loop { R .ready none with state := .busy }) := by rw [← hWb]; exact World.putObj_heap_same hlt
      have hkb : Wb.heap[w.heap.size]? = some (.deferred (some [])) := by rw [← hWb]; exact (World.putObj_heap_other (by omega)).trans hk
      have hib : I pre Wb := by rw [← hWb]; exact hI.putObj _ hi (by omega) hl rfl
      rw [hWb]
      refine wpIn_mono (hbody _ _ pre x Wb (by omega) ⟨_, hlb⟩ hib hlen) ?_
      have last : ∀ (jump : Option Code) (W3 : World), KeepsFrom w.heap.size Wb W3 →
          (Instr.endRound (w.heap.size + 1) jump).run P W3 = .ok (.bool jump.isNone) (W3.putObj (w.heap.size + 1) (.loop (R (if jump.isNone then .ready else .done) jump))) ∧
          W3.heap[w.heap.size + 1]? = some (.loop { R .ready none with state := .busy }) ∧ W3.heap[w.heap.size]? = some (.deferred (some [])) := fun jump W3 hk3 => by
        have h3 := hk3.same _ _ (by omega) hlb rfl
        have h4 := run_endRound (P := P) jump h3
        refine ⟨?_, h3, hk3.same _ _ (Nat.le_refl _) hkb rfl⟩
        rw [h4, hR]
      rintro e a3 W3 hp
      cases e with
      | normal =>
        obtain ⟨hk3, hi3⟩ := hp
        obtain ⟨hr, hl3, hd3⟩ := last none W3 (hk3.from _)
        have hlt3 := (Array.getElem?_eq_some_iff.1 hl3).1
        refine ⟨_, _, hr, .inl ⟨rfl, ⟨hI.putObj _ hi3 (by omega) hl3 rfl, World.putObj_heap_same hlt3, (World.putObj_heap_other (by omega)).trans hd3⟩, ?_⟩⟩
        rw [← hWb] at hk3
        exact KeepsK.round hl hk3
      | ret =>
        obtain ⟨hk3, hi3⟩ := hp
        obtain ⟨hr, hl3, hd3⟩ := last (some .ret) W3 hk3
        have hlt3 := (Array.getElem?_eq_some_iff.1 hl3).1
        refine ⟨_, _, hr, .inr ⟨rfl, ⟨hIx.putObj _ hi3 (by omega) hl3 rfl, World.putObj_heap_same hlt3, (World.putObj_heap_other (by omega)).trans hd3⟩, ?_⟩⟩
        refine ⟨?_, fun k o hk ho hc => ?_⟩
        · have := hk3.size
          rw [← hWb] at this
          simpa using this
        · rw [World.putObj_heap_other (by omega)]
          refine hk3.same k o (by omega) ?_ hc
          rw [← hWb, World.putObj_heap_other (by omega)]
          exact ho
      | exit id => exact hp.elim
      | goto t => exact hp.elim
      | panic ch => exact hp.elim
      | outgrown => exact hp.elim
    · rintro e W2 ⟨⟨v, rfl⟩, (⟨hi, hl, hk⟩ | ⟨pre, hpre, hi, hl, hk⟩)⟩
      · have h5 := run_endLoop (P := P) hl (by rw [hR]; simp)
        refine ⟨none, _, by rw [h5, hR], hdone _ _ (Nat.le_refl _) (hI.putObj _ hi (by omega) hl rfl) ((World.putObj_heap_other (by omega)).trans hk)⟩
      · have h5 := run_endLoop (P := P) hl (by rw [hR]; simp)
        refine ⟨some .ret, _, by rw [h5, hR], hstop _ pre _ (Nat.le_refl _) hpre (hIx.putObj _ hi (by omega) hl rfl) ((World.putObj_heap_other (by omega)).trans hk)⟩
end

section
open Go.RowKit Go.Shelf

def spc : ByteArray := ⟨#[32]⟩

set_option maxRecDepth 100000 in
set_option maxHeartbeats 1000000 in
theorem sidx_any (s : ByteArray) (w : World) :
    Calls Tryz.prog 121 #[.string s, .string { data := #[32] }] w fun e w' => e = .returned (.int .i64 (Lib.indexByte s.data.toList 32)) ∧ w' = w := by
  have HI := Lib.hid (fun w => slidx_any s 32 w)
  cases hs : (([32] : List UInt8) == s.toList)
  · go_enter Tryz.func121, Tryz.ntmps121
    go_wp2_with fail
    refine (HI.out w).mono ?_
    rintro e w' ⟨rfl, rfl⟩
    go_wp2_with fail
    go_ret
    exact ⟨rfl, rfl⟩
  · have hz : Lib.indexByte s.data.toList 32 = 0 := by
      have h1 : s.toList = [32] := (eq_of_beq hs).symm
      rw [Lib.toList_data] at h1
      rw [h1]; rfl
    rw [hz]
    clear HI
    go_enter Tryz.func121, Tryz.ntmps121
    go_wp2_with fail
    go_ret
    exact ⟨rfl, rfl⟩

theorem stri_any (s : ByteArray) (w : World) :
    Calls Tryz.prog 113 #[.string s, .string { data := #[32] }] w fun e w' => e = .returned (.int .i64 (Lib.indexByte s.data.toList 32)) ∧ w' = w := by
  go_enter Tryz.func113, Tryz.ntmps113
  go_wp2_with fail
  refine (sidx_any s w).mono ?_
  rintro e w' ⟨rfl, rfl⟩
  go_wp2_with fail
  go_ret
  exact ⟨rfl, rfl⟩

/-- The iterator's three boxes: the separator, the text, how much of the separator is kept. -/
structure Spl (w : World) (b : Nat) (s : ByteArray) : Prop where
  t : w.heap[b]? = some (.cells #[.string s] 9 (0, 0))
  e : w.heap[b + 1]? = some (.cells #[.string ⟨#[32]⟩] 9 (0, 0))
  k : w.heap[b + 2]? = some (.cells #[.int .i64 0] 3 (0, 0))

set_option maxRecDepth 100000 in
set_option maxHeartbeats 1000000 in
theorem split_call (s : ByteArray) (w : World) :
    Calls Tryz.prog 61 #[.string s, .string { data := #[32] }] w fun e w' => e = .returned (.func (.func 111) #[] #[.pointer (some ⟨w.heap.size + 1, 0, none⟩), .pointer (some ⟨w.heap.size, 0, none⟩), .pointer (some ⟨w.heap.size + 2, 0, none⟩)]) ∧ w.grownBy w' none ∧ Spl w' w.heap.size s := by
  have hmf : ∀ (fn : Fn) (first cap : Array Value) (w : World), (Instr.makeFunc fn first cap).run Tryz.prog w = .ok (.func fn first cap) w := fun _ _ _ _ => rfl
  have H : Calls Tryz.prog 92 #[.string s, .string { data := #[32] }, .int .i64 0] w fun e w' => e = .returned (.func (.func 111) #[] #[.pointer (some ⟨w.heap.size + 1, 0, none⟩), .pointer (some ⟨w.heap.size, 0, none⟩), .pointer (some ⟨w.heap.size + 2, 0, none⟩)]) ∧ w.grownBy w' none ∧ Spl w' w.heap.size s := by
    go_enter Tryz.func92, Tryz.ntmps92
    go_wp2_with fail
    go_ret
    refine ⟨rfl, (World.grownBy_alloc _ _ _).trans ((World.grownBy_alloc _ _ _).trans (World.grownBy_alloc _ _ _)), ?_, ?_, ?_⟩
    · rw [Below.heap_alloc _ _ _ (by simp; omega), Below.heap_alloc _ _ _ (by simp)]
      exact heap_alloc_new _ _
    · rw [Below.heap_alloc _ _ _ (by simp)]
      have h := heap_alloc_new (w.alloc (.cells #[.string s] 9)) (.cells #[.string ⟨#[32]⟩] 9)
      rw [World.size_alloc] at h
      exact h
    · have h := heap_alloc_new ((w.alloc (.cells #[.string s] 9)).alloc (.cells #[.string ⟨#[32]⟩] 9)) (.cells #[.int .i64 0] 3)
      rw [World.size_alloc, World.size_alloc] at h
      exact h
  go_enter Tryz.func61, Tryz.ntmps61
  go_wp2_with fail
  refine H.mono ?_
  rintro e w' ⟨rfl, hg, hs⟩
  go_wp2_with fail
  go_ret
  exact ⟨rfl, hg, hs⟩
end

section
open Go.RowKit Go.Shelf
attribute [local go_sem] Oper.semAt_some

def strK (x : ByteArray) : Array Value := #[.string x]

/-- How much of the text is left. -/
def leftS (w : World) (b : Nat) : Nat := match w.cell? ⟨b, 0, none⟩ with
  | some (.string x) => x.size
  | _ => 0
theorem leftS_of {w : World} {b : Nat} {x : ByteArray} (h : w.cell? ⟨b, 0, none⟩ = some (.string x)) : leftS w b = x.size := by unfold leftS; rw [h]

theorem Spl.keep {w w' : World} {b : Nat} {s : ByteArray} {X : Nat → TypeId → Prop} (h : Spl w b s) (hk : KeepsK X w w') (h0 : ¬ X b 9) (h1 : ¬ X (b + 1) 9) (h2 : ¬ X (b + 2) 3) : Spl w' b s :=
  ⟨hk.row h.t h0, hk.row h.e h1, hk.row h.k h2⟩
theorem Spl.c0 {w : World} {b : Nat} {s : ByteArray} (h : Spl w b s) : w.cell? ⟨b, 0, none⟩ = some (.string s) := cell_of_row w b 0 _ _ (0, 0) h.t
theorem Spl.c1 {w : World} {b : Nat} {s : ByteArray} (h : Spl w b s) : w.cell? ⟨b + 1, 0, none⟩ = some (.string ⟨#[32]⟩) := cell_of_row w (b + 1) 0 _ _ (0, 0) h.e
theorem Spl.c2 {w : World} {b : Nat} {s : ByteArray} (h : Spl w b s) : w.cell? ⟨b + 2, 0, none⟩ = some (.int .i64 0) := cell_of_row w (b + 2) 0 _ _ (0, 0) h.k
theorem Spl.f0 {w : World} {b : Nat} {s : ByteArray} (h : Spl w b s) : w.frozen? ⟨b, 0, none⟩ = false := by have := h.t; simp [World.frozen?, this]
theorem Spl.set {w : World} {b : Nat} {s : ByteArray} (h : Spl w b s) (x : ByteArray) : Spl (w.setCell ⟨b, 0, none⟩ (.string x)) b x := by
  have h0 := h.t
  refine ⟨by simp [World.setCell, Array.getElem?_modify, h0], (Below.heap_setCell _ _ _ _ (by simp)).trans h.e, (Below.heap_setCell _ _ _ _ (by simp)).trans h.k⟩

set_option maxRecDepth 100000 in
set_option maxHeartbeats 2000000 in
theorem split_iter (X : Nat → TypeId → Prop) (b : Nat) (s : ByteArray) (w : World) (hs : Spl w b s) (hsz : s.size ≤ 1000000) (hX0 : ¬ X b 9) (hX1 : ¬ X (b + 1) 9) (hX2 : ¬ X (b + 2) 3) :
    SeqOwnB strK X Tryz.prog 111 #[.pointer (some ⟨b + 1, 0, none⟩), .pointer (some ⟨b, 0, none⟩), .pointer (some ⟨b + 2, 0, none⟩)] (cutB s) b 9 w := by
  intro n l J Jx W hW hJ hJx hJb hY h0
  have h1 := hs.keep hW hX0 hX1 hX2
  have HS := Lib.hid h1
  have e1 := h1.c1
  have HY := Lib.hid hY
  have HJB := Lib.hid hJb
  have HXX := Lib.hid (And.intro hX0 (And.intro hX1 hX2))
  obtain ⟨zs, hzs⟩ : ∃ zs, cutB s = zs := ⟨_, rfl⟩
  have HZ := Lib.hid hzs
  rw [hzs] at HY ⊢
  clear hs h1 hY hW hJb hzs hX0 hX1 hX2
  show CallsIn Fence.wide n Tryz.prog 111 #[.func (.yield l) #[] #[], .pointer (some ⟨b + 1, 0, none⟩), .pointer (some ⟨b, 0, none⟩), .pointer (some ⟨b + 2, 0, none⟩)] W _
  refine callsIn_of_wp Tryz.func111 rfl trivial ?_ rfl
  simp only [Tryz.ntmps111, List.size_toArray, List.length_cons, List.length_nil, Nat.reduceAdd, Nat.reduceSub, Array.replicate_succ, Array.replicate_zero, List.push_toArray, List.append_toArray, List.nil_append, List.cons_append]
  gi_wp2
  gi_loopw [7, 8] (fun u v wr => ∃ (p : Nat) (pre : List ByteArray), p ≤ s.size ∧ Hid (pre ++ cutF s (s.size + 1 - p) p p = zs) ∧ Hid (J pre wr) ∧ Hid (Spl wr b (rest s p))) (fun _ _ wr => leftS wr b)
  case atStart => exact ⟨0, [], Nat.zero_le _, Lib.hid (by rw [← HZ.out]; rfl), Lib.hid h0, Lib.hid (by rw [rest_zero]; exact HS.out)⟩
  case round =>
    obtain ⟨p, pre, hp, hpre, hjj, hspl⟩ := hrel
    have c0 := hspl.out.c0
    have c1 := hspl.out.c1
    have c2 := hspl.out.c2
    have f0 := hspl.out.f0
    have hge := Lib.indexByte_ge (rest s p).data.toList 32
    have HI := Lib.hid (stri_any (rest s p) wr)
    rcases Int.lt_or_le (Lib.indexByte (rest s p).data.toList 32) 0 with hneg | hpos
    · have hk : Lib.indexByte (rest s p).data.toList 32 = -1 := by omega
      have HL := Lib.hid (cutF_last hp hk)
      rw [hk] at HI
      clear hge hneg hk
      have hyz : pre ++ [rest s p] = zs := by rw [← hpre.out, HL.out]
      have HYZ := Lib.hid hyz
      obtain ⟨fn, tmps, assign, body, hy, hR⟩ := HY.out (n - 1) pre (rest s p) wr hjj.out (by rw [hyz]; exact List.prefix_refl _)
      simp only [strK] at hy
      clear hyz
      gi_wp2_with (first
        | (refine ⟨trivial, fun h => (by cases h), ?_⟩; refine (callsIn_wide.2 HI.out).mono ?_; clear HI; rintro e w' ⟨rfl, rfl⟩)
        | (refine ⟨fun h => (by cases h), ?_⟩; refine hR.mono ?_; clear hR; rintro e W' (⟨rfl, hJ', hk⟩ | ⟨rfl, hJx', hk⟩)))
      · go_end0
        refine ⟨⟨_, rfl⟩, .inl ?_⟩
        rw [← HYZ.out]; exact hJ'
      · go_end0
        refine ⟨⟨_, rfl⟩, .inr ⟨zs, List.prefix_refl _, ?_⟩⟩
        rw [← HYZ.out]; exact hJx'
    · obtain ⟨i, hi⟩ : ∃ i : Nat, Lib.indexByte (rest s p).data.toList 32 = (i : Int) := ⟨_, (Int.toNat_of_nonneg hpos).symm⟩
      obtain ⟨q1, q2, q3, q4⟩ := cutF_next hp hi
      rw [hi] at HI
      have hyz : pre ++ [s.extract p (p + i)] ++ cutF s (s.size + 1 - (p + i + 1)) (p + i + 1) (p + i + 1) = zs := by rw [← hpre.out, q4]; simp
      have HYZ := Lib.hid hyz
      obtain ⟨fn, tmps, assign, body, hy, hR⟩ := HY.out (n - 1) pre (s.extract p (p + i)) wr hjj.out (by rw [← hyz]; exact List.prefix_append _ _)
      simp only [strK] at hy
      have hrz := rest_size s p
      rw [rest_size] at q3
      clear hyz hge hpos hi q4
      gi_wp2_with (first
        | (refine ⟨trivial, fun h => (by cases h), ?_⟩; refine (callsIn_wide.2 HI.out).mono ?_; clear HI; rintro e w' ⟨rfl, rfl⟩)
        | (refine ⟨fun h => (by cases h), ?_⟩; refine hR.mono ?_; clear hR; rintro e W' h; rcases h with ⟨rfl, hJ', hk⟩ | ⟨rfl, hJx', hk⟩
           all_goals (try (have hs' := hspl.out.keep hk HXX.out.1 HXX.out.2.1 HXX.out.2.2; have d0 := hs'.c0; have d1 := hs'.c1; have df := hs'.f0; have HS' := Lib.hid hs'; clear hs'))))
      · have hs2 := HS'.out.set (rest s (p + i + 1))
        have hj2 := HJB.out _ _ _ (.string (rest s (p + i + 1))) HS'.out.t hJ'
        have HJ2 := Lib.hid hj2
        have HS2 := Lib.hid hs2
        have hm1 := leftS_of hspl.out.c0
        have hm2 := leftS_of hs2.c0
        clear hj2 hs2
        go_roundw
        case rel => exact ⟨p + i + 1, pre ++ [s.extract p (p + i)], q1, HYZ, HJ2, HS2⟩
        case measure => rw [hm1, hm2, rest_size, rest_size]; omega
      · refine bodyPost_ret (results_none rfl _ _ _) rfl ⟨⟨_, rfl⟩, .inr ⟨pre ++ [s.extract p (p + i)], ?_, hJx'⟩⟩
        rw [← HYZ.out]; exact List.prefix_append _ _
end
end

/-! TApp -/
section
open Go.RowKit

/-- Which function a call of appendTo comes to. -/
def appF : Tm → FuncId
  | .dig _ => 151
  | .var _ => 145
  | .pre _ _ => 154
  | .two _ _ _ => 157
  | .loop _ _ _ _ => 148
theorem method_app {w : World} {S : Nat → Prop} {t : Tm} {ty : TypeId} {pv : Value} (h : PT w S t (.iface ty pv)) (u : World) : (method 295 ty pv "loop.example/flatarrays/impl.appendTo").run Tryz.prog u = .ok (appF t, pv) u := by
  cases t with
  | dig c => cases h; kernel_rfl
  | var c => cases h; kernel_rfl
  | pre c s => obtain ⟨b, x, hv, _⟩ := h; cases hv; kernel_rfl
  | two c s t => obtain ⟨b, x, y, hv, _⟩ := h; cases hv; kernel_rfl
  | loop c i s t => obtain ⟨b, x, y, hv, _⟩ := h; cases hv; kernel_rfl
theorem run_app (t : Tm) (pv tv : Value) (u : World) : (callFunc (appF t) #[pv, tv]).run Tryz.prog u = .ok (.enter (appF t) #[pv, tv]) u := by cases t <;> kernel_rfl

theorem infoU8 : (Tryz.prog.info? 5).map (fun i => (i.zero, i.size, i.bytes)) = some (some (.int .u8 0), 1, 1) := by kernel_rfl
theorem bc_app (l m : List UInt8) : Lib.byteCells (l ++ m) = Lib.byteCells l ++ Lib.byteCells m := by simp [Lib.byteCells]
theorem bc_byt {c : Int} (h0 : 0 ≤ c) (h1 : c ≤ 255) : Lib.byteCells [byt c] = [.int .u8 c] := by simp [Lib.byteCells, byt_back h0 h1]

/-- A text that the call owns, in a row from block B on. -/
def Txt (w : World) (B : Nat) (v : Value) (l : List UInt8) : Prop := w.ownsRow B 5 1 v l.length (Lib.byteCells l) ∧ B ≤ w.heap.size
theorem Txt.form {w : World} {B : Nat} {v : Value} {l : List UInt8} (h : Txt w B v l) : ∃ A c, v = .slice A l.length c := by
  rcases h.1.2 with ⟨hv, hn⟩ | ⟨g, cap, cur, hv, _⟩
  · exact ⟨none, 0, by rw [hv, hn]⟩
  · exact ⟨_, _, hv⟩
theorem Txt.keep {w w' : World} {B : Nat} {v : Value} {l : List UInt8} (h : Txt w B v l) (hg : w.grownBy w' none) : Txt w' B v l :=
  ⟨own_keep h.1 (fun k hk => hg.block k (h.1.lt k hk).2 (by simp)), Nat.le_trans h.2 hg.size⟩
/-- Behind an append: the text is longer, and what lies below B lies as it lay. -/
theorem Txt.more {w w1 w2 : World} {B n : Nat} {v v' : Value} {l m : List UInt8} {xs : List Value} (h : Txt w B v l) (hg : w.grownBy w1 none) (ho : w2.ownsRow B 5 1 v' n (Lib.byteCells l ++ xs)) (hg2 : w1.grownBy w2 v.ownBlock) (hn : n = (l ++ m).length) (hx : xs = Lib.byteCells m) :
    Txt w2 B v' (l ++ m) ∧ Below B w w2 := by
  subst hn; subst hx
  rw [← bc_app] at ho
  have h1 := h.keep hg
  refine ⟨⟨ho, Nat.le_trans h1.2 hg2.size⟩, ?_⟩
  exact ⟨hg2.os.trans hg.os, hg2.tape.trans hg.tape, hg2.output.trans hg.output, Nat.le_trans hg.size hg2.size, fun k hk => (hg2.block k (Nat.lt_of_lt_of_le hk h1.2) (fun e => by have := (h1.1.lt k e.symm).1; omega)).trans (hg.block k (Nat.lt_of_lt_of_le hk h.2) (by simp))⟩
theorem PT.below {w w' : World} {B : Nat} {t : Tm} {v : Value} (h : PT w (fun b => b < B) t v) (hb : Below B w w') : PT w' (fun b => b < B) t v :=
  h.keep (fun k hk _ => hb.block k hk) (fun _ h _ => h) t v
theorem bel_cell {B : Nat} {w w' : World} {b o : Nat} {v : Value} (hb : Below B w w') (hbB : b < B) (hc : w.cell? ⟨b, o, none⟩ = some v) : w'.cell? ⟨b, o, none⟩ = some v := by
  rw [← hc]
  simp only [World.cell?]
  rw [hb.block b hbB]

/-- How appendTo ends. -/
def AppP (B : Nat) (l m : List UInt8) (w : World) (e : Ending) (w' : World) : Prop := ∃ v', e = .returned v' ∧ Txt w' B v' (l ++ m) ∧ Below B w w'

set_option maxRecDepth 100000 in
set_option maxHeartbeats 1000000 in
theorem app_dig (B : Nat) (l : List UInt8) (c : Int) (tv : Value) (w : World) (h0 : 0 ≤ c) (h1 : c ≤ 255) (h : Txt w B tv l) (hl : l.length ≤ 60000000) :
    Calls Tryz.prog 151 #[.int .u8 c, tv] w (AppP B l [byt c] w) := by
  obtain ⟨i0, hi0, hz0, hz1, hz2⟩ := info_parts infoU8
  obtain ⟨A0, c0, rfl⟩ := h.form
  have HT := Lib.hid h
  have hB := h.2
  have own1 := (h.keep (World.grownBy_alloc w (.cells #[.int .u8 c] 5) none)).1
  have HBC := Lib.hid (bc_byt h0 h1)
  clear h
  go_enter Tryz.func151, Tryz.ntmps151
  go_wp2_with (at_builtin; refine wpList_append_own_at _ rfl _ _ 22 rfl B 5 i0 (.int .u8 0) 1 1 Tryz.underlying22 hi0 hz0 hz1 hz2 rfl (by decide) _ _ _ rfl own1 ⟨w.heap.size, 0, none⟩ 1 1 [.int .u8 c] rfl rfl ?a1 ?a2 ?a3 ?a4 ?a5 ?_)
  case a1 => exact cell_one_new _ _ _
  case a2 => simp [Value.oneCell']
  case a3 => simp only [maxLen]; omega
  case a4 => omega
  case a5 => simp; omega
  intro v8 w8 hown8 hg8 _ _
  have HR := Lib.hid (HT.out.more (m := [byt c]) (World.grownBy_alloc w _ none) hown8 hg8 (by simp) HBC.out.symm)
  clear hown8 hg8 own1
  go_wp2_with fail
  go_ret
  exact ⟨v8, rfl, HR.out.1, HR.out.2⟩
set_option maxRecDepth 100000 in
set_option maxHeartbeats 1000000 in
theorem app_var (B : Nat) (l : List UInt8) (c : Int) (tv : Value) (w : World) (h0 : 0 ≤ c) (h1 : c ≤ 255) (h : Txt w B tv l) (hl : l.length ≤ 60000000) :
    Calls Tryz.prog 145 #[.int .u8 c, tv] w (AppP B l [byt c] w) := by
  obtain ⟨i0, hi0, hz0, hz1, hz2⟩ := info_parts infoU8
  obtain ⟨A0, c0, rfl⟩ := h.form
  have HT := Lib.hid h
  have hB := h.2
  have own1 := (h.keep (World.grownBy_alloc w (.cells #[.int .u8 c] 5) none)).1
  have HBC := Lib.hid (bc_byt h0 h1)
  clear h
  go_enter Tryz.func145, Tryz.ntmps145
  go_wp2_with (at_builtin; refine wpList_append_own_at _ rfl _ _ 22 rfl B 5 i0 (.int .u8 0) 1 1 Tryz.underlying22 hi0 hz0 hz1 hz2 rfl (by decide) _ _ _ rfl own1 ⟨w.heap.size, 0, none⟩ 1 1 [.int .u8 c] rfl rfl ?a1 ?a2 ?a3 ?a4 ?a5 ?_)
  case a1 => exact cell_one_new _ _ _
  case a2 => simp [Value.oneCell']
  case a3 => simp only [maxLen]; omega
  case a4 => omega
  case a5 => simp; omega
  intro v8 w8 hown8 hg8 _ _
  have HR := Lib.hid (HT.out.more (m := [byt c]) (World.grownBy_alloc w _ none) hown8 hg8 (by simp) HBC.out.symm)
  clear hown8 hg8 own1
  go_wp2_with fail
  go_ret
  exact ⟨v8, rfl, HR.out.1, HR.out.2⟩

set_option maxRecDepth 100000 in
set_option maxHeartbeats 4000000 in
theorem app_pre (B b : Nat) (l : List UInt8) (c : Int) (s : Tm) (tv x : Value) (w : World) (h0 : 0 ≤ c) (h1 : c ≤ 255) (h : Txt w B tv l) (hl : l.length + (s.txt.length + 1) ≤ 50000000)
    (hb : b < B) (hh : w.heap[b]? = some (.cells #[.int .u8 c, x] 119 (0, 0))) (hx : PT w (fun b => b < B) s x)
    (ih : ∀ (l : List UInt8) (ty : TypeId) (pv tv : Value) (w : World), PT w (fun b => b < B) s (.iface ty pv) → Txt w B tv l → l.length + s.txt.length ≤ 50000000 → Calls Tryz.prog (appF s) #[pv, tv] w (AppP B l s.txt w)) :
    Calls Tryz.prog 154 #[.pointer (some ⟨b, 0, none⟩), tv] w (AppP B l (byt c :: s.txt) w) := by
  obtain ⟨i0, hi0, hz0, hz1, hz2⟩ := info_parts infoU8
  obtain ⟨A0, k0, rfl⟩ := h.form
  obtain ⟨tx, px, rfl⟩ := hx.iface
  have HT := Lib.hid h
  have hB := h.2
  have HBC := Lib.hid (bc_byt h0 h1)
  have c0 : w.cell? ⟨b, 0, none⟩ = some (.int .u8 c) := cell_of_row w b 0 _ _ (0, 0) hh
  have c1 : w.cell? ⟨b, 1, none⟩ = some (.iface tx px) := cell_of_row w b 1 _ _ (0, 0) hh
  have hbl : b < w.heap.size := by omega
  have hm := method_app hx
  have hrun := fun tv => run_app s px tv
  have HX := Lib.hid hx
  have HI := Lib.hid ih
  clear h hh hx ih
  go_enter Tryz.func154, Tryz.ntmps154
  go_wp2_with fail
  go_region_law (first
    | (refine step_append_lies _ (by rfl) _ _ _ (by rfl) B 5 i0 _ 1 1 Tryz.underlying22 hi0 hz0 hz1 hz2 rfl (by omega) _ l.length (Lib.byteCells l) (by rfl) (HT.out.keep ((gr_drewN w 1 none).trans (World.grownBy_alloc w.drew (.cells #[.int .u8 c] 5) none))).1 ⟨w.heap.size, 0, none⟩ 1 1 [.int .u8 c] (by rfl) (by rfl) (World.news_of_block (cs := #[.int .u8 c]) (t := 5) (fr := (0, 0)) (heap_alloc_new w.drew _)) (by simp [Value.oneCell']) (by omega) (by simp [maxLen]; omega) (by omega) (by simp; omega) (w.heap.size + 1) (by simp) ?_
       intro gg cap w8 hown8 hg8 hat8 hlt8
       have HR8 := Lib.hid (HT.out.more (m := [byt c]) ((gr_drewN w 1 none).trans (World.grownBy_alloc w.drew (.cells #[.int .u8 c] 5) none)) hown8 hg8 (by simp) HBC.out.symm)
       have c18 := bel_cell HR8.out.2 hb c1
       clear hown8 hg8 hat8 hlt8)
    | (go_simp
       refine (HI.out _ tx px _ _ (HX.out.below HR8.out.2) HR8.out.1 (by simp; omega)).mono ?_
       rintro e w9 ⟨v9, rfl, ht9, hb9⟩
       have HT9 := Lib.hid ht9
       have HB9 := Lib.hid (HR8.out.2.trans hb9)
       clear ht9 hb9))
  all_goals
    go_wp2_with fail
    go_ret
    exact ⟨v9, rfl, by have := HT9.out; simpa using this, HB9.out⟩

set_option maxRecDepth 100000 in
set_option maxHeartbeats 8000000 in
theorem app_two (B b : Nat) (l : List UInt8) (c : Int) (s t : Tm) (tv x y : Value) (w : World) (h0 : 0 ≤ c) (h1 : c ≤ 255) (h : Txt w B tv l) (hl : l.length + (s.txt.length + (t.txt.length + 3)) ≤ 50000000)
    (hb : b < B) (hh : w.heap[b]? = some (.cells #[.int .u8 c, x, y] 123 (0, 0))) (hx : PT w (fun b => b < B) s x) (hy : PT w (fun b => b < B) t y)
    (ih1 : ∀ (l : List UInt8) (ty : TypeId) (pv tv : Value) (w : World), PT w (fun b => b < B) s (.iface ty pv) → Txt w B tv l → l.length + s.txt.length ≤ 50000000 → Calls Tryz.prog (appF s) #[pv, tv] w (AppP B l s.txt w))
    (ih2 : ∀ (l : List UInt8) (ty : TypeId) (pv tv : Value) (w : World), PT w (fun b => b < B) t (.iface ty pv) → Txt w B tv l → l.length + t.txt.length ≤ 50000000 → Calls Tryz.prog (appF t) #[pv, tv] w (AppP B l t.txt w)) :
    Calls Tryz.prog 157 #[.pointer (some ⟨b, 0, none⟩), tv] w (AppP B l (40 :: (s.txt ++ (byt c :: (t.txt ++ [41])))) w) := by
  obtain ⟨i0, hi0, hz0, hz1, hz2⟩ := info_parts infoU8
  obtain ⟨A0, k0, rfl⟩ := h.form
  obtain ⟨tx, px, rfl⟩ := hx.iface
  obtain ⟨ty, py, rfl⟩ := hy.iface
  have HT := Lib.hid h
  have hB := h.2
  have HBC := Lib.hid (bc_byt h0 h1)
  have c0 : w.cell? ⟨b, 0, none⟩ = some (.int .u8 c) := cell_of_row w b 0 _ _ (0, 0) hh
  have c1 : w.cell? ⟨b, 1, none⟩ = some (.iface tx px) := cell_of_row w b 1 _ _ (0, 0) hh
  have C0 := Lib.hid c0
  have C2 := Lib.hid (show w.cell? ⟨b, 2, none⟩ = some (.iface ty py) from cell_of_row w b 2 _ _ (0, 0) hh)
  have hm := method_app hx
  have hm2 := method_app hy
  have hrun := fun tv => run_app s px tv
  have hrun2 := fun tv => run_app t py tv
  have HX := Lib.hid hx
  have HY := Lib.hid hy
  have HI1 := Lib.hid ih1
  have HI2 := Lib.hid ih2
  have hbl : b < w.heap.size := by omega
  have HLL := Lib.hid hl
  clear h hh hx hy ih1 ih2 c0
  go_enter Tryz.func157, Tryz.ntmps157
  go_upto_region 1 with fail
  go_cut [1] (fun s1 wx => Hid (Txt wx B s1 (l ++ (40 :: s.txt))) ∧ Hid (Below B w wx))
  case first =>
    go_region_law (first
      | (refine step_append_lies _ (by rfl) _ _ _ (by rfl) B 5 i0 _ 1 1 Tryz.underlying22 hi0 hz0 hz1 hz2 rfl (by omega) _ l.length (Lib.byteCells l) (by rfl) (HT.out.keep ((gr_drewN w 1 none).trans (World.grownBy_alloc w.drew (.cells #[.int .u8 40] 5) none))).1 ⟨w.heap.size, 0, none⟩ 1 1 [.int .u8 40] (by rfl) (by rfl) (World.news_of_block (cs := #[.int .u8 40]) (t := 5) (fr := (0, 0)) (heap_alloc_new w.drew _)) (by simp [Value.oneCell']) (by omega) (by simp [maxLen]; omega) (by omega) (by simp; omega) (w.heap.size + 1) (by simp) ?_
         intro gg cap w8 hown8 hg8 hat8 hlt8
         have HR8 := Lib.hid (HT.out.more (m := [40]) ((gr_drewN w 1 none).trans (World.grownBy_alloc w.drew (.cells #[.int .u8 40] 5) none)) hown8 hg8 (by simp) (by rfl))
         have c18 := bel_cell HR8.out.2 hb c1
         clear hown8 hg8 hat8 hlt8)
      | (go_simp
         refine (HI1.out _ tx px _ _ (HX.out.below HR8.out.2) HR8.out.1 (by simp; omega)).mono ?_
         rintro e w9 ⟨v9, rfl, ht9, hb9⟩
         have HT9 := Lib.hid ht9
         have HB9 := Lib.hid (HR8.out.2.trans hb9)
         clear ht9 hb9))
    all_goals
      go_wp2_with fail
      go_meet
      exact ⟨Lib.hid (by have := HT9.out; simpa using this), HB9⟩
  case rest =>
    obtain ⟨HT1, HBW⟩ := hcut
    obtain ⟨A1, k1, rfl⟩ := HT1.out.form
    have c0 := bel_cell HBW.out hb C0.out
    have c2 := bel_cell HBW.out hb C2.out
    have HY1 := Lib.hid (HY.out.below HBW.out)
    obtain ⟨l1, hl1⟩ : ∃ l1, l ++ (40 :: s.txt) = l1 := ⟨_, rfl⟩
    have hll1 : l1.length + (t.txt.length + 2) ≤ 50000000 := by have := HLL.out; rw [← hl1]; simp; omega
    rw [hl1] at HT1
    simp only [hl1]
    have HL1 := Lib.hid hl1
    have hB1 := HT1.out.2
    have hbl1 : b < wc.heap.size := by omega
    clear hl1
    go_upto_region 2 with fail
    go_cut [1] (fun s1 wx => Hid (Txt wx B s1 (l1 ++ (byt c :: t.txt))) ∧ Hid (Below B w wx))
    case first =>
      go_region_law (first
        | (refine step_append_lies _ (by rfl) _ _ _ (by rfl) B 5 i0 _ 1 1 Tryz.underlying22 hi0 hz0 hz1 hz2 rfl (by omega) _ l1.length (Lib.byteCells l1) (by rfl) (HT1.out.keep ((gr_drewN wc 1 none).trans (World.grownBy_alloc wc.drew (.cells #[.int .u8 c] 5) none))).1 ⟨wc.heap.size, 0, none⟩ 1 1 [.int .u8 c] (by rfl) (by rfl) (World.news_of_block (cs := #[.int .u8 c]) (t := 5) (fr := (0, 0)) (heap_alloc_new wc.drew _)) (by simp [Value.oneCell']) (by omega) (by simp [maxLen]; omega) (by omega) (by simp; omega) (wc.heap.size + 1) (by simp) ?_
           intro gg cap w8 hown8 hg8 hat8 hlt8
           have HR8 := Lib.hid (HT1.out.more (m := [byt c]) ((gr_drewN wc 1 none).trans (World.grownBy_alloc wc.drew (.cells #[.int .u8 c] 5) none)) hown8 hg8 (by simp) HBC.out.symm)
           have c28 := bel_cell HR8.out.2 hb c2
           clear hown8 hg8 hat8 hlt8)
        | (go_simp
           refine (HI2.out _ ty py _ _ (HY1.out.below HR8.out.2) HR8.out.1 (by simp; omega)).mono ?_
           rintro e w9 ⟨v9, rfl, ht9, hb9⟩
           have HT9 := Lib.hid ht9
           have HB9 := Lib.hid (HR8.out.2.trans hb9)
           clear ht9 hb9))
      all_goals
        go_wp2_with fail
        go_meet
        exact ⟨Lib.hid (by have := HT9.out; simpa using this), Lib.hid (HBW.out.trans HB9.out)⟩
    case rest =>
      obtain ⟨HT2, HBW2⟩ := hcut
      obtain ⟨l2, hl2e⟩ : ∃ l2, l1 ++ (byt c :: t.txt) = l2 := ⟨_, rfl⟩
      have hll2 : l2.length + 1 ≤ 50000000 := by rw [← hl2e]; simp; omega
      rw [hl2e] at HT2
      obtain ⟨A2, k2, rfl⟩ := HT2.out.form
      have HL2 := Lib.hid hl2e
      have hB2 := HT2.out.2
      have own1 := (HT2.out.keep (World.grownBy_alloc wc (.cells #[.int .u8 41] 5) none)).1
      clear hl2e c0 c2 c1
      go_wp2_with (at_builtin; refine wpList_append_own_at _ rfl _ _ 22 rfl B 5 i0 (.int .u8 0) 1 1 Tryz.underlying22 hi0 hz0 hz1 hz2 rfl (by decide) _ _ _ rfl own1 ⟨wc.heap.size, 0, none⟩ 1 1 [.int .u8 41] rfl rfl ?a1 ?a2 ?a3 ?a4 ?a5 ?_)
      case a1 => exact cell_one_new _ _ _
      case a2 => simp [Value.oneCell']
      case a3 => simp only [maxLen]; omega
      case a4 => omega
      case a5 => simp; omega
      intro v8 w8 hown8 hg8 _ _
      have HR := Lib.hid (HT2.out.more (m := [41]) (World.grownBy_alloc wc _ none) hown8 hg8 (by simp) (by rfl))
      clear hown8 hg8 own1
      go_wp2_with fail
      go_ret
      refine ⟨v8, rfl, ?_, HBW2.out.trans HR.out.2⟩
      have := HR.out.1
      rw [← HL2.out, ← HL1.out] at this
      simpa using this
end

/-! TText -/
section
section
open Go.RowKit

theorem bc_three {c i : Int} (h0 : 0 ≤ c) (h1 : c ≤ 255) (h2 : 0 ≤ i) (h3 : i ≤ 255) : Lib.byteCells [byt c, byt i, 58] = [.int .u8 c, .int .u8 i, .int .u8 58] := by simp [Lib.byteCells, byt_back h0 h1, byt_back h2 h3]

set_option maxRecDepth 100000 in
set_option maxHeartbeats 8000000 in
theorem app_loop (B b : Nat) (l : List UInt8) (c i : Int) (s t : Tm) (tv x y : Value) (w : World) (hc : c = 91 ∨ c = 123) (hi0' : 0 ≤ i) (hi1 : i ≤ 255) (h : Txt w B tv l) (hl : l.length + (s.txt.length + (t.txt.length + 5)) ≤ 50000000)
    (hb : b < B) (hh : w.heap[b]? = some (.cells #[.int .u8 c, .int .u8 i, x, y] 125 (0, 0))) (hx : PT w (fun b => b < B) s x) (hy : PT w (fun b => b < B) t y)
    (ih1 : ∀ (l : List UInt8) (ty : TypeId) (pv tv : Value) (w : World), PT w (fun b => b < B) s (.iface ty pv) → Txt w B tv l → l.length + s.txt.length ≤ 50000000 → Calls Tryz.prog (appF s) #[pv, tv] w (AppP B l s.txt w))
    (ih2 : ∀ (l : List UInt8) (ty : TypeId) (pv tv : Value) (w : World), PT w (fun b => b < B) t (.iface ty pv) → Txt w B tv l → l.length + t.txt.length ≤ 50000000 → Calls Tryz.prog (appF t) #[pv, tv] w (AppP B l t.txt w)) :
    Calls Tryz.prog 148 #[.pointer (some ⟨b, 0, none⟩), tv] w (AppP B l (byt c :: byt i :: 58 :: (s.txt ++ (62 :: (t.txt ++ [byt (c + 2)])))) w) := by
  obtain ⟨i0, hi0, hz0, hz1, hz2⟩ := info_parts infoU8
  obtain ⟨A0, k0, rfl⟩ := h.form
  obtain ⟨tx, px, rfl⟩ := hx.iface
  obtain ⟨ty, py, rfl⟩ := hy.iface
  have HT := Lib.hid h
  have hB := h.2
  have HBC3 := Lib.hid (bc_three (c := c) (i := i) (by omega) (by omega) hi0' hi1)
  have HBC := Lib.hid (bc_byt (c := c + 2) (by omega) (by omega))
  have HLB := Lib.hid (fun w => lastbr_any c hc w)
  have c0 : w.cell? ⟨b, 0, none⟩ = some (.int .u8 c) := cell_of_row w b 0 _ _ (0, 0) hh
  have ci : w.cell? ⟨b, 1, none⟩ = some (.int .u8 i) := cell_of_row w b 1 _ _ (0, 0) hh
  have c1 : w.cell? ⟨b, 2, none⟩ = some (.iface tx px) := cell_of_row w b 2 _ _ (0, 0) hh
  have C0 := Lib.hid c0
  have C2 := Lib.hid (show w.cell? ⟨b, 3, none⟩ = some (.iface ty py) from cell_of_row w b 3 _ _ (0, 0) hh)
  have hm := method_app hx
  have hm2 := method_app hy
  have hrun := fun tv => run_app s px tv
  have hrun2 := fun tv => run_app t py tv
  have HX := Lib.hid hx
  have HY := Lib.hid hy
  have HI1 := Lib.hid ih1
  have HI2 := Lib.hid ih2
  have hbl : b < w.heap.size := by omega
  have HLL := Lib.hid hl
  clear h hh hx hy ih1 ih2 hc
  go_enter Tryz.func148, Tryz.ntmps148
  go_upto_region 1 with fail
  go_cut [1] (fun s1 wx => Hid (Txt wx B s1 (l ++ (byt c :: byt i :: 58 :: s.txt))) ∧ Hid (Below B w wx))
  case first =>
    go_region_law (first
      | (refine step_append_lies _ (by rfl) _ _ _ (by rfl) B 5 i0 _ 1 1 Tryz.underlying22 hi0 hz0 hz1 hz2 rfl (by omega) _ l.length (Lib.byteCells l) (by rfl) (HT.out.keep ((gr_drewN w 1 none).trans (World.grownBy_alloc w.drew (.cells #[.int .u8 c, .int .u8 i, .int .u8 58] 5) none))).1 ⟨w.heap.size, 0, none⟩ 3 3 [.int .u8 c, .int .u8 i, .int .u8 58] (by rfl) (by rfl) (World.news_of_block (cs := #[.int .u8 c, .int .u8 i, .int .u8 58]) (t := 5) (fr := (0, 0)) (heap_alloc_new w.drew _)) (by simp [Value.oneCell']) (by omega) (by simp [maxLen]; omega) (by omega) (by simp; omega) (w.heap.size + 1) (by simp) ?_
         intro gg cap w8 hown8 hg8 hat8 hlt8
         have HR8 := Lib.hid (HT.out.more (m := [byt c, byt i, 58]) ((gr_drewN w 1 none).trans (World.grownBy_alloc w.drew (.cells #[.int .u8 c, .int .u8 i, .int .u8 58] 5) none)) hown8 hg8 (by simp) HBC3.out.symm)
         have c18 := bel_cell HR8.out.2 hb c1
         have c08 := bel_cell HR8.out.2 hb c0
         have ci8 := bel_cell HR8.out.2 hb ci
         clear hown8 hg8 hat8 hlt8)
      | (go_simp
         refine (HI1.out _ tx px _ _ (HX.out.below HR8.out.2) HR8.out.1 (by simp; omega)).mono ?_
         rintro e w9 ⟨v9, rfl, ht9, hb9⟩
         have HT9 := Lib.hid ht9
         have HB9 := Lib.hid (HR8.out.2.trans hb9)
         clear ht9 hb9))
    all_goals
      go_wp2_with fail
      go_meet
      exact ⟨Lib.hid (by have := HT9.out; simpa using this), HB9⟩
  case rest =>
    obtain ⟨HT1, HBW⟩ := hcut
    obtain ⟨A1, k1, rfl⟩ := HT1.out.form
    have c2 := bel_cell HBW.out hb C2.out
    have HY1 := Lib.hid (HY.out.below HBW.out)
    obtain ⟨l1, hl1⟩ : ∃ l1, l ++ (byt c :: byt i :: 58 :: s.txt) = l1 := ⟨_, rfl⟩
    have hll1 : l1.length + (t.txt.length + 2) ≤ 50000000 := by have := HLL.out; rw [← hl1]; simp; omega
    rw [hl1] at HT1
    simp only [hl1]
    have HL1 := Lib.hid hl1
    have hB1 := HT1.out.2
    have hbl1 : b < wc.heap.size := by omega
    clear hl1 c0 ci c1
    go_upto_region 2 with fail
    go_cut [1] (fun s1 wx => Hid (Txt wx B s1 (l1 ++ (62 :: t.txt))) ∧ Hid (Below B w wx))
    case first =>
      go_region_law (first
        | (refine step_append_lies _ (by rfl) _ _ _ (by rfl) B 5 i0 _ 1 1 Tryz.underlying22 hi0 hz0 hz1 hz2 rfl (by omega) _ l1.length (Lib.byteCells l1) (by rfl) (HT1.out.keep ((gr_drewN wc 1 none).trans (World.grownBy_alloc wc.drew (.cells #[.int .u8 62] 5) none))).1 ⟨wc.heap.size, 0, none⟩ 1 1 [.int .u8 62] (by rfl) (by rfl) (World.news_of_block (cs := #[.int .u8 62]) (t := 5) (fr := (0, 0)) (heap_alloc_new wc.drew _)) (by simp [Value.oneCell']) (by omega) (by simp [maxLen]; omega) (by omega) (by simp; omega) (wc.heap.size + 1) (by simp) ?_
           intro gg cap w8 hown8 hg8 hat8 hlt8
           have HR8 := Lib.hid (HT1.out.more (m := [62]) ((gr_drewN wc 1 none).trans (World.grownBy_alloc wc.drew (.cells #[.int .u8 62] 5) none)) hown8 hg8 (by simp) (by rfl))
           have c28 := bel_cell HR8.out.2 hb c2
           clear hown8 hg8 hat8 hlt8)
        | (go_simp
           refine (HI2.out _ ty py _ _ (HY1.out.below HR8.out.2) HR8.out.1 (by simp; omega)).mono ?_
           rintro e w9 ⟨v9, rfl, ht9, hb9⟩
           have HT9 := Lib.hid ht9
           have HB9 := Lib.hid (HR8.out.2.trans hb9)
           clear ht9 hb9))
      all_goals
        go_wp2_with fail
        go_meet
        exact ⟨Lib.hid (by have := HT9.out; simpa using this), Lib.hid (HBW.out.trans HB9.out)⟩
    case rest =>
      obtain ⟨HT2, HBW2⟩ := hcut
      obtain ⟨l2, hl2e⟩ : ∃ l2, l1 ++ (62 :: t.txt) = l2 := ⟨_, rfl⟩
      have hll2 : l2.length + 1 ≤ 50000000 := by rw [← hl2e]; simp; omega
      rw [hl2e] at HT2
      obtain ⟨A2, k2, rfl⟩ := HT2.out.form
      have HL2 := Lib.hid hl2e
      have hB2 := HT2.out.2
      have c0 := bel_cell HBW2.out hb C0.out
      have own1 := (HT2.out.keep (World.grownBy_alloc wc (.cells #[.int .u8 (c + 2)] 5) none)).1
      clear hl2e c2
      go_wp2_with fail
      refine (HLB.out _).mono ?_
      rintro e w' ⟨rfl, rfl⟩
      clear c0
      go_wp2_with (at_builtin; refine wpList_append_own_at _ rfl _ _ 22 rfl B 5 i0 (.int .u8 0) 1 1 Tryz.underlying22 hi0 hz0 hz1 hz2 rfl (by decide) _ _ _ rfl own1 ⟨w'.heap.size, 0, none⟩ 1 1 [.int .u8 (c + 2)] rfl rfl ?a1 ?a2 ?a3 ?a4 ?a5 ?_)
      case a1 => exact cell_one_new _ _ _
      case a2 => simp [Value.oneCell']
      case a3 => simp only [maxLen]; omega
      case a4 => omega
      case a5 => simp; omega
      intro v8 w8 hown8 hg8 _ _
      have HR := Lib.hid (HT2.out.more (m := [byt (c + 2)]) (World.grownBy_alloc w' _ none) hown8 hg8 (by simp) HBC.out.symm)
      clear hown8 hg8 own1
      go_wp2_with fail
      go_ret
      refine ⟨v8, rfl, ?_, HBW2.out.trans HR.out.2⟩
      have := HR.out.1
      rw [← HL2.out, ← HL1.out] at this
      simpa using this
end

section
open Go.RowKit

theorem app_any (B : Nat) : ∀ (t : Tm) (l : List UInt8) (ty : TypeId) (pv tv : Value) (w : World), t.Ok → PT w (fun b => b < B) t (.iface ty pv) → Txt w B tv l → l.length + t.txt.length ≤ 50000000 → Calls Tryz.prog (appF t) #[pv, tv] w (AppP B l t.txt w)
  | .dig c, l, ty, pv, tv, w, ho, h, ht, hl => by
    have hg := isD_ge ho
    cases h
    exact app_dig B l c tv w (by omega) (by omega) ht (by simp [Tm.txt] at hl; omega)
  | .var c, l, ty, pv, tv, w, ho, h, ht, hl => by
    have hg := isV_ge ho
    cases h
    exact app_var B l c tv w (by omega) (by omega) ht (by simp [Tm.txt] at hl; omega)
  | .pre c s, l, ty, pv, tv, w, ho, h, ht, hl => by
    have hg := isP_ge ho.1
    obtain ⟨b, x, hv, hb, hh, hx⟩ := h
    cases hv
    exact app_pre B b l c s tv x w (by omega) (by omega) ht (by simp [Tm.txt] at hl; omega) hb hh hx (fun l ty pv tv w h ht hl => app_any B s l ty pv tv w ho.2 h ht hl)
  | .two c s t, l, ty, pv, tv, w, ho, h, ht, hl => by
    have hg := isB_ge ho.1
    obtain ⟨b, x, y, hv, hb, hh, hx, hy⟩ := h
    cases hv
    exact app_two B b l c s t tv x y w (by omega) (by omega) ht (by simp [Tm.txt] at hl; omega) hb hh hx hy (fun l ty pv tv w h ht hl => app_any B s l ty pv tv w ho.2.1 h ht hl) (fun l ty pv tv w h ht hl => app_any B t l ty pv tv w ho.2.2 h ht hl)
  | .loop c i s t, l, ty, pv, tv, w, ho, h, ht, hl => by
    have hg := isL_ge ho.2.1
    obtain ⟨b, x, y, hv, hb, hh, hx, hy⟩ := h
    cases hv
    exact app_loop B b l c i s t tv x y w ho.1 (by omega) (by omega) ht (by simp [Tm.txt] at hl; omega) hb hh hx hy (fun l ty pv tv w h ht hl => app_any B s l ty pv tv w ho.2.2.1 h ht hl) (fun l ty pv tv w h ht hl => app_any B t l ty pv tv w ho.2.2.2 h ht hl)

/-- A term's text as a string. -/
def bytesOf (l : List UInt8) : ByteArray := ⟨l.toArray⟩
theorem conv_txt {w : World} {B c : Nat} {A : Option Addr} {l : List UInt8} (h : Txt w B (.slice A l.length c) l) : (convert 22 9 (.slice A l.length c)).run Tryz.prog w = .ok (.string (bytesOf l)) w := by
  obtain ⟨s, hs⟩ : ∃ s : ByteArray, s = bytesOf l := ⟨_, rfl⟩
  have e : s.size = l.length := by rw [hs]; simp [bytesOf, ByteArray.size]
  have hat : ∀ i (hi : i < s.size), l[i]? = some s[i] := fun i hi => by
    have hil : i < l.length := by omega
    subst hs
    rw [List.getElem?_eq_getElem hil]
    rfl
  rcases h.1.2 with ⟨hv, hn⟩ | ⟨g, cap, cur, hv, _⟩
  · obtain rfl : l = [] := List.length_eq_zero_iff.1 hn
    simp only [Value.slice.injEq] at hv
    obtain ⟨rfl, _, rfl⟩ := hv
    rw [run_convert_bytes_nil (P := Tryz.prog) (w := w) 22 5 Tryz.underlying22 Tryz.underlying5 _ 0 9 Tryz.underlying9]
    rfl
  · cases hv
    have hb : Lib.Bytes w g 0 s := fun i hi => by
      have := h.1.cellAt i (by omega)
      rw [Nat.zero_add, this, Lib.byteCells, List.getElem?_map, hat i hi]
      rfl
    have := Lib.run_convert_whole (P := Tryz.prog) w 22 5 9 Tryz.underlying22 Tryz.underlying5 Tryz.underlying9 g 0 s hb c
    rw [e, hs] at this
    exact this

set_option maxRecDepth 100000 in
set_option maxHeartbeats 1000000 in
theorem textof_any (t : Tm) (S : Nat → Prop) (ty : TypeId) (pv : Value) (w : World) (ho : t.Ok) (h : PT w S t (.iface ty pv)) (hl : t.txt.length ≤ 50000000) :
    Calls Tryz.prog 38 #[.iface ty pv] w fun e w' => e = .returned (.string (bytesOf t.txt)) ∧ w.grownBy w' none := by
  have hp : PT w (fun b => b < w.heap.size) t (.iface ty pv) := h.keep (fun _ _ _ => rfl) (fun b _ hb => hb) _ _
  have hm := method_app h
  have hrun := fun tv => run_app t pv tv
  have HC := Lib.hid (app_any w.heap.size t [] ty pv (.slice none 0 0) w ho hp ⟨⟨rfl, .inl ⟨rfl, rfl⟩⟩, Nat.le_refl _⟩ (by simpa using hl))
  clear h hp
  go_enter Tryz.func38, Tryz.ntmps38
  go_wp2_with fail
  refine HC.out.mono ?_
  rintro e w1 ⟨v1, rfl, ht1, hb1⟩
  obtain ⟨A, c, rfl⟩ := ht1.form
  have hcv := conv_txt ht1
  rw [List.nil_append] at hcv
  have HB := Lib.hid hb1
  clear hb1 ht1 hm hrun
  go_wp2_with fail
  go_ret
  exact ⟨rfl, ⟨HB.out.os, HB.out.tape, HB.out.output, HB.out.size, fun k hk _ => HB.out.block k hk⟩⟩
end
end

/-! STxt -/
section
section
open Go.RowKit

/-- The levels of the parts, with one more for the second part of a loop; their greatest. -/
def levL : Tm → List Nat
  | .dig _ => []
  | .var _ => []
  | .pre _ s => [s.levels]
  | .two _ s t => [s.levels, t.levels]
  | .loop _ _ s t => [s.levels, 1 + t.levels]
def Tm.isLoop : Tm → Bool
  | .loop _ _ _ _ => true
  | _ => false
def mx : List Nat → Nat
  | [] => 0
  | a :: l => max a (mx l)
theorem levels_mx (t : Tm) : t.levels = mx (levL t) := by cases t <;> simp [Tm.levels, levL, mx]
theorem mx_step : ∀ {l : List Nat} {j x : Nat}, l[j]? = some x → mx (l.take (j + 1)) = max (mx (l.take j)) x
  | [], _, _, h => by simp at h
  | a :: l, 0, x, h => by simp at h; subst h; simp [mx]
  | a :: l, j + 1, x, h => by
    have := mx_step (l := l) (j := j) (by simpa using h)
    simp only [List.take_succ_cons, mx, this]; omega
theorem mx_take (l : List Nat) (j : Nat) : mx (l.take j) ≤ mx l := by
  induction l generalizing j with
  | nil => simp [mx]
  | cons a l ih =>
    cases j with
    | zero => simp [mx]
    | succ j => simp only [List.take_succ_cons, mx]; have := ih j; omega
theorem levL_len (t : Tm) : (levL t).length = t.kids.length := by cases t <;> rfl
theorem levL_at {t : Tm} {j : Nat} {x : Tm} (h : t.kids[j]? = some x) : (levL t)[j]? = some (x.levels + if (t.isLoop && decide (j = 1)) = true then 1 else 0) := by
  cases t with
  | dig c => simp [Tm.kids] at h
  | var c => simp [Tm.kids] at h
  | pre c s =>
    match j, h with
    | 0, h => simp [Tm.kids] at h; subst h; simp [levL, Tm.isLoop]
    | j + 1, h => simp [Tm.kids] at h
  | two c s t =>
    match j, h with
    | 0, h => simp [Tm.kids] at h; subst h; simp [levL, Tm.isLoop]
    | 1, h => simp [Tm.kids] at h; subst h; simp [levL, Tm.isLoop]
    | j + 2, h => simp [Tm.kids] at h
  | loop c i s t =>
    match j, h with
    | 0, h => simp [Tm.kids] at h; subst h; simp [levL, Tm.isLoop]
    | 1, h => simp [Tm.kids] at h; subst h; simp [levL, Tm.isLoop]; omega
    | j + 2, h => simp [Tm.kids] at h
theorem kids_ok' {t k : Tm} (ho : t.Ok) (h : k ∈ t.kids) : k.Ok := by
  cases t with
  | dig c => simp [Tm.kids] at h
  | var c => simp [Tm.kids] at h
  | pre c s => simp [Tm.kids] at h; subst h; exact ho.2
  | two c s t =>
    simp [Tm.kids] at h
    rcases h with rfl | rfl
    · exact ho.2.1
    · exact ho.2.2
  | loop c v s t =>
    simp [Tm.kids] at h
    rcases h with rfl | rfl
    · exact ho.2.2.1
    · exact ho.2.2.2

/-- A node's name tells whether it is a loop, where it has parts. -/
theorem SN.name {w : World} {S : Nat → Prop} {t : Tm} {a b : Int} {sv : Value} (ho : t.Ok) (h : SN w S t (a, b, sv)) (hk : 0 < t.kids.length) : (b != 0) = t.isLoop := by
  cases t with
  | dig c => simp [Tm.kids] at hk
  | var c => simp [Tm.kids] at hk
  | pre c s => obtain ⟨_, h2, _⟩ := h; simp only at h2; subst h2; rfl
  | two c s t => obtain ⟨_, h2, _⟩ := h; simp only at h2; subst h2; rfl
  | loop c i s t =>
    obtain ⟨_, h2, _⟩ := h
    simp only at h2
    subst h2
    have := isL_ge ho.2.1
    simp [Tm.isLoop]
    omega
end

section
open Go.RowKit

theorem bytesOf_one (c : Int) : bytesOf [byt c] = one c := by
  have := one_data c
  unfold bytesOf
  cases h : one c with
  | mk d => rw [h] at this; simp only at this; rw [← this]
theorem bytesOf_app (l m : List UInt8) : bytesOf (l ++ m) = bytesOf l ++ bytesOf m := by
  apply ByteArray.ext
  simp [bytesOf, ByteArray.data_append]
theorem bytesOf_size (l : List UInt8) : (bytesOf l).size = l.length := by simp [bytesOf, ByteArray.size]
theorem bytesOf_cons (c : Int) (l : List UInt8) : bytesOf (byt c :: l) = one c ++ bytesOf l := by
  rw [← bytesOf_one, ← bytesOf_app]; rfl

def STxtPost (t : Tm) (w : World) (e : Ending) (w' : World) : Prop := e = .returned (.string (bytesOf t.txt)) ∧ w.grownBy w' none

theorem gr_al {w u : World} (h : w.grownBy u none) (o : Obj) : w.grownBy (u.alloc o) none := h.trans (World.grownBy_alloc _ _ _)
theorem gr_dr {w u : World} (h : w.grownBy u none) : w.grownBy u.drew none := h.trans (gr_drewN u 1 none)

set_option maxRecDepth 100000 in
set_option maxHeartbeats 1000000 in
theorem stxt_leaf (t : Tm) (a b : Int) (A : Option Addr) (c : Nat) (w : World) (ht : t.txt = [byt b]) :
    Calls Tryz.prog 44 #[.agg #[.int .u8 a, .int .u8 b, .slice A 0 c]] w (STxtPost t w) := by
  have HX := Lib.hid (c3_new w (.int .u8 a) (.int .u8 b) (.slice A 0 c) 52)
  have x0 := HX.out.c0
  have x1 := HX.out.c1
  have x2 := HX.out.c2
  have HTX := Lib.hid ht
  have hcv := conv_byte (w.alloc (.cells #[.int .u8 a, .int .u8 b, .slice A 0 c] 52)) a (w.heap.size + 1) (by simp)
  have hcv2 := conv_byte ((w.alloc (.cells #[.int .u8 a, .int .u8 b, .slice A 0 c] 52)).alloc (.cells #[.int .u8 a] 5)) b (w.heap.size + 1 + 1) (by simp)
  clear ht
  go_enter Tryz.func44, Tryz.ntmps44
  go_wp2_with fail
  go_ret
  refine ⟨?_, gr_al (gr_al (gr_al (gr_refl _ _) _) _) _⟩
  rw [HTX.out, bytesOf_one]
  rfl

set_option maxRecDepth 100000 in
set_option maxHeartbeats 2000000 in
theorem stxt_pre (t s : Tm) (a b a2 b2 : Int) (A A2 : Option Addr) (c k2 c2 : Nat) (w : World) (ht : t.txt = byt a :: s.txt) (hl : s.txt.length ≤ 1000000)
    (ho : w.ownsRow 0 52 3 (.slice A 1 c) 1 (flat3 [(a2, b2, .slice A2 k2 c2)]))
    (ih : ∀ u : World, w.grownBy u none → Calls Tryz.prog 44 #[.agg #[.int .u8 a2, .int .u8 b2, .slice A2 k2 c2]] u (STxtPost s u)) :
    Calls Tryz.prog 44 #[.agg #[.int .u8 a, .int .u8 b, .slice A 1 c]] w (STxtPost t w) := by
  obtain ⟨-, -, hrow⟩ := srow3 (xs := [(a2, b2, .slice A2 k2 c2)]) ho
  obtain ⟨g, rfl, hg1, hcell⟩ := hrow (by omega)
  obtain ⟨q0, q1, q2⟩ := hcell 0 _ rfl
  simp only [Nat.zero_mul, Nat.zero_add] at q0 q1 q2
  have HX := Lib.hid (c3_new w (.int .u8 a) (.int .u8 b) (.slice (some ⟨g, 0, none⟩) 1 c) 52)
  have x0 := HX.out.c0
  have x2 := HX.out.c2
  have x2b := (HX.out.alloc (.cells #[.int .u8 a] 5)).c2
  have HTX := Lib.hid ht
  have hcv := conv_byte (w.alloc (.cells #[.int .u8 a, .int .u8 b, .slice (some ⟨g, 0, none⟩) 1 c] 52)) a (w.heap.size + 1) (by simp)
  have HG := Lib.hid (gr_al (gr_al (gr_refl w none) (.cells #[.int .u8 a, .int .u8 b, .slice (some ⟨g, 0, none⟩) 1 c] 52)) (.cells #[.int .u8 a] 5))
  have h0 := HG.out.cell q0 (by simp)
  have h1 := HG.out.cell q1 (by simp)
  have h2 := HG.out.cell q2 (by simp)
  have HC := Lib.hid (ih _ HG.out)
  have HZ1 := Lib.hid (one_size a)
  obtain ⟨X, hX⟩ : ∃ X, bytesOf s.txt = X := ⟨_, rfl⟩
  have hXs : X.size ≤ 1000000 := by rw [← hX, bytesOf_size]; exact hl
  have h1s : (one a).size ≤ 1 := by rw [one_size]; exact Nat.le_refl _
  have HXE := Lib.hid hX
  clear ht hcell hrow ho ih q0 q1 q2 hX
  unfold STxtPost at HC
  rw [HXE.out] at HC
  go_enter Tryz.func44, Tryz.ntmps44
  go_wp2_with fail
  refine HC.out.mono ?_
  rintro e w1 ⟨rfl, hg1'⟩
  have HG1 := Lib.hid (HG.out.trans hg1')
  clear hg1'
  go_wp2_with fail
  go_ret
  refine ⟨?_, HG1.out⟩
  rw [HTX.out, bytesOf_cons, HXE.out]
  rfl

theorem stxt_size2 {x y : ByteArray} {n m : Nat} (hx : x.size ≤ n) (hy : y.size ≤ m) : (x ++ y).size ≤ n + m := by rw [ByteArray.size_append]; omega

set_option maxRecDepth 100000 in
set_option maxHeartbeats 8000000 in
theorem stxt_two (t s r : Tm) (a a2 b2 a3 b3 : Int) (A A2 A3 : Option Addr) (c k2 c2 k3 c3 : Nat) (w : World) (ht : t.txt = 40 :: (s.txt ++ (byt a :: (r.txt ++ [41])))) (hl : t.txt.length ≤ 1000000)
    (ho : w.ownsRow 0 52 3 (.slice A 2 c) 2 (flat3 [(a2, b2, .slice A2 k2 c2), (a3, b3, .slice A3 k3 c3)]))
    (ih1 : ∀ u : World, w.grownBy u none → Calls Tryz.prog 44 #[.agg #[.int .u8 a2, .int .u8 b2, .slice A2 k2 c2]] u (STxtPost s u))
    (ih2 : ∀ u : World, w.grownBy u none → Calls Tryz.prog 44 #[.agg #[.int .u8 a3, .int .u8 b3, .slice A3 k3 c3]] u (STxtPost r u)) :
    Calls Tryz.prog 44 #[.agg #[.int .u8 a, .int .u8 0, .slice A 2 c]] w (STxtPost t w) := by
  obtain ⟨-, -, hrow⟩ := srow3 (xs := [(a2, b2, .slice A2 k2 c2), (a3, b3, .slice A3 k3 c3)]) ho
  obtain ⟨g, rfl, hg1, hcell⟩ := hrow (by omega)
  obtain ⟨q0, q1, q2⟩ := hcell 0 _ rfl
  obtain ⟨q3, q4, q5⟩ := hcell 1 _ rfl
  simp only [Nat.zero_mul, Nat.zero_add, Nat.one_mul] at q0 q1 q2 q3 q4 q5
  have HX := Lib.hid (c3_new w (.int .u8 a) (.int .u8 0) (.slice (some ⟨g, 0, none⟩) 2 c) 52)
  have x0 := HX.out.c0
  have x1 := HX.out.c1
  have x2 := HX.out.c2
  have x1b := (HX.out.alloc (.cells #[.int .u8 a] 5)).c1
  have x2b := (HX.out.alloc (.cells #[.int .u8 a] 5)).c2
  have HTX := Lib.hid ht
  have hcv := conv_byte (w.alloc (.cells #[.int .u8 a, .int .u8 0, .slice (some ⟨g, 0, none⟩) 2 c] 52)) a (w.heap.size + 1) (by simp)
  have HG := Lib.hid (gr_al (gr_al (gr_refl w none) (.cells #[.int .u8 a, .int .u8 0, .slice (some ⟨g, 0, none⟩) 2 c] 52)) (.cells #[.int .u8 a] 5))
  have h0 := HG.out.cell q0 (by simp)
  have h1 := HG.out.cell q1 (by simp)
  have h2 := HG.out.cell q2 (by simp)
  have h3 := HG.out.cell q3 (by simp)
  have h4 := HG.out.cell q4 (by simp)
  have h5 := HG.out.cell q5 (by simp)
  have HI1 := Lib.hid ih1
  have HI2 := Lib.hid ih2
  obtain ⟨X, hX⟩ : ∃ X, bytesOf s.txt = X := ⟨_, rfl⟩
  obtain ⟨Y, hY⟩ : ∃ Y, bytesOf r.txt = Y := ⟨_, rfl⟩
  have hXs : X.size ≤ 1000000 := by rw [← hX, bytesOf_size]; rw [ht] at hl; simp at hl; omega
  have hYs : Y.size ≤ 1000000 := by rw [← hY, bytesOf_size]; rw [ht] at hl; simp at hl; omega
  have h1s : (one a).size ≤ 1 := by rw [one_size]; exact Nat.le_refl _
  have HXE := Lib.hid hX
  have HYE := Lib.hid hY
  clear ht hcell hrow ho ih1 ih2 q0 q1 q2 q3 q4 q5 hX hY hl
  unfold STxtPost at HI1 HI2
  rw [HXE.out] at HI1
  rw [HYE.out] at HI2
  go_enter Tryz.func44, Tryz.ntmps44
  go_wp2_with fail
  have HB := Lib.hid (HX.out.alloc (.cells #[.int .u8 a] 5))
  have hbz : w.heap.size < ((w.alloc (.cells #[.int .u8 a, .int .u8 0, .slice (some ⟨g, 0, none⟩) 2 c] 52)).alloc (.cells #[.int .u8 a] 5)).heap.size := by simp; omega
  have hgz : g < ((w.alloc (.cells #[.int .u8 a, .int .u8 0, .slice (some ⟨g, 0, none⟩) 2 c] 52)).alloc (.cells #[.int .u8 a] 5)).heap.size := by simp; omega
  clear x0 x1 x2 hcv x1b
  obtain ⟨s1, hs1⟩ : ∃ s1 : ByteArray, { data := #[40] } ++ X = s1 := ⟨_, rfl⟩
  obtain ⟨s2, hs2⟩ : ∃ s2 : ByteArray, s1 ++ one a = s2 := ⟨_, rfl⟩
  obtain ⟨s3, hs3⟩ : ∃ s3 : ByteArray, s2 ++ Y = s3 := ⟨_, rfl⟩
  obtain ⟨s4, hs4⟩ : ∃ s4 : ByteArray, s3 ++ { data := #[41] } = s4 := ⟨_, rfl⟩
  have z1 : s1.size ≤ 1 + 1000000 := by rw [← hs1]; exact stxt_size2 (by decide) hXs
  have z2 : s2.size ≤ 1 + 1000000 + 1 := by rw [← hs2]; exact stxt_size2 z1 h1s
  have z3 : s3.size ≤ 1 + 1000000 + 1 + 1000000 := by rw [← hs3]; exact stxt_size2 z2 hYs
  have hd1 := fun u => str_add X { data := #[40] } s1 hs1 (by have : ({ data := #[40] } : ByteArray).size = 1 := rfl; omega) u
  have hd2 := fun u => str_add (one a) s1 s2 hs2 (by omega) u
  have hd3 := fun u => str_add Y s2 s3 hs3 (by omega) u
  have hd4 := fun u => str_add { data := #[41] } s3 s4 hs4 (by have : ({ data := #[41] } : ByteArray).size = 1 := rfl; omega) u
  have HS4 : Hid (s4 = ((({ data := #[40] } ++ X) ++ one a) ++ Y) ++ { data := #[41] }) := Lib.hid (by rw [hs1, hs2, hs3, hs4])
  clear hs1 hs2 hs3 hs4 z1 z2 z3 hXs hYs h1s
  generalize (w.alloc (.cells #[.int .u8 a, .int .u8 0, .slice (some ⟨g, 0, none⟩) 2 c] 52)).alloc (.cells #[.int .u8 a] 5) = u at HG HB x2b h0 h1 h2 h3 h4 h5 hbz hgz ⊢
  go_region_held3 (fun w' => w'.cell? ⟨w.heap.size, 2, none⟩ = some (.slice (some ⟨g, 0, none⟩) 2 c) ∧ w'.cell? ⟨g, 0, none⟩ = some (.int .u8 a2) ∧ w'.cell? ⟨g, 1, none⟩ = some (.int .u8 b2) ∧ w'.cell? ⟨g, 2, none⟩ = some (.slice A2 k2 c2) ∧ w'.cell? ⟨g, 3, none⟩ = some (.int .u8 a3) ∧ w'.cell? ⟨g, 4, none⟩ = some (.int .u8 b3) ∧ w'.cell? ⟨g, 5, none⟩ = some (.slice A3 k3 c3)) (go_keep)
    (first
      | (go_at_call 44
         (with_reducible refine (HI1.out _ ?_).mono ?_)
         · exact gr_dr HG.out
         rintro e wa ⟨rfl, hga⟩
         have HGA := Lib.hid (((gr_drewN u 1 none).trans hga))
         have y2 := HGA.out.cell x2b (by simp)
         have y3 := HGA.out.cell h3 (by simp)
         have y4 := HGA.out.cell h4 (by simp)
         have y5 := HGA.out.cell h5 (by simp)
         have y0 := HGA.out.cell h0 (by simp)
         have y1 := HGA.out.cell h1 (by simp)
         have y6 := HGA.out.cell h2 (by simp)
         clear hga)
      | (go_at_call 44
         (with_reducible refine (HI2.out _ ?_).mono ?_)
         · exact HG.out.trans HGA.out
         rintro e wb ⟨rfl, hgb⟩
         have HGB := Lib.hid (HGA.out.trans hgb)
         have z2 := HGB.out.cell x2b (by simp)
         have z3 := HGB.out.cell h3 (by simp)
         have z4 := HGB.out.cell h4 (by simp)
         have z5 := HGB.out.cell h5 (by simp)
         have z0 := HGB.out.cell h0 (by simp)
         have z1 := HGB.out.cell h1 (by simp)
         have z6 := HGB.out.cell h2 (by simp)
         clear hgb))
  all_goals
    go_wp2_with fail
    go_ret
    refine ⟨?_, HG.out.trans HGB.out⟩
    rw [HTX.out, show (40 : UInt8) = byt 40 from rfl, bytesOf_cons, bytesOf_app, bytesOf_cons, bytesOf_app, HXE.out, HYE.out]
    rw [HS4.out]
    simp only [ByteArray.append_assoc]
    rfl
end
end

/-! STxtA -/
section
section
open Go.RowKit

def STxtPost2 (X : ByteArray) (w u : World) (e : Ending) (w' : World) : Prop := e = .returned (.string X) ∧ w.grownBy w' none ∧ u.grownBy w' none

/-- A slice of one byte, in whatever world. -/
def OneB (v : Value) (w : World) (c : Int) : Prop := ∃ k, v = .slice (some ⟨k, 0, none⟩) 1 1 ∧ w.cell? ⟨k, 0, none⟩ = some (.int .u8 c)
theorem OneB.grown {v : Value} {w w' : World} {c : Int} (h : OneB v w c) (hg : w.grownBy w' none) : OneB v w' c := by
  obtain ⟨k, hv, hc⟩ := h
  exact ⟨k, hv, hg.cell hc (by simp)⟩
theorem conv_oneb {u : World} {k : Nat} {c : Int} (hc : u.cell? ⟨k, 0, none⟩ = some (.int .u8 c)) : (convert 22 9 (.slice (some ⟨k, 0, none⟩) 1 1)).run Tryz.prog u = .ok (.string (one c)) u := by
  refine run_convert_bytes_arg (P := Tryz.prog) _ 22 5 Tryz.underlying22 Tryz.underlying5 k 0 1 1 [c] rfl ?_ 9 Tryz.underlying9
  intro i hi
  obtain rfl : i = 0 := by omega
  exact hc

/-- What each operation of the loop's region answers. -/
def lval (n g : Nat) (a b a2 b2 a3 b3 : Int) (A2 A3 : Option Addr) (c k2 c2 k3 c3 : Nat) (X Y s1 s2 s3 s4 s5 s6 : ByteArray) : Nat → Value
  | 0 => .string (one a) | 1 => .pointer (some ⟨n, 1, none⟩) | 2 => .int .u8 b | 4 => .string (one b) | 5 => .string s1 | 6 => .string s2
  | 7 => .pointer (some ⟨n, 2, none⟩) | 8 => .slice (some ⟨g, 0, none⟩) 2 c | 9 => .pointer (some ⟨g, 0, none⟩) | 10 => .agg #[.int .u8 a2, .int .u8 b2, .slice A2 k2 c2] | 11 => .string X | 12 => .string s3 | 13 => .string s4
  | 14 => .pointer (some ⟨n, 2, none⟩) | 15 => .slice (some ⟨g, 0, none⟩) 2 c | 16 => .pointer (some ⟨g, 3, none⟩) | 17 => .agg #[.int .u8 a3, .int .u8 b3, .slice A3 k3 c3] | 18 => .string Y | 19 => .string s5
  | 20 => .pointer (some ⟨n, 0, none⟩) | 21 => .int .u8 a | 22 => .int .u8 (a + 2) | 24 => .string (one (a + 2)) | _ => .string s6
def lR (n g : Nat) (a b a2 b2 a3 b3 : Int) (A2 A3 : Option Addr) (c k2 c2 k3 c3 : Nat) (X Y s1 s2 s3 s4 s5 s6 : ByteArray) (i : Nat) (v : Value) (w : World) : Prop :=
  if i = 3 then OneB v w b else if i = 23 then OneB v w (a + 2) else v = lval n g a b a2 b2 a3 b3 A2 A3 c k2 c2 k3 c3 X Y s1 s2 s3 s4 s5 s6 i

set_option maxRecDepth 100000 in
set_option maxHeartbeats 8000000 in
theorem stxt_loop (t s r : Tm) (a b a2 b2 a3 b3 : Int) (A A2 A3 : Option Addr) (c k2 c2 k3 c3 : Nat) (w : World) (ha : a = 91 ∨ a = 123) (hb : (b != 0) = true) (ht : t.txt = byt a :: byt b :: 58 :: (s.txt ++ (62 :: (r.txt ++ [byt (a + 2)])))) (hl : t.txt.length ≤ 1000000)
    (ho : w.ownsRow 0 52 3 (.slice A 2 c) 2 (flat3 [(a2, b2, .slice A2 k2 c2), (a3, b3, .slice A3 k3 c3)]))
    (ih1 : ∀ u : World, w.grownBy u none → Calls Tryz.prog 44 #[.agg #[.int .u8 a2, .int .u8 b2, .slice A2 k2 c2]] u (STxtPost s u))
    (ih2 : ∀ u : World, w.grownBy u none → Calls Tryz.prog 44 #[.agg #[.int .u8 a3, .int .u8 b3, .slice A3 k3 c3]] u (STxtPost r u)) :
    Calls Tryz.prog 44 #[.agg #[.int .u8 a, .int .u8 b, .slice A 2 c]] w (STxtPost t w) := by
  have wa2 : IntKind.u8.wrap (a + 2) = a + 2 := by rcases ha with rfl | rfl <;> rfl
  obtain ⟨-, -, hrow⟩ := srow3 (xs := [(a2, b2, .slice A2 k2 c2), (a3, b3, .slice A3 k3 c3)]) ho
  obtain ⟨g, rfl, hg1, hcell⟩ := hrow (by omega)
  obtain ⟨q0, q1, q2⟩ := hcell 0 _ rfl
  obtain ⟨q3, q4, q5⟩ := hcell 1 _ rfl
  simp only [Nat.zero_mul, Nat.zero_add, Nat.one_mul] at q0 q1 q2 q3 q4 q5
  have HX := Lib.hid (c3_new w (.int .u8 a) (.int .u8 b) (.slice (some ⟨g, 0, none⟩) 2 c) 52)
  have x0 := HX.out.c0
  have x1 := HX.out.c1
  have x2 := HX.out.c2
  have x0b := (HX.out.alloc (.cells #[.int .u8 a] 5)).c0
  have x1b := (HX.out.alloc (.cells #[.int .u8 a] 5)).c1
  have x2b := (HX.out.alloc (.cells #[.int .u8 a] 5)).c2
  have HTX := Lib.hid ht
  have hcv := conv_byte (w.alloc (.cells #[.int .u8 a, .int .u8 b, .slice (some ⟨g, 0, none⟩) 2 c] 52)) a (w.heap.size + 1) (by simp)
  have HG := Lib.hid (gr_al (gr_al (gr_refl w none) (.cells #[.int .u8 a, .int .u8 b, .slice (some ⟨g, 0, none⟩) 2 c] 52)) (.cells #[.int .u8 a] 5))
  have h0 := HG.out.cell q0 (by simp)
  have h1 := HG.out.cell q1 (by simp)
  have h2 := HG.out.cell q2 (by simp)
  have h3 := HG.out.cell q3 (by simp)
  have h4 := HG.out.cell q4 (by simp)
  have h5 := HG.out.cell q5 (by simp)
  obtain ⟨X, hX⟩ : ∃ X, bytesOf s.txt = X := ⟨_, rfl⟩
  obtain ⟨Y, hY⟩ : ∃ Y, bytesOf r.txt = Y := ⟨_, rfl⟩
  have hXs : X.size ≤ 1000000 := by rw [← hX, bytesOf_size]; rw [ht] at hl; simp at hl; omega
  have hYs : Y.size ≤ 1000000 := by rw [← hY, bytesOf_size]; rw [ht] at hl; simp at hl; omega
  have HI1 : Hid (∀ (v u : World), w.grownBy v none → v.grownBy u none → Calls Tryz.prog 44 #[.agg #[.int .u8 a2, .int .u8 b2, .slice A2 k2 c2]] u (STxtPost2 X v u)) :=
    Lib.hid (fun v u hv hu => (ih1 u (hv.trans hu)).mono fun e w' ⟨he, hg⟩ => ⟨by rw [he, hX], hu.trans hg, hg⟩)
  have HI2 : Hid (∀ (v u : World), w.grownBy v none → v.grownBy u none → Calls Tryz.prog 44 #[.agg #[.int .u8 a3, .int .u8 b3, .slice A3 k3 c3]] u (STxtPost2 Y v u)) :=
    Lib.hid (fun v u hv hu => (ih2 u (hv.trans hu)).mono fun e w' ⟨he, hg⟩ => ⟨by rw [he, hY], hu.trans hg, hg⟩)
  have hoa : (one a).size ≤ 1 := by rw [one_size]; exact Nat.le_refl _
  have hob : (one b).size ≤ 1 := by rw [one_size]; exact Nat.le_refl _
  have hoc : (one (a + 2)).size ≤ 1 := by rw [one_size]; exact Nat.le_refl _
  have HXE := Lib.hid hX
  have HYE := Lib.hid hY
  clear ht hcell hrow ho ih1 ih2 q0 q1 q2 q3 q4 q5 hX hY hl ha
  go_enter Tryz.func44, Tryz.ntmps44
  go_wp2_with fail
  have hbz : w.heap.size < ((w.alloc (.cells #[.int .u8 a, .int .u8 b, .slice (some ⟨g, 0, none⟩) 2 c] 52)).alloc (.cells #[.int .u8 a] 5)).heap.size := by simp; omega
  have hgz : g < ((w.alloc (.cells #[.int .u8 a, .int .u8 b, .slice (some ⟨g, 0, none⟩) 2 c] 52)).alloc (.cells #[.int .u8 a] 5)).heap.size := by simp; omega
  clear x0 x1 x2 hcv
  obtain ⟨s1, hs1⟩ : ∃ s1 : ByteArray, one a ++ one b = s1 := ⟨_, rfl⟩
  obtain ⟨s2, hs2⟩ : ∃ s2 : ByteArray, s1 ++ { data := #[58] } = s2 := ⟨_, rfl⟩
  obtain ⟨s3, hs3⟩ : ∃ s3 : ByteArray, s2 ++ X = s3 := ⟨_, rfl⟩
  obtain ⟨s4, hs4⟩ : ∃ s4 : ByteArray, s3 ++ { data := #[62] } = s4 := ⟨_, rfl⟩
  obtain ⟨s5, hs5⟩ : ∃ s5 : ByteArray, s4 ++ Y = s5 := ⟨_, rfl⟩
  obtain ⟨s6, hs6⟩ : ∃ s6 : ByteArray, s5 ++ one (a + 2) = s6 := ⟨_, rfl⟩
  have z1 : s1.size ≤ 1 + 1 := by rw [← hs1]; exact stxt_size2 hoa hob
  have z2 : s2.size ≤ 1 + 1 + 1 := by rw [← hs2]; exact stxt_size2 z1 (by decide)
  have z3 : s3.size ≤ 1 + 1 + 1 + 1000000 := by rw [← hs3]; exact stxt_size2 z2 hXs
  have z4 : s4.size ≤ 1 + 1 + 1 + 1000000 + 1 := by rw [← hs4]; exact stxt_size2 z3 (by decide)
  have z5 : s5.size ≤ 1 + 1 + 1 + 1000000 + 1 + 1000000 := by rw [← hs5]; exact stxt_size2 z4 hYs
  have hd1 := fun u => str_add (one b) (one a) s1 hs1 (by omega) u
  have hd2 := fun u => str_add { data := #[58] } s1 s2 hs2 (by have : ({ data := #[58] } : ByteArray).size = 1 := rfl; omega) u
  have hd3 := fun u => str_add X s2 s3 hs3 (by omega) u
  have hd4 := fun u => str_add { data := #[62] } s3 s4 hs4 (by have : ({ data := #[62] } : ByteArray).size = 1 := rfl; omega) u
  have hd5 := fun u => str_add Y s4 s5 hs5 (by omega) u
  have hd6 := fun u => str_add (one (a + 2)) s5 s6 hs6 (by omega) u
  have HS6 : Hid (s6 = (((((one a ++ one b) ++ { data := #[58] }) ++ X) ++ { data := #[62] }) ++ Y) ++ one (a + 2)) := Lib.hid (by rw [hs1, hs2, hs3, hs4, hs5, hs6])
  clear hs1 hs2 hs3 hs4 hs5 hs6 z1 z2 z3 z4 z5 hXs hYs hoa hob hoc
  generalize (w.alloc (.cells #[.int .u8 a, .int .u8 b, .slice (some ⟨g, 0, none⟩) 2 c] 52)).alloc (.cells #[.int .u8 a] 5) = u at HG x0b x1b x2b h0 h1 h2 h3 h4 h5 hbz hgz ⊢
  have HX0 := Lib.hid x0b
  have HX1 := Lib.hid x1b
  have HX2 := Lib.hid x2b
  have HH0 := Lib.hid h0
  have HH1 := Lib.hid h1
  have HH2 := Lib.hid h2
  have HH3 := Lib.hid h3
  have HH4 := Lib.hid h4
  have HH5 := Lib.hid h5
  clear x0b x1b x2b h0 h1 h2 h3 h4 h5
  --REGION
  refine wp_region_steps (u := u) 74 rfl (by kernel_rfl) (lR w.heap.size g a b a2 b2 a3 b3 A2 A3 c k2 c2 k3 c3 X Y s1 s2 s3 s4 s5 s6) (by kernel_rfl) ?_ ?_ ?_ u (gr_drewN u 1 none)
  · intro i v w w' h hg
    unfold lR at h ⊢
    split at h
    · rename_i hi; simp only [hi, if_true]; exact h.grown hg
    · rename_i h3'
      rw [if_neg h3']
      split at h
      · rename_i hi; simp only [hi, if_true]; exact h.grown hg
      · rename_i h23'; rw [if_neg h23']; exact h
  · intro a' w' hdf hgr hfar hall
    have e2 : a'.tmps.getD 2 undef = .string s6 := hall 26 _ 2 rfl rfl
    have e2' : a'.tmps[2]?.getD undef = .string s6 := by rw [← e2]; simp
    go_wp2_with fail
    refine bodyPost_ret (v := .string s6) (by simp [results, Tryz.results44, go_sem, e2']) hdf ?_
    refine ⟨?_, HG.out.trans hgr⟩
    rw [HTX.out, bytesOf_cons, bytesOf_cons, show (58 : UInt8) = byt 58 from rfl, bytesOf_cons, bytesOf_app, show (62 : UInt8) = byt 62 from rfl, bytesOf_cons, bytesOf_app, bytesOf_one, HXE.out, HYE.out, HS6.out]
    simp only [ByteArray.append_assoc]
    rfl
  refine ⟨?_, ?_, ?_, ?_, ?_, ?_, ?_, ?_, ?_, ?_, ?_, ?_, ?_, ?_, ?_, ?_, ?_, ?_, ?_, ?_, ?_, ?_, ?_, ?_, ?_, ?_, ?_, trivial⟩
  · intro a' w' hdf hgr hfar hdep
    have e3 : a'.tmps.getD 3 undef = .string (one a) := hfar 3 (by kernel_rfl)
    go_simp
    exact ⟨_, rfl, gr_refl _ _, rfl⟩
  · intro a' w' hdf hgr hfar hdep
    have e1 : a'.tmps.getD 1 undef = .pointer (some ⟨w.heap.size, 0, none⟩) := hfar 1 (by kernel_rfl)
    go_simp
    exact ⟨_, rfl, gr_refl _ _, rfl⟩
  · intro a' w' hdf hgr hfar hdep
    have e34 : a'.tmps.getD 34 undef = .pointer (some ⟨w.heap.size, 1, none⟩) := hdep 1 _ 34 (by kernel_rfl) rfl rfl
    have f1 := hgr.cell HX1.out (by simp)
    go_simp
    exact ⟨_, rfl, gr_refl _ _, rfl⟩
  · intro a' w' hdf hgr hfar hdep
    have e35 : a'.tmps.getD 35 undef = .int .u8 b := hdep 2 _ 35 (by kernel_rfl) rfl rfl
    have e35' : a'.tmps[35]?.getD undef = .int .u8 b := by rw [← e35]; simp
    go_simp
    exact ⟨_, rfl, World.grownBy_alloc _ _ _, ⟨_, rfl, cell_of_row _ _ 0 _ _ (0, 0) (heap_alloc_new _ _)⟩⟩
  · intro a' w' hdf hgr hfar hdep
    obtain ⟨kk, hk, hc⟩ : OneB (a'.tmps.getD 36 undef) w' (b) := hdep 3 _ 36 (by kernel_rfl) rfl rfl
    have hcv := conv_oneb hc
    go_simp
    exact ⟨_, rfl, gr_refl _ _, rfl⟩
  · intro a' w' hdf hgr hfar hdep
    have e33 : a'.tmps.getD 33 undef = .string (one a) := hdep 0 _ 33 (by kernel_rfl) rfl rfl
    have e37 : a'.tmps.getD 37 undef = .string (one b) := hdep 4 _ 37 (by kernel_rfl) rfl rfl
    go_simp
    exact ⟨_, rfl, gr_refl _ _, rfl⟩
  · intro a' w' hdf hgr hfar hdep
    have e38 : a'.tmps.getD 38 undef = .string s1 := hdep 5 _ 38 (by kernel_rfl) rfl rfl
    go_simp
    exact ⟨_, rfl, gr_refl _ _, rfl⟩
  · intro a' w' hdf hgr hfar hdep
    have e1 : a'.tmps.getD 1 undef = .pointer (some ⟨w.heap.size, 0, none⟩) := hfar 1 (by kernel_rfl)
    go_simp
    exact ⟨_, rfl, gr_refl _ _, rfl⟩
  · intro a' w' hdf hgr hfar hdep
    have e40 : a'.tmps.getD 40 undef = .pointer (some ⟨w.heap.size, 2, none⟩) := hdep 7 _ 40 (by kernel_rfl) rfl rfl
    have f2 := hgr.cell HX2.out (by simp)
    go_simp
    exact ⟨_, rfl, gr_refl _ _, rfl⟩
  · intro a' w' hdf hgr hfar hdep
    have e41 : a'.tmps.getD 41 undef = .slice (some ⟨g, 0, none⟩) 2 c := hdep 8 _ 41 (by kernel_rfl) rfl rfl
    go_simp
    exact ⟨_, rfl, gr_refl _ _, rfl⟩
  · intro a' w' hdf hgr hfar hdep
    have e42 : a'.tmps.getD 42 undef = .pointer (some ⟨g, 0, none⟩) := hdep 9 _ 42 (by kernel_rfl) rfl rfl
    have r0 := hgr.cell HH0.out (by simp)
    have r1 := hgr.cell HH1.out (by simp)
    have r2 := hgr.cell HH2.out (by simp)
    go_simp
    exact ⟨_, rfl, gr_refl _ _, rfl⟩
  · intro a' w' hdf hgr hfar hdep
    have e43 : a'.tmps.getD 43 undef = .agg #[.int .u8 a2, .int .u8 b2, .slice A2 k2 c2] := hdep 10 _ 43 (by kernel_rfl) rfl rfl
    go_simp
    refine (HI1.out u w' HG.out hgr).mono ?_
    rintro e w2 ⟨rfl, _, hg2⟩
    exact ⟨_, rfl, hg2, rfl⟩
  · intro a' w' hdf hgr hfar hdep
    have e39 : a'.tmps.getD 39 undef = .string s2 := hdep 6 _ 39 (by kernel_rfl) rfl rfl
    have e44 : a'.tmps.getD 44 undef = .string X := hdep 11 _ 44 (by kernel_rfl) rfl rfl
    go_simp
    exact ⟨_, rfl, gr_refl _ _, rfl⟩
  · intro a' w' hdf hgr hfar hdep
    have e45 : a'.tmps.getD 45 undef = .string s3 := hdep 12 _ 45 (by kernel_rfl) rfl rfl
    go_simp
    exact ⟨_, rfl, gr_refl _ _, rfl⟩
  · intro a' w' hdf hgr hfar hdep
    have e1 : a'.tmps.getD 1 undef = .pointer (some ⟨w.heap.size, 0, none⟩) := hfar 1 (by kernel_rfl)
    go_simp
    exact ⟨_, rfl, gr_refl _ _, rfl⟩
  · intro a' w' hdf hgr hfar hdep
    have e47 : a'.tmps.getD 47 undef = .pointer (some ⟨w.heap.size, 2, none⟩) := hdep 14 _ 47 (by kernel_rfl) rfl rfl
    have f2 := hgr.cell HX2.out (by simp)
    go_simp
    exact ⟨_, rfl, gr_refl _ _, rfl⟩
  · intro a' w' hdf hgr hfar hdep
    have e48 : a'.tmps.getD 48 undef = .slice (some ⟨g, 0, none⟩) 2 c := hdep 15 _ 48 (by kernel_rfl) rfl rfl
    go_simp
    exact ⟨_, rfl, gr_refl _ _, rfl⟩
  · intro a' w' hdf hgr hfar hdep
    have e49 : a'.tmps.getD 49 undef = .pointer (some ⟨g, 3, none⟩) := hdep 16 _ 49 (by kernel_rfl) rfl rfl
    have r3 := hgr.cell HH3.out (by simp)
    have r4 := hgr.cell HH4.out (by simp)
    have r5 := hgr.cell HH5.out (by simp)
    go_simp
    exact ⟨_, rfl, gr_refl _ _, rfl⟩
  · intro a' w' hdf hgr hfar hdep
    have e50 : a'.tmps.getD 50 undef = .agg #[.int .u8 a3, .int .u8 b3, .slice A3 k3 c3] := hdep 17 _ 50 (by kernel_rfl) rfl rfl
    go_simp
    refine (HI2.out u w' HG.out hgr).mono ?_
    rintro e w2 ⟨rfl, _, hg2⟩
    exact ⟨_, rfl, hg2, rfl⟩
  · intro a' w' hdf hgr hfar hdep
    have e46 : a'.tmps.getD 46 undef = .string s4 := hdep 13 _ 46 (by kernel_rfl) rfl rfl
    have e51 : a'.tmps.getD 51 undef = .string Y := hdep 18 _ 51 (by kernel_rfl) rfl rfl
    go_simp
    exact ⟨_, rfl, gr_refl _ _, rfl⟩
  · intro a' w' hdf hgr hfar hdep
    have e1 : a'.tmps.getD 1 undef = .pointer (some ⟨w.heap.size, 0, none⟩) := hfar 1 (by kernel_rfl)
    go_simp
    exact ⟨_, rfl, gr_refl _ _, rfl⟩
  · intro a' w' hdf hgr hfar hdep
    have e53 : a'.tmps.getD 53 undef = .pointer (some ⟨w.heap.size, 0, none⟩) := hdep 20 _ 53 (by kernel_rfl) rfl rfl
    have f0 := hgr.cell HX0.out (by simp)
    go_simp
    exact ⟨_, rfl, gr_refl _ _, rfl⟩
  · intro a' w' hdf hgr hfar hdep
    have e54 : a'.tmps.getD 54 undef = .int .u8 a := hdep 21 _ 54 (by kernel_rfl) rfl rfl
    go_simp
    exact ⟨_, rfl, gr_refl _ _, rfl⟩
  · intro a' w' hdf hgr hfar hdep
    have e55 : a'.tmps.getD 55 undef = .int .u8 (a + 2) := hdep 22 _ 55 (by kernel_rfl) rfl rfl
    have e55' : a'.tmps[55]?.getD undef = .int .u8 (a + 2) := by rw [← e55]; simp
    go_simp
    exact ⟨_, rfl, World.grownBy_alloc _ _ _, ⟨_, rfl, cell_of_row _ _ 0 _ _ (0, 0) (heap_alloc_new _ _)⟩⟩
  · intro a' w' hdf hgr hfar hdep
    obtain ⟨kk, hk, hc⟩ : OneB (a'.tmps.getD 56 undef) w' (a + 2) := hdep 23 _ 56 (by kernel_rfl) rfl rfl
    have hcv := conv_oneb hc
    go_simp
    exact ⟨_, rfl, gr_refl _ _, rfl⟩
  · intro a' w' hdf hgr hfar hdep
    have e52 : a'.tmps.getD 52 undef = .string s5 := hdep 19 _ 52 (by kernel_rfl) rfl rfl
    have e57 : a'.tmps.getD 57 undef = .string (one (a + 2)) := hdep 24 _ 57 (by kernel_rfl) rfl rfl
    go_simp
    exact ⟨_, rfl, gr_refl _ _, rfl⟩
  · intro a' w' hdf hgr hfar hdep
    have e58 : a'.tmps.getD 58 undef = .string s6 := hdep 25 _ 58 (by kernel_rfl) rfl rfl
    go_simp
    exact ⟨_, rfl, gr_refl _ _, rfl⟩
end

section
open Go.RowKit

theorem stxt_any : ∀ (t : Tm) (S : Nat → Prop) (a b : Int) (A : Option Addr) (k c : Nat) (w : World), t.Ok → t.txt.length ≤ 1000000 → SN w S t (a, b, .slice A k c) →
    Calls Tryz.prog 44 #[.agg #[.int .u8 a, .int .u8 b, .slice A k c]] w (STxtPost t w)
  | .dig d, S, a, b, A, k, c, w, _, _, h => by
    obtain ⟨_, h2, ho, _⟩ := h
    simp only at h2 ho
    subst h2
    obtain rfl := own_len ho
    exact stxt_leaf _ a b A c w rfl
  | .var d, S, a, b, A, k, c, w, _, _, h => by
    obtain ⟨_, h2, ho, _⟩ := h
    simp only at h2 ho
    subst h2
    obtain rfl := own_len ho
    exact stxt_leaf _ a b A c w rfl
  | .pre d s, S, a, b, A, k, c, w, hok, hl, h => by
    obtain ⟨h1, h2, ⟨y1, y2, y3⟩, ho, _, hs⟩ := h
    simp only at h1 h2 ho
    subst h1; subst h2
    obtain rfl := own_len ho
    obtain ⟨A2, k2, c2, hsv⟩ := hs.form
    simp only at hsv
    subst hsv
    have hl2 : s.txt.length ≤ 1000000 := by simp only [Tm.txt, List.length_cons] at hl; omega
    exact stxt_pre _ s a 0 y1 y2 A A2 c k2 c2 w rfl hl2 ho (fun u hg => (stxt_any s S y1 y2 A2 k2 c2 u hok.2 hl2 (hs.grown hg)))
  | .two d s t, S, a, b, A, k, c, w, hok, hl, h => by
    obtain ⟨h1, h2, ⟨y1, y2, y3⟩, ⟨z1, z2, z3⟩, ho, _, hs, ht⟩ := h
    simp only at h1 h2 ho
    subst h1; subst h2
    obtain rfl := own_len ho
    obtain ⟨A2, k2, c2, hsv⟩ := hs.form
    obtain ⟨A3, k3, c3, htv⟩ := ht.form
    simp only at hsv htv
    subst hsv; subst htv
    have hl2 : s.txt.length ≤ 1000000 ∧ t.txt.length ≤ 1000000 := by simp only [Tm.txt, List.length_cons, List.length_append] at hl; omega
    exact stxt_two _ s t a y1 y2 z1 z2 A A2 A3 c k2 c2 k3 c3 w rfl hl ho (fun u hg => stxt_any s S y1 y2 A2 k2 c2 u hok.2.1 hl2.1 (hs.grown hg)) (fun u hg => stxt_any t S z1 z2 A3 k3 c3 u hok.2.2 hl2.2 (ht.grown hg))
  | .loop d i s t, S, a, b, A, k, c, w, hok, hl, h => by
    obtain ⟨h1, h2, ⟨y1, y2, y3⟩, ⟨z1, z2, z3⟩, ho, _, hs, ht⟩ := h
    simp only at h1 h2 ho
    subst h1; subst h2
    obtain rfl := own_len ho
    obtain ⟨A2, k2, c2, hsv⟩ := hs.form
    obtain ⟨A3, k3, c3, htv⟩ := ht.form
    simp only at hsv htv
    subst hsv; subst htv
    have hl2 : s.txt.length ≤ 1000000 ∧ t.txt.length ≤ 1000000 := by simp only [Tm.txt, List.length_cons, List.length_append] at hl; omega
    have hi := isL_ge hok.2.1
    exact stxt_loop _ s t a b y1 y2 z1 z2 A A2 A3 c k2 c2 k3 c3 w hok.1 (by rw [bne_iff_ne]; omega) rfl hl ho (fun u hg => stxt_any s S y1 y2 A2 k2 c2 u hok.2.2.1 hl2.1 (hs.grown hg)) (fun u hg => stxt_any t S z1 z2 A3 k3 c3 u hok.2.2.2 hl2.2 (ht.grown hg))
end
end

end Go.Proofs.YtohdlnkkchijnaaGreatDoor
