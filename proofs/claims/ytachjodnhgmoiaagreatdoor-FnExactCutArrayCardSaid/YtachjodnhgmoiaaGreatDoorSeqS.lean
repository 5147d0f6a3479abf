/- Ranges over functions where the order of what comes is not known (keys of a map): the contract of an iterator, and the law of the loop. Nothing of the program. -/
import Derived.RangeFuncNested
import Derived.RangeFuncBound
import Derived.RangeFuncCalls
import Derived.RangeFuncLeaves
import Derived.Shelf.Abstract
import Derived.Shelf.RegionOpen
import Derived.WalkKit
import Derived.OwnWalkIn
import Derived.TacticsInMore
import Derived.LoopNIn
import Derived.LoopIn
import Derived.Test.YtachjodnhgmoiaaGreatDoorOwn
namespace Go.Proofs.YtachjodnhgmoiaaGreatDoor
section
open Go.RowKit

/-- Whatever is no cells of these types lies as it lay. -/
structure KeepsX (X : TypeId → Prop) (W W' : World) : Prop where
  size : W.heap.size ≤ W'.heap.size
  same : ∀ (k : Nat) (o : Obj), W.heap[k]? = some o → (∀ xs t m, o = .cells xs t m → ¬ X t) → W'.heap[k]? = some o

theorem KeepsX.refl (X : TypeId → Prop) (W : World) : KeepsX X W W := ⟨Nat.le_refl _, fun _ _ h _ => h⟩
theorem KeepsX.trans {X : TypeId → Prop} {A B C : World} (h : KeepsX X A B) (k : KeepsX X B C) : KeepsX X A C :=
  ⟨Nat.le_trans h.size k.size, fun i o hi ho => k.same i o (h.same i o hi ho) ho⟩
theorem not_cells_spares {o : Obj} (h : o.isCells = false) (X : TypeId → Prop) : ∀ xs t m, o = .cells xs t m → ¬ X t := fun xs t m e => by subst e; cases h
theorem KeepsX.from {X : TypeId → Prop} {W W' : World} (h : KeepsX X W W') (B : Nat) : KeepsFrom B W W' :=
  ⟨h.size, fun k o _ hk ho => h.same k o hk (not_cells_spares ho X)⟩
theorem KeepsX.grown {X : TypeId → Prop} {W W' : World} (h : W.grownBy W' none) : KeepsX X W W' :=
  ⟨h.size, fun k o hk _ => (h.block k (Array.getElem?_eq_some_iff.1 hk).1 (fun e => by cases e)).trans hk⟩
theorem KeepsX.alloc {X : TypeId → Prop} (W : World) (o : Obj) : KeepsX X W (W.alloc o) := KeepsX.grown (World.grownBy_alloc W o none)
/-- A step that turns one block of such cells. -/
theorem KeepsX.grownX {X : TypeId → Prop} {W W' : World} {g : Nat} {xs : Array Value} {t : TypeId} {m : Nat × Nat} (h : W.grownBy W' (some g)) (hg : W.heap[g]? = some (.cells xs t m)) (ht : X t) : KeepsX X W W' :=
  ⟨h.size, fun k o hk ho => (h.block k (Array.getElem?_eq_some_iff.1 hk).1 (fun e => by cases e; rw [hg] at hk; cases hk; exact ho _ _ _ rfl ht)).trans hk⟩
theorem KeepsX.cell {X : TypeId → Prop} {W W' : World} (h : KeepsX X W W') {b : Nat} {v : Value} {t : TypeId} {m : Nat × Nat} (hb : W.heap[b]? = some (.cells #[v] t m)) (ht : ¬ X t) : W'.heap[b]? = some (.cells #[v] t m) :=
  h.same b _ hb (fun xs t' m' e => by cases e; exact ht)
theorem ownFrom_keepsX {β : Type} (X : TypeId → Prop) (W0 : World) {B : Nat} (hB : W0.heap.size ≤ B) : OwnFrom B (fun (_ : β) W => KeepsX X W0 W) := fun s A C row hs hg hr =>
  ⟨Nat.le_trans hs.size hg.size, fun k o hk ho => (hg.block k (Nat.lt_of_lt_of_le (Array.getElem?_eq_some_iff.1 hk).1 hs.size) (fun e => by
    have h1 := (hr k e.symm).1
    have h2 := (Array.getElem?_eq_some_iff.1 hk).1
    omega)).trans (hs.same k o hk ho)⟩
theorem OwnFrom.mono' {β : Type} {B B' : Nat} {I : β → World → Prop} (h : OwnFrom B I) (hB : B ≤ B') : OwnFrom B' I := fun s W W' row hs hg hr =>
  h s W W' row hs hg (fun r e => ⟨Nat.le_trans hB (hr r e).1, (hr r e).2⟩)
/-- A round: the loop's record is busy meanwhile, and ready again. -/
theorem KeepsX.round {X : TypeId → Prop} {W W3 : World} {l : Nat} {o o2 : Obj} (hl : W.heap[l]? = some o) (h : KeepsX X (W.putObj l o2) W3) : KeepsX X W (W3.putObj l o) := by
  have hlt := (Array.getElem?_eq_some_iff.1 hl).1
  refine ⟨by simpa using h.size, fun k o' hk ho => ?_⟩
  by_cases e : k = l
  · subst e
    rw [hl] at hk
    cases hk
    exact World.putObj_heap_same (Nat.lt_of_lt_of_le (by simpa using hlt) h.size)
  · rw [World.putObj_heap_other e]
    exact h.same k o' (by rw [World.putObj_heap_other e]; exact hk) ho

/-- **An iterator's contract**: these numbers come, one by one, or a round has said 'no more'. -/
def SeqOwn (X : TypeId → Prop) (P : Program) (g : Nat) (lb : Array Value) (zs : List Int) (w : World) : Prop :=
  ∀ (n l : Nat) (J Jx : List Int → World → Prop) (W : World), KeepsX X w W → OwnFrom W.heap.size J → OwnFrom W.heap.size Jx →
    (∀ m pre x W1, J pre W1 → pre.length < zs.length → YieldAt Fence.wide m P l #[.int .i64 x] W1 fun e W' =>
      (e = .returned (.bool true) ∧ J (pre ++ [x]) W' ∧ KeepsX X W1 W') ∨ (e = .returned (.bool false) ∧ Jx (pre ++ [x]) W' ∧ KeepsFrom W.heap.size W1 W')) →
    J [] W →
    CallsIn Fence.wide n P g (#[.func (.yield l) #[] #[]] ++ lb) W fun e W' => (∃ v, e = .returned v) ∧ (J zs W' ∨ ∃ pre, pre <+: zs ∧ Jx pre W')

/-- How the body of a round may be left. -/
def rangeEnd (X : TypeId → Prop) (B : Nat) (I Ix : List Int → World → Prop) (xs : List Int) (W : World) : Exit → Act → World → Prop
  | .normal, _, W' => KeepsX X W W' ∧ I xs W'
  | .ret, _, W' => KeepsFrom B W W' ∧ Ix xs W'
  | _, _, _ => False

/-- The mark of a loop. -/
def mark (D : Nat) : Deferred := { target := .collected D, args := #[] }

theorem range_own {P : Program} {g : Operand} {p : Tmp} {assign body : Code} {Q : Exit → Act → World → Prop} {a : Act} {w : World} {n : Nat} {X : TypeId → Prop}
    {gf : Nat} {lb : Array Value} (hg : a.eval g = .func (.func gf) #[] lb) (eg : ∀ args w, (callFunc gf args).run P w = .ok (.enter gf args) w)
    {zs : List Int} (hseq : SeqOwn X P gf lb zs w) (I Ix : List Int → World → Prop) (hI : OwnFrom w.heap.size I) (hIx : OwnFrom w.heap.size Ix) (h0 : I [] w) (a₁ : Int → Act)
    (hassign : ∀ (l m : Nat) (x : Int) (W : World) (K : Act → World → Prop), K (a₁ x) W →
      assign.wpIn (Fence.wide.inRound l) m P (Exit.then K (fun _ _ _ => False)) { tmps := a.tmps.setIfInBounds p (.int .i64 x), defers := [] } W)
    (hbody : ∀ (l m : Nat) (pre : List Int) (x : Int) (W : World), I pre W → pre.length < zs.length → body.wpIn (Fence.wide.inRound l) m P (rangeEnd X w.heap.size I Ix (pre ++ [x]) W) (a₁ x) W)
    (hdone : ∀ (D : Nat) (W : World), w.heap.size ≤ D → I zs W → W.heap[D]? = some (.deferred (some [])) → Q .normal { a with defers := mark D :: a.defers } W)
    (hstop : ∀ (D : Nat) (pre : List Int) (W : World), w.heap.size ≤ D → pre <+: zs → Ix pre W → W.heap[D]? = some (.deferred (some [])) → Code.ret.wpIn Fence.wide n P Q { a with defers := mark D :: a.defers } W) :
    (Code.rangeFunc g #[p] assign body).wpIn Fence.wide n P Q a w := by
  refine wpIn_rangeFunc ?_
  intro fn hfn
  obtain ⟨R, hR⟩ : ∃ R : LoopState → Option Code → Loop, R = fun st pe => { state := st, pending := pe, fn, tmps := a.tmps, params := #[p], assign, body, defers := w.heap.size } := ⟨_, rfl⟩
  obtain ⟨V, hV⟩ : ∃ V, (w.alloc (.deferred (some []))).alloc (.loop (R .ready none)) = V := ⟨_, rfl⟩
  have vs : V.heap.size = w.heap.size + 2 := by rw [← hV]; simp
  have vg : w.grownBy V none := by rw [← hV]; exact (World.grownBy_alloc _ _ _).trans (World.grownBy_alloc _ _ _)
  have vl : V.heap[w.heap.size + 1]? = some (.loop (R .ready none)) := by
    have h1 := World.alloc_heap_new (w.alloc (.deferred (some []))) (.loop (R .ready none))
    rw [World.size_alloc] at h1
    rw [← hV]; exact h1
  have vd : V.heap[w.heap.size]? = some (.deferred (some [])) := by
    rw [← hV]; exact (Below.heap_alloc _ _ _ (by simp)).trans (World.alloc_heap_new w _)
  refine ⟨w.heap.size + 1, [mark w.heap.size], V, { target := .fn (.func gf) lb, args := #[.func (.yield (w.heap.size + 1)) #[] #[]] }, V, gf, #[.func (.yield (w.heap.size + 1)) #[] #[]] ++ lb, V, ?_, ?_, ?_, ?_, ?_, ?_⟩
  · rw [← hV, hR]; exact run_enterLoop_outer _ _ _ _ _
  · simp only [resolve, hg]
    simp [go_sem]
  · intro _ _; trivial
  · simp [invoke, go_sem, eg]
  · intro h; cases h
  · -- what stands beside the invariant: the loop's record and the block of its mark
    have side : ∀ (st : LoopState) (pe : Option Code) (A B : World) (row : Option Nat), A.grownBy B row → (∀ r, row = some r → V.heap.size ≤ r ∧ ∃ o : Obj, A.heap[r]? = some o ∧ o.isCells = false) →
        A.heap[w.heap.size + 1]? = some (.loop (R st pe)) ∧ A.heap[w.heap.size]? = some (.deferred (some [])) → B.heap[w.heap.size + 1]? = some (.loop (R st pe)) ∧ B.heap[w.heap.size]? = some (.deferred (some [])) := fun st pe A B row hg' hr hs =>
      ⟨(hg'.block _ (Array.getElem?_eq_some_iff.1 hs.1).1 (fun e => by have := (hr _ e.symm).1; omega)).trans hs.1,
       (hg'.block _ (Array.getElem?_eq_some_iff.1 hs.2).1 (fun e => by have := (hr _ e.symm).1; omega)).trans hs.2⟩
    have hI2 : OwnFrom V.heap.size (fun pre W => I pre W ∧ W.heap[w.heap.size + 1]? = some (.loop (R .ready none)) ∧ W.heap[w.heap.size]? = some (.deferred (some []))) := fun s A B row hs hg' hr =>
      ⟨hI s A B row hs.1 hg' (fun r e => ⟨by have := (hr r e).1; omega, (hr r e).2⟩), side _ _ A B row hg' hr hs.2⟩
    have hIx2 : OwnFrom V.heap.size (fun pre W => Ix pre W ∧ W.heap[w.heap.size + 1]? = some (.loop (R .done (some .ret))) ∧ W.heap[w.heap.size]? = some (.deferred (some []))) := fun s A B row hs hg' hr =>
      ⟨hIx s A B row hs.1 hg' (fun r e => ⟨by have := (hr r e).1; omega, (hr r e).2⟩), side _ _ A B row hg' hr hs.2⟩
    refine (hseq _ (w.heap.size + 1) _ _ V (KeepsX.grown vg) hI2 hIx2 ?_ ⟨hI [] w V none h0 vg (fun r e => by cases e), vl, vd⟩).mono ?_
    · rintro m pre x W ⟨hi, hl, hk⟩ hlen
      have hlt : w.heap.size + 1 < W.heap.size := (Array.getElem?_eq_some_iff.1 hl).1
      have hy := run_yield (P := P) (args := #[.int .i64 x]) hl (by rw [hR]; rfl)
      rw [hR] at hy
      have hz : ((#[p] : Array Tmp).zip #[Value.int .i64 x]).foldl (fun t (q, v) => t.setIfInBounds q v) a.tmps = a.tmps.setIfInBounds p (.int .i64 x) := by simp
      refine ⟨fn, _, assign, body, hy, roundIn_of_wpIn hfn ?_⟩
      show assign.wpIn _ _ P _ { tmps := ((#[p] : Array Tmp).zip #[Value.int .i64 x]).foldl (fun t (q, v) => t.setIfInBounds q v) a.tmps, defers := [] } W
      rw [hz]
      refine hassign _ _ x W _ ⟨_, run_beginRound hl (by rw [hR]), ?_⟩
      obtain ⟨Wb, hWb⟩ : ∃ Wb, W.putObj (w.heap.size + 1) (.loop { R .ready none with state := .busy }) = Wb := ⟨_, rfl⟩
      have hlb : Wb.heap[w.heap.size + 1]? = some (.loop { R .ready none with state := .busy }) := by rw [← hWb]; exact World.putObj_heap_same hlt
      have hkb : Wb.heap[w.heap.size]? = some (.deferred (some [])) := by rw [← hWb]; exact (World.putObj_heap_other (by omega)).trans hk
      have hib : I pre Wb := by rw [← hWb]; exact hI.putObj _ hi (by omega) hl rfl
      rw [hWb]
      refine wpIn_mono (hbody _ _ pre x Wb hib hlen) ?_
      have last : ∀ (jump : Option Code) (W3 : World), KeepsFrom w.heap.size Wb W3 →
          (Instr.endRound (w.heap.size + 1) jump).run P W3 = .ok (.bool jump.isNone) (W3.putObj (w.heap.size + 1) (.loop (R (if jump.isNone then .ready else .done) jump))) ∧
          W3.heap[w.heap.size + 1]? = some (.loop { R .ready none with state := .busy }) ∧ W3.heap[w.heap.size]? = some (.deferred (some [])) := fun jump W3 hk3 => by
        have h3 := hk3.same _ _ (by omega) hlb rfl
        have h4 := run_endRound (P := P) jump h3
        refine ⟨?_, h3, hk3.same _ _ (Nat.le_refl _) hkb rfl⟩
        rw [h4, hR]
      rintro e a3 W3 hp
      cases e with
      | normal =>
        obtain ⟨hk3, hi3⟩ := hp
        obtain ⟨hr, hl3, hd3⟩ := last none W3 (hk3.from _)
        have hlt3 := (Array.getElem?_eq_some_iff.1 hl3).1
        refine ⟨_, _, hr, .inl ⟨rfl, ⟨hI.putObj _ hi3 (by omega) hl3 rfl, World.putObj_heap_same hlt3, (World.putObj_heap_other (by omega)).trans hd3⟩, ?_⟩⟩
        rw [← hWb] at hk3
        exact KeepsX.round hl hk3
      | ret =>
        obtain ⟨hk3, hi3⟩ := hp
        obtain ⟨hr, hl3, hd3⟩ := last (some .ret) W3 hk3
        have hlt3 := (Array.getElem?_eq_some_iff.1 hl3).1
        refine ⟨_, _, hr, .inr ⟨rfl, ⟨hIx.putObj _ hi3 (by omega) hl3 rfl, World.putObj_heap_same hlt3, (World.putObj_heap_other (by omega)).trans hd3⟩, ?_⟩⟩
        refine ⟨?_, fun k o hk ho hc => ?_⟩
        · have := hk3.size
          rw [← hWb] at this
          simpa using this
        · rw [World.putObj_heap_other (by omega)]
          refine hk3.same k o (by omega) ?_ hc
          rw [← hWb, World.putObj_heap_other (by omega)]
          exact ho
      | exit id => exact hp.elim
      | goto t => exact hp.elim
      | panic ch => exact hp.elim
      | outgrown => exact hp.elim
    · rintro e W2 ⟨⟨v, rfl⟩, (⟨hi, hl, hk⟩ | ⟨pre, hpre, hi, hl, hk⟩)⟩
      · have h5 := run_endLoop (P := P) hl (by rw [hR]; simp)
        refine ⟨none, _, by rw [h5, hR], hdone _ _ (Nat.le_refl _) (hI.putObj _ hi (by omega) hl rfl) ((World.putObj_heap_other (by omega)).trans hk)⟩
      · have h5 := run_endLoop (P := P) hl (by rw [hR]; simp)
        refine ⟨some .ret, _, by rw [h5, hR], hstop _ pre _ (Nat.le_refl _) hpre (hIx.putObj _ hi (by omega) hl rfl) ((World.putObj_heap_other (by omega)).trans hk)⟩

/-- At the function's end: its marks, one by one. -/
theorem leaves_marks {P : Program} {n : Nat} {fn : Func} {tmps : Array Value} {R : Ending → World → Prop} {v : Value} (K : World → Prop)
    (hres : ∀ w, (results fn tmps).run P w = .ok v w) (hR : ∀ w, K w → R (.returned v) w) :
    ∀ (ds : List Nat) (w : World), (∀ (D : Nat) (w : World), D ∈ ds → K w → w.heap[D]? = some (.deferred (some [])) → K (w.putObj D (.deferred none))) → ds.Nodup → (∀ D ∈ ds, w.heap[D]? = some (.deferred (some []))) → K w → LeavesInM Fence.wide n P fn tmps R (ds.map mark) .returning w
  | [], w, _, _, _, hK => ⟨v, hres w, hR w hK⟩
  | D :: ds, w, hs, hn, hd, hK => by
    obtain ⟨h1, h2⟩ := List.nodup_cons.1 hn
    refine ⟨by simp, .inl ⟨D, _, rfl, run_takeDeferred (hd D (by simp)), ?_⟩⟩
    refine leaves_marks K hres hR ds _ (fun D' w hm => hs D' w (by simp [hm])) h2 (fun D' hm => ?_) (hs D w (by simp) hK (hd D (by simp)))
    have hne : D' ≠ D := fun e => h1 (e ▸ hm)
    rw [World.putObj_heap_other hne]
    exact hd D' (by simp [hm])
end

section
open Go.RowKit

/-- Whatever is no cells of these blocks and types lies as it lay. -/
structure KeepsK (X : Nat → TypeId → Prop) (W W' : World) : Prop where
  size : W.heap.size ≤ W'.heap.size
  same : ∀ (k : Nat) (o : Obj), W.heap[k]? = some o → (∀ xs t m, o = .cells xs t m → ¬ X k t) → W'.heap[k]? = some o

theorem KeepsK.refl (X : Nat → TypeId → Prop) (W : World) : KeepsK X W W := ⟨Nat.le_refl _, fun _ _ h _ => h⟩
theorem KeepsK.trans {X : Nat → TypeId → Prop} {A B C : World} (h : KeepsK X A B) (k : KeepsK X B C) : KeepsK X A C :=
  ⟨Nat.le_trans h.size k.size, fun i o hi ho => k.same i o (h.same i o hi ho) ho⟩
theorem not_cells_sparesK {o : Obj} (h : o.isCells = false) (X : Nat → TypeId → Prop) (k : Nat) : ∀ xs t m, o = .cells xs t m → ¬ X k t := fun xs t m e => by subst e; cases h
theorem KeepsK.from {X : Nat → TypeId → Prop} {W W' : World} (h : KeepsK X W W') (B : Nat) : KeepsFrom B W W' :=
  ⟨h.size, fun k o _ hk ho => h.same k o hk (not_cells_sparesK ho X k)⟩
theorem KeepsK.grown {X : Nat → TypeId → Prop} {W W' : World} (h : W.grownBy W' none) : KeepsK X W W' :=
  ⟨h.size, fun k o hk _ => (h.block k (Array.getElem?_eq_some_iff.1 hk).1 (fun e => by cases e)).trans hk⟩
theorem KeepsK.alloc {X : Nat → TypeId → Prop} (W : World) (o : Obj) : KeepsK X W (W.alloc o) := KeepsK.grown (World.grownBy_alloc W o none)
/-- A step that turns one block of such cells. -/
theorem KeepsK.grownX {X : Nat → TypeId → Prop} {W W' : World} {g : Nat} {xs : Array Value} {t : TypeId} {m : Nat × Nat} (h : W.grownBy W' (some g)) (hg : W.heap[g]? = some (.cells xs t m)) (ht : X g t) : KeepsK X W W' :=
  ⟨h.size, fun k o hk ho => (h.block k (Array.getElem?_eq_some_iff.1 hk).1 (fun e => by cases e; rw [hg] at hk; cases hk; exact ho _ _ _ rfl ht)).trans hk⟩
theorem KeepsK.cell {X : Nat → TypeId → Prop} {W W' : World} (h : KeepsK X W W') {b : Nat} {v : Value} {t : TypeId} {m : Nat × Nat} (hb : W.heap[b]? = some (.cells #[v] t m)) (ht : ¬ X b t) : W'.heap[b]? = some (.cells #[v] t m) :=
  h.same b _ hb (fun xs t' m' e => by cases e; exact ht)
theorem KeepsK.row {X : Nat → TypeId → Prop} {W W' : World} (h : KeepsK X W W') {b : Nat} {xs : Array Value} {t : TypeId} {m : Nat × Nat} (hb : W.heap[b]? = some (.cells xs t m)) (ht : ¬ X b t) : W'.heap[b]? = some (.cells xs t m) :=
  h.same b _ hb (fun xs t' m' e => by cases e; exact ht)
theorem ownFrom_keepsK {β : Type} (X : Nat → TypeId → Prop) (W0 : World) {B : Nat} (hB : W0.heap.size ≤ B) : OwnFrom B (fun (_ : β) W => KeepsK X W0 W) := fun s A C row hs hg hr =>
  ⟨Nat.le_trans hs.size hg.size, fun k o hk ho => (hg.block k (Nat.lt_of_lt_of_le (Array.getElem?_eq_some_iff.1 hk).1 hs.size) (fun e => by
    have h1 := (hr k e.symm).1
    have h2 := (Array.getElem?_eq_some_iff.1 hk).1
    omega)).trans (hs.same k o hk ho)⟩
/-- A round: the loop's record is busy meanwhile, and ready again. -/
theorem KeepsK.round {X : Nat → TypeId → Prop} {W W3 : World} {l : Nat} {o o2 : Obj} (hl : W.heap[l]? = some o) (h : KeepsK X (W.putObj l o2) W3) : KeepsK X W (W3.putObj l o) := by
  have hlt := (Array.getElem?_eq_some_iff.1 hl).1
  refine ⟨by simpa using h.size, fun k o' hk ho => ?_⟩
  by_cases e : k = l
  · subst e
    rw [hl] at hk
    cases hk
    exact World.putObj_heap_same (Nat.lt_of_lt_of_le (by simpa using hlt) h.size)
  · rw [World.putObj_heap_other e]
    exact h.same k o' (by rw [World.putObj_heap_other e]; exact hk) ho
theorem ownFrom_keepsF {β : Type} (B0 : Nat) (W0 : World) {B : Nat} (hB : W0.heap.size ≤ B) : OwnFrom B (fun (_ : β) W => KeepsFrom B0 W0 W) := fun s A C row hs hg hr =>
  ⟨Nat.le_trans hs.size hg.size, fun k o hb hk ho => (hg.block k (Nat.lt_of_lt_of_le (Array.getElem?_eq_some_iff.1 hk).1 hs.size) (fun e => by
    have h1 := (hr k e.symm).1
    have h2 := (Array.getElem?_eq_some_iff.1 hk).1
    omega)).trans (hs.same k o hb hk ho)⟩
theorem KeepsFrom.upK {B B' : Nat} {W W' : World} (h : KeepsFrom B W W') (hB : B ≤ B') : KeepsFrom B' W W' := ⟨h.size, fun k o hb hk ho => h.same k o (Nat.le_trans hB hb) hk ho⟩
theorem RoundIn.inRoundK {F : Fence} {n : Nat} {P : Program} {l : Nat} {f : FuncId} {tmps : Array Value} {assign body : Code} {w : World} {R : Ending → World → Prop} (l0 : Nat)
    (h : RoundIn F n P l f tmps assign body w R) : RoundIn (F.inRound l0) n P l f tmps assign body w R := h

/-- **An iterator's contract**: these things come, one by one, or a round has said 'no more'. -/
def SeqOwnK {α : Type} (vs : α → Array Value) (X : Nat → TypeId → Prop) (P : Program) (g : Nat) (lb : Array Value) (zs : List α) (w : World) : Prop :=
  ∀ (n l : Nat) (J Jx : List α → World → Prop) (W : World), KeepsK X w W → OwnFrom W.heap.size J → OwnFrom W.heap.size Jx →
    (∀ m pre x W1, J pre W1 → pre ++ [x] <+: zs → YieldAt Fence.wide m P l (vs x) W1 fun e W' =>
      (e = .returned (.bool true) ∧ J (pre ++ [x]) W' ∧ KeepsK X W1 W') ∨ (e = .returned (.bool false) ∧ Jx (pre ++ [x]) W' ∧ KeepsFrom W.heap.size W1 W')) →
    J [] W →
    CallsIn Fence.wide n P g (#[.func (.yield l) #[] #[]] ++ lb) W fun e W' => (∃ v, e = .returned v) ∧ (J zs W' ∨ ∃ pre, pre <+: zs ∧ Jx pre W')

/-- How the body of a round may be left. -/
def rangeEndK {α : Type} (X : Nat → TypeId → Prop) (B : Nat) (I Ix : List α → World → Prop) (xs : List α) (W : World) : Exit → Act → World → Prop
  | .normal, _, W' => KeepsK X W W' ∧ I xs W'
  | .ret, _, W' => KeepsFrom B W W' ∧ Ix xs W'
  | _, _, _ => False

theorem range_ownK {α : Type} (vs : α → Array Value) {P : Program} {g : Operand} {ps : Array Tmp} {assign body : Code} {Q : Exit → Act → World → Prop} {a : Act} {w : World} {n : Nat} {X : Nat → TypeId → Prop}
    {gf : Nat} {lb : Array Value} (hg : a.eval g = .func (.func gf) #[] lb) (eg : ∀ args w, (callFunc gf args).run P w = .ok (.enter gf args) w)
    {zs : List α} (hseq : SeqOwnK vs X P gf lb zs w) (I Ix : List α → World → Prop) (hI : OwnFrom w.heap.size I) (hIx : OwnFrom w.heap.size Ix) (h0 : I [] w) (hsz : ∀ x, (vs x).size = ps.size) (a₁ : α → Act)
    (hassign : ∀ (l m : Nat) (x : α) (W : World) (K : Act → World → Prop), K (a₁ x) W →
      assign.wpIn (Fence.wide.inRound l) m P (Exit.then K (fun _ _ _ => False)) { tmps := (ps.zip (vs x)).foldl (fun t (q, v) => t.setIfInBounds q v) a.tmps, defers := [] } W)
    (hbody : ∀ (l m : Nat) (pre : List α) (x : α) (W : World), w.heap.size ≤ l → (∃ r, W.heap[l]? = some (.loop r)) → I pre W → pre ++ [x] <+: zs → body.wpIn (Fence.wide.inRound l) m P (rangeEndK X w.heap.size I Ix (pre ++ [x]) W) (a₁ x) W)
    (hdone : ∀ (D : Nat) (W : World), w.heap.size ≤ D → I zs W → W.heap[D]? = some (.deferred (some [])) → Q .normal { a with defers := mark D :: a.defers } W)
    (hstop : ∀ (D : Nat) (pre : List α) (W : World), w.heap.size ≤ D → pre <+: zs → Ix pre W → W.heap[D]? = some (.deferred (some [])) → Code.ret.wpIn Fence.wide n P Q { a with defers := mark D :: a.defers } W) :
    (Code.rangeFunc g ps assign body).wpIn Fence.wide n P Q a w := by
  refine wpIn_rangeFunc ?_
  intro fn hfn
  obtain ⟨R, hR⟩ : ∃ R : LoopState → Option Code → Loop, R = fun st pe => { state := st, pending := pe, fn, tmps := a.tmps, params := ps, assign, body, defers := w.heap.size } := ⟨_, rfl⟩
  obtain ⟨V, hV⟩ : ∃ V, (w.alloc (.deferred (some []))).alloc (.loop (R .ready none)) = V := ⟨_, rfl⟩
  have vsz : V.heap.size = w.heap.size + 2 := by rw [← hV]; simp
  have vg : w.grownBy V none := by rw [← hV]; exact (World.grownBy_alloc _ _ _).trans (World.grownBy_alloc _ _ _)
  have vl : V.heap[w.heap.size + 1]? = some (.loop (R .ready none)) := by
    have h1 := World.alloc_heap_new (w.alloc (.deferred (some []))) (.loop (R .ready none))
    rw [World.size_alloc] at h1
    rw [← hV]; exact h1
  have vd : V.heap[w.heap.size]? = some (.deferred (some [])) := by
    rw [← hV]; exact (Below.heap_alloc _ _ _ (by simp)).trans (World.alloc_heap_new w _)
  refine ⟨w.heap.size + 1, [mark w.heap.size], V, { target := .fn (.func gf) lb, args := #[.func (.yield (w.heap.size + 1)) #[] #[]] }, V, gf, #[.func (.yield (w.heap.size + 1)) #[] #[]] ++ lb, V, ?_, ?_, ?_, ?_, ?_, ?_⟩
  · rw [← hV, hR]; exact run_enterLoop_outer _ _ _ _ _
  · simp only [resolve, hg]
    simp [go_sem]
  · intro _ _; trivial
  · simp [invoke, go_sem, eg]
  · intro h; cases h
  · -- what stands beside the invariant: the loop's record and the block of its mark
    have side : ∀ (st : LoopState) (pe : Option Code) (A B : World) (row : Option Nat), A.grownBy B row → (∀ r, row = some r → V.heap.size ≤ r ∧ ∃ o : Obj, A.heap[r]? = some o ∧ o.isCells = false) →
        A.heap[w.heap.size + 1]? = some (.loop (R st pe)) ∧ A.heap[w.heap.size]? = some (.deferred (some [])) → B.heap[w.heap.size + 1]? = some (.loop (R st pe)) ∧ B.heap[w.heap.size]? = some (.deferred (some [])) := fun st pe A B row hg' hr hs =>
      ⟨(hg'.block _ (Array.getElem?_eq_some_iff.1 hs.1).1 (fun e => by have := (hr _ e.symm).1; omega)).trans hs.1,
       (hg'.block _ (Array.getElem?_eq_some_iff.1 hs.2).1 (fun e => by have := (hr _ e.symm).1; omega)).trans hs.2⟩
    have hI2 : OwnFrom V.heap.size (fun pre W => I pre W ∧ W.heap[w.heap.size + 1]? = some (.loop (R .ready none)) ∧ W.heap[w.heap.size]? = some (.deferred (some []))) := fun s A B row hs hg' hr =>
      ⟨hI s A B row hs.1 hg' (fun r e => ⟨by have := (hr r e).1; omega, (hr r e).2⟩), side _ _ A B row hg' hr hs.2⟩
    have hIx2 : OwnFrom V.heap.size (fun pre W => Ix pre W ∧ W.heap[w.heap.size + 1]? = some (.loop (R .done (some .ret))) ∧ W.heap[w.heap.size]? = some (.deferred (some []))) := fun s A B row hs hg' hr =>
      ⟨hIx s A B row hs.1 hg' (fun r e => ⟨by have := (hr r e).1; omega, (hr r e).2⟩), side _ _ A B row hg' hr hs.2⟩
    refine (hseq _ (w.heap.size + 1) _ _ V (KeepsK.grown vg) hI2 hIx2 ?_ ⟨hI [] w V none h0 vg (fun r e => by cases e), vl, vd⟩).mono ?_
    · rintro m pre x W ⟨hi, hl, hk⟩ hlen
      have hlt : w.heap.size + 1 < W.heap.size := (Array.getElem?_eq_some_iff.1 hl).1
      have hy := run_yield (P := P) (args := (vs x)) hl (by rw [hR]; exact hsz x)
      rw [hR] at hy
      refine ⟨fn, _, assign, body, hy, roundIn_of_wpIn hfn ?_⟩
      refine hassign _ _ x W _ ⟨_, run_beginRound hl (by rw [hR]), ?_⟩
      obtain ⟨Wb, hWb⟩ : ∃ Wb, W.putObj (w.heap.size + 1) (.loop { R .ready none with state := .busy }) = Wb := ⟨_, rfl⟩
      have hlb : Wb.heap[w.heap.size + 1]? = some (.loop { R .ready none with state := .busy }) := by rw [← hWb]; exact World.putObj_heap_same hlt
      have hkb : Wb.heap[w.heap.size]? = some (.deferred (some [])) := by rw [← hWb]; exact (World.putObj_heap_other (by omega)).trans hk
      have hib : I pre Wb := by rw [← hWb]; exact hI.putObj _ hi (by omega) hl rfl
      rw [hWb]
      refine wpIn_mono (hbody _ _ pre x Wb (by omega) ⟨_, hlb⟩ hib hlen) ?_
      have last : ∀ (jump : Option Code) (W3 : World), KeepsFrom w.heap.size Wb W3 →
          (Instr.endRound (w.heap.size + 1) jump).run P W3 = .ok (.bool jump.isNone) (W3.putObj (w.heap.size + 1) (.loop (R (if jump.isNone then .ready else .done) jump))) ∧
          W3.heap[w.heap.size + 1]? = some (.loop { R .ready none with state := .busy }) ∧ W3.heap[w.heap.size]? = some (.deferred (some [])) := fun jump W3 hk3 => by
        have h3 := hk3.same _ _ (by omega) hlb rfl
        have h4 := run_endRound (P := P) jump h3
        refine ⟨?_, h3, hk3.same _ _ (Nat.le_refl _) hkb rfl⟩
        rw [h4, hR]
      rintro e a3 W3 hp
      cases e with
      | normal =>
        obtain ⟨hk3, hi3⟩ := hp
        obtain ⟨hr, hl3, hd3⟩ := last none W3 (hk3.from _)
        have hlt3 := (Array.getElem?_eq_some_iff.1 hl3).1
        refine ⟨_, _, hr, .inl ⟨rfl, ⟨hI.putObj _ hi3 (by omega) hl3 rfl, World.putObj_heap_same hlt3, (World.putObj_heap_other (by omega)).trans hd3⟩, ?_⟩⟩
        rw [← hWb] at hk3
        exact KeepsK.round hl hk3
      | ret =>
        obtain ⟨hk3, hi3⟩ := hp
        obtain ⟨hr, hl3, hd3⟩ := last (some .ret) W3 hk3
        have hlt3 := (Array.getElem?_eq_some_iff.1 hl3).1
        refine ⟨_, _, hr, .inr ⟨rfl, ⟨hIx.putObj _ hi3 (by omega) hl3 rfl, World.putObj_heap_same hlt3, (World.putObj_heap_other (by omega)).trans hd3⟩, ?_⟩⟩
        refine ⟨?_, fun k o hk ho hc => ?_⟩
        · have := hk3.size
          rw [← hWb] at this
          simpa using this
        · rw [World.putObj_heap_other (by omega)]
          refine hk3.same k o (by omega) ?_ hc
          rw [← hWb, World.putObj_heap_other (by omega)]
          exact ho
      | exit id => exact hp.elim
      | goto t => exact hp.elim
      | panic ch => exact hp.elim
      | outgrown => exact hp.elim
    · rintro e W2 ⟨⟨v, rfl⟩, (⟨hi, hl, hk⟩ | ⟨pre, hpre, hi, hl, hk⟩)⟩
      · have h5 := run_endLoop (P := P) hl (by rw [hR]; simp)
        refine ⟨none, _, by rw [h5, hR], hdone _ _ (Nat.le_refl _) (hI.putObj _ hi (by omega) hl rfl) ((World.putObj_heap_other (by omega)).trans hk)⟩
      · have h5 := run_endLoop (P := P) hl (by rw [hR]; simp)
        refine ⟨some .ret, _, by rw [h5, hR], hstop _ pre _ (Nat.le_refl _) hpre (hIx.putObj _ hi (by omega) hl rfl) ((World.putObj_heap_other (by omega)).trans hk)⟩

/-- The same within a round of another loop: no mark. -/
theorem range_inK {α : Type} (vs : α → Array Value) {P : Program} {g : Operand} {ps : Array Tmp} {assign body : Code} {Q : Exit → Act → World → Prop} {a : Act} {w : World} {n : Nat} {X : Nat → TypeId → Prop}
    {l₀ : Nat} {r₀ : Loop} (hl₀ : w.heap[l₀]? = some (.loop r₀)) {gf : Nat} {lb : Array Value} (hg : a.eval g = .func (.func gf) #[] lb) (eg : ∀ args w, (callFunc gf args).run P w = .ok (.enter gf args) w)
    {zs : List α} (hseq : SeqOwnK vs X P gf lb zs w) (I Ix : List α → World → Prop) (hI : OwnFrom w.heap.size I) (hIx : OwnFrom w.heap.size Ix) (h0 : I [] w) (hsz : ∀ x, (vs x).size = ps.size) (a₁ : α → Act)
    (hassign : ∀ (l m : Nat) (x : α) (W : World) (K : Act → World → Prop), K (a₁ x) W →
      assign.wpIn (Fence.wide.inRound l) m P (Exit.then K (fun _ _ _ => False)) { tmps := (ps.zip (vs x)).foldl (fun t (q, v) => t.setIfInBounds q v) a.tmps, defers := [] } W)
    (hbody : ∀ (l m : Nat) (pre : List α) (x : α) (W : World), w.heap.size ≤ l → (∃ r, W.heap[l]? = some (.loop r)) → I pre W → pre ++ [x] <+: zs → body.wpIn (Fence.wide.inRound l) m P (rangeEndK X w.heap.size I Ix (pre ++ [x]) W) (a₁ x) W)
    (hdone : ∀ (W : World), I zs W → Q .normal a W)
    (hstop : ∀ (pre : List α) (W : World), pre <+: zs → Ix pre W → Code.ret.wpIn (Fence.wide.inRound l₀) n P Q a W) :
    (Code.rangeFunc g ps assign body).wpIn (Fence.wide.inRound l₀) n P Q a w := by
  refine wpIn_rangeFunc ?_
  intro fn hfn
  obtain ⟨R, hR⟩ : ∃ R : LoopState → Option Code → Loop, R = fun st pe => { state := st, pending := pe, fn, tmps := a.tmps, params := ps, assign, body, defers := r₀.defers } := ⟨_, rfl⟩
  obtain ⟨V, hV⟩ : ∃ V, w.alloc (.loop (R .ready none)) = V := ⟨_, rfl⟩
  have vsz : V.heap.size = w.heap.size + 1 := by rw [← hV]; simp
  have vg : w.grownBy V none := by rw [← hV]; exact World.grownBy_alloc _ _ _
  have vl : V.heap[w.heap.size]? = some (.loop (R .ready none)) := by rw [← hV]; exact World.alloc_heap_new w _
  refine ⟨w.heap.size, [], V, { target := .fn (.func gf) lb, args := #[.func (.yield w.heap.size) #[] #[]] }, V, gf, #[.func (.yield w.heap.size) #[] #[]] ++ lb, V, ?_, ?_, ?_, ?_, ?_, ?_⟩
  · rw [← hV, hR]; exact run_enterLoop_inner hl₀ _ _ _ _ _
  · simp only [resolve, hg]
    simp [go_sem]
  · intro _ _; trivial
  · simp [invoke, go_sem, eg]
  · intro h; cases h
  · have side : ∀ (st : LoopState) (pe : Option Code) (A B : World) (row : Option Nat), A.grownBy B row → (∀ r, row = some r → V.heap.size ≤ r ∧ ∃ o : Obj, A.heap[r]? = some o ∧ o.isCells = false) →
        A.heap[w.heap.size]? = some (.loop (R st pe)) → B.heap[w.heap.size]? = some (.loop (R st pe)) := fun st pe A B row hg' hr hs =>
      (hg'.block _ (Array.getElem?_eq_some_iff.1 hs).1 (fun e => by have := (hr _ e.symm).1; omega)).trans hs
    have hI2 : OwnFrom V.heap.size (fun pre W => I pre W ∧ W.heap[w.heap.size]? = some (.loop (R .ready none))) := fun s A B row hs hg' hr =>
      ⟨hI s A B row hs.1 hg' (fun r e => ⟨by have := (hr r e).1; omega, (hr r e).2⟩), side _ _ A B row hg' hr hs.2⟩
    have hIx2 : OwnFrom V.heap.size (fun pre W => Ix pre W ∧ W.heap[w.heap.size]? = some (.loop (R .done (some .ret)))) := fun s A B row hs hg' hr =>
      ⟨hIx s A B row hs.1 hg' (fun r e => ⟨by have := (hr r e).1; omega, (hr r e).2⟩), side _ _ A B row hg' hr hs.2⟩
    refine (hseq _ w.heap.size _ _ V (KeepsK.grown vg) hI2 hIx2 ?_ ⟨hI [] w V none h0 vg (fun r e => by cases e), vl⟩).mono ?_
    · rintro m pre x W ⟨hi, hl⟩ hlen
      have hlt : w.heap.size < W.heap.size := (Array.getElem?_eq_some_iff.1 hl).1
      have hy := run_yield (P := P) (args := (vs x)) hl (by rw [hR]; exact hsz x)
      rw [hR] at hy
      refine ⟨fn, _, assign, body, hy, roundIn_of_wpIn hfn ?_⟩
      refine hassign _ _ x W _ ⟨_, run_beginRound hl (by rw [hR]), ?_⟩
      obtain ⟨Wb, hWb⟩ : ∃ Wb, W.putObj w.heap.size (.loop { R .ready none with state := .busy }) = Wb := ⟨_, rfl⟩
      have hlb : Wb.heap[w.heap.size]? = some (.loop { R .ready none with state := .busy }) := by rw [← hWb]; exact World.putObj_heap_same hlt
      have hib : I pre Wb := by rw [← hWb]; exact hI.putObj _ hi (by omega) hl rfl
      rw [hWb]
      refine wpIn_mono (hbody _ _ pre x Wb (Nat.le_refl _) ⟨_, hlb⟩ hib hlen) ?_
      have last : ∀ (jump : Option Code) (W3 : World), KeepsFrom w.heap.size Wb W3 →
          (Instr.endRound w.heap.size jump).run P W3 = .ok (.bool jump.isNone) (W3.putObj w.heap.size (.loop (R (if jump.isNone then .ready else .done) jump))) ∧
          W3.heap[w.heap.size]? = some (.loop { R .ready none with state := .busy }) := fun jump W3 hk3 => by
        have h3 := hk3.same _ _ (Nat.le_refl _) hlb rfl
        have h4 := run_endRound (P := P) jump h3
        refine ⟨?_, h3⟩
        rw [h4, hR]
      rintro e a3 W3 hp
      cases e with
      | normal =>
        obtain ⟨hk3, hi3⟩ := hp
        obtain ⟨hr, hl3⟩ := last none W3 (hk3.from _)
        have hlt3 := (Array.getElem?_eq_some_iff.1 hl3).1
        refine ⟨_, _, hr, .inl ⟨rfl, ⟨hI.putObj _ hi3 (by omega) hl3 rfl, World.putObj_heap_same hlt3⟩, ?_⟩⟩
        rw [← hWb] at hk3
        exact KeepsK.round hl hk3
      | ret =>
        obtain ⟨hk3, hi3⟩ := hp
        obtain ⟨hr, hl3⟩ := last (some .ret) W3 hk3
        have hlt3 := (Array.getElem?_eq_some_iff.1 hl3).1
        refine ⟨_, _, hr, .inr ⟨rfl, ⟨hIx.putObj _ hi3 (by omega) hl3 rfl, World.putObj_heap_same hlt3⟩, ?_⟩⟩
        refine ⟨?_, fun k o hk ho hc => ?_⟩
        · have := hk3.size
          rw [← hWb] at this
          simpa using this
        · rw [World.putObj_heap_other (by omega)]
          refine hk3.same k o (by omega) ?_ hc
          rw [← hWb, World.putObj_heap_other (by omega)]
          exact ho
      | exit id => exact hp.elim
      | goto t => exact hp.elim
      | panic ch => exact hp.elim
      | outgrown => exact hp.elim
    · rintro e W2 ⟨⟨v, rfl⟩, (⟨hi, hl⟩ | ⟨pre, hpre, hi, hl⟩)⟩
      · have h5 := run_endLoop (P := P) hl (by rw [hR]; simp)
        exact ⟨none, _, by rw [h5, hR], hdone _ (hI.putObj _ hi (by omega) hl rfl)⟩
      · have h5 := run_endLoop (P := P) hl (by rw [hR]; simp)
        exact ⟨some .ret, _, by rw [h5, hR], hstop pre _ hpre (hIx.putObj _ hi (by omega) hl rfl)⟩
end

section
open Go.RowKit

/-- **An iterator's contract**: things come one by one, each one allowed behind those that came, and what came in the end is whole. -/
def SeqSetK {α : Type} (vs : α → Array Value) (X : Nat → TypeId → Prop) (P : Program) (g : Nat) (lb : Array Value) (Pre : List α → α → Prop) (End : List α → Prop) (w : World) : Prop :=
  ∀ (n l : Nat) (J : List α → World → Prop) (W : World), KeepsK X w W → OwnFrom W.heap.size J →
    (∀ m pre x W1, J pre W1 → Pre pre x → YieldAt Fence.wide m P l (vs x) W1 fun e W' => e = .returned (.bool true) ∧ J (pre ++ [x]) W' ∧ KeepsK X W1 W') →
    J [] W →
    CallsIn Fence.wide n P g (#[.func (.yield l) #[] #[]] ++ lb) W fun e W' => (∃ v, e = .returned v) ∧ ∃ zs, End zs ∧ J zs W'

/-- How the body of a round may be left. -/
def rangeEndS {α : Type} (X : Nat → TypeId → Prop) (I : List α → World → Prop) (xs : List α) (W : World) : Exit → Act → World → Prop
  | .normal, _, W' => KeepsK X W W' ∧ I xs W'
  | _, _, _ => False

theorem range_ownS {α : Type} (vs : α → Array Value) {P : Program} {g : Operand} {ps : Array Tmp} {assign body : Code} {Q : Exit → Act → World → Prop} {a : Act} {w : World} {n : Nat} {X : Nat → TypeId → Prop}
    {gf : Nat} {lb : Array Value} (hg : a.eval g = .func (.func gf) #[] lb) (eg : ∀ args w, (callFunc gf args).run P w = .ok (.enter gf args) w)
    {Pre : List α → α → Prop} {End : List α → Prop} (hseq : SeqSetK vs X P gf lb Pre End w) (I : List α → World → Prop) (hI : OwnFrom w.heap.size I) (h0 : I [] w) (hsz : ∀ x, (vs x).size = ps.size) (a₁ : α → Act)
    (hassign : ∀ (l m : Nat) (x : α) (W : World) (K : Act → World → Prop), K (a₁ x) W →
      assign.wpIn (Fence.wide.inRound l) m P (Exit.then K (fun _ _ _ => False)) { tmps := (ps.zip (vs x)).foldl (fun t (q, v) => t.setIfInBounds q v) a.tmps, defers := [] } W)
    (hbody : ∀ (l m : Nat) (pre : List α) (x : α) (W : World), w.heap.size ≤ l → (∃ r, W.heap[l]? = some (.loop r)) → I pre W → Pre pre x → body.wpIn (Fence.wide.inRound l) m P (rangeEndS X I (pre ++ [x]) W) (a₁ x) W)
    (hdone : ∀ (D : Nat) (zs : List α) (W : World), w.heap.size ≤ D → End zs → I zs W → W.heap[D]? = some (.deferred (some [])) → Q .normal { a with defers := mark D :: a.defers } W) :
    (Code.rangeFunc g ps assign body).wpIn Fence.wide n P Q a w := by
  refine wpIn_rangeFunc ?_
  intro fn hfn
  obtain ⟨R, hR⟩ : ∃ R : LoopState → Option Code → Loop, R = fun st pe => { state := st, pending := pe, fn, tmps := a.tmps, params := ps, assign, body, defers := w.heap.size } := ⟨_, rfl⟩
  obtain ⟨V, hV⟩ : ∃ V, (w.alloc (.deferred (some []))).alloc (.loop (R .ready none)) = V := ⟨_, rfl⟩
  have vsz : V.heap.size = w.heap.size + 2 := by rw [← hV]; simp
  have vg : w.grownBy V none := by rw [← hV]; exact (World.grownBy_alloc _ _ _).trans (World.grownBy_alloc _ _ _)
  have vl : V.heap[w.heap.size + 1]? = some (.loop (R .ready none)) := by
    have h1 := World.alloc_heap_new (w.alloc (.deferred (some []))) (.loop (R .ready none))
    rw [World.size_alloc] at h1
    rw [← hV]; exact h1
  have vd : V.heap[w.heap.size]? = some (.deferred (some [])) := by
    rw [← hV]; exact (Below.heap_alloc _ _ _ (by simp)).trans (World.alloc_heap_new w _)
  refine ⟨w.heap.size + 1, [mark w.heap.size], V, { target := .fn (.func gf) lb, args := #[.func (.yield (w.heap.size + 1)) #[] #[]] }, V, gf, #[.func (.yield (w.heap.size + 1)) #[] #[]] ++ lb, V, ?_, ?_, ?_, ?_, ?_, ?_⟩
  · rw [← hV, hR]; exact run_enterLoop_outer _ _ _ _ _
  · simp only [resolve, hg]
    simp [go_sem]
  · intro _ _; trivial
  · simp [invoke, go_sem, eg]
  · intro h; cases h
  · -- what stands beside the invariant: the loop's record and the block of its mark
    have side : ∀ (st : LoopState) (pe : Option Code) (A B : World) (row : Option Nat), A.grownBy B row → (∀ r, row = some r → V.heap.size ≤ r ∧ ∃ o : Obj, A.heap[r]? = some o ∧ o.isCells = false) →
        A.heap[w.heap.size + 1]? = some (.loop (R st pe)) ∧ A.heap[w.heap.size]? = some (.deferred (some [])) → B.heap[w.heap.size + 1]? = some (.loop (R st pe)) ∧ B.heap[w.heap.size]? = some (.deferred (some [])) := fun st pe A B row hg' hr hs =>
      ⟨(hg'.block _ (Array.getElem?_eq_some_iff.1 hs.1).1 (fun e => by have := (hr _ e.symm).1; omega)).trans hs.1,
       (hg'.block _ (Array.getElem?_eq_some_iff.1 hs.2).1 (fun e => by have := (hr _ e.symm).1; omega)).trans hs.2⟩
    have hI2 : OwnFrom V.heap.size (fun pre W => I pre W ∧ W.heap[w.heap.size + 1]? = some (.loop (R .ready none)) ∧ W.heap[w.heap.size]? = some (.deferred (some []))) := fun s A B row hs hg' hr =>
      ⟨hI s A B row hs.1 hg' (fun r e => ⟨by have := (hr r e).1; omega, (hr r e).2⟩), side _ _ A B row hg' hr hs.2⟩
    refine (hseq _ (w.heap.size + 1) _ V (KeepsK.grown vg) hI2 ?_ ⟨hI [] w V none h0 vg (fun r e => by cases e), vl, vd⟩).mono ?_
    · rintro m pre x W ⟨hi, hl, hk⟩ hlen
      have hlt : w.heap.size + 1 < W.heap.size := (Array.getElem?_eq_some_iff.1 hl).1
      have hy := run_yield (P := P) (args := (vs x)) hl (by rw [hR]; exact hsz x)
      rw [hR] at hy
      refine ⟨fn, _, assign, body, hy, roundIn_of_wpIn hfn ?_⟩
      refine hassign _ _ x W _ ⟨_, run_beginRound hl (by rw [hR]), ?_⟩
      obtain ⟨Wb, hWb⟩ : ∃ Wb, W.putObj (w.heap.size + 1) (.loop { R .ready none with state := .busy }) = Wb := ⟨_, rfl⟩
      have hlb : Wb.heap[w.heap.size + 1]? = some (.loop { R .ready none with state := .busy }) := by rw [← hWb]; exact World.putObj_heap_same hlt
      have hkb : Wb.heap[w.heap.size]? = some (.deferred (some [])) := by rw [← hWb]; exact (World.putObj_heap_other (by omega)).trans hk
      have hib : I pre Wb := by rw [← hWb]; exact hI.putObj _ hi (by omega) hl rfl
      rw [hWb]
      refine wpIn_mono (hbody _ _ pre x Wb (by omega) ⟨_, hlb⟩ hib hlen) ?_
      have last : ∀ (jump : Option Code) (W3 : World), KeepsFrom w.heap.size Wb W3 →
          (Instr.endRound (w.heap.size + 1) jump).run P W3 = .ok (.bool jump.isNone) (W3.putObj (w.heap.size + 1) (.loop (R (if jump.isNone then .ready else .done) jump))) ∧
          W3.heap[w.heap.size + 1]? = some (.loop { R .ready none with state := .busy }) ∧ W3.heap[w.heap.size]? = some (.deferred (some [])) := fun jump W3 hk3 => by
        have h3 := hk3.same _ _ (by omega) hlb rfl
        have h4 := run_endRound (P := P) jump h3
        refine ⟨?_, h3, hk3.same _ _ (Nat.le_refl _) hkb rfl⟩
        rw [h4, hR]
      rintro e a3 W3 hp
      cases e with
      | normal =>
        obtain ⟨hk3, hi3⟩ := hp
        obtain ⟨hr, hl3, hd3⟩ := last none W3 (hk3.from _)
        have hlt3 := (Array.getElem?_eq_some_iff.1 hl3).1
        refine ⟨_, _, hr, rfl, ⟨hI.putObj _ hi3 (by omega) hl3 rfl, World.putObj_heap_same hlt3, (World.putObj_heap_other (by omega)).trans hd3⟩, ?_⟩
        rw [← hWb] at hk3
        exact KeepsK.round hl hk3
      | ret => exact hp.elim
      | exit id => exact hp.elim
      | goto t => exact hp.elim
      | panic ch => exact hp.elim
      | outgrown => exact hp.elim
    · rintro e W2 ⟨⟨v, rfl⟩, zs, hend, hi, hl, hk⟩
      have h5 := run_endLoop (P := P) hl (by rw [hR]; simp)
      exact ⟨none, _, by rw [h5, hR], hdone _ zs _ (Nat.le_refl _) hend (hI.putObj _ hi (by omega) hl rfl) ((World.putObj_heap_other (by omega)).trans hk)⟩
end

end Go.Proofs.YtachjodnhgmoiaaGreatDoor
