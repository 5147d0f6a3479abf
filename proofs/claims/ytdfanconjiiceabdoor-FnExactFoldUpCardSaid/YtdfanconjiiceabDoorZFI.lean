/- 20 texts in one: SpanK BackK RngA IterL InvR StillIn RgnV IsArr FoldU FoldV Nstr FoldP FoldI FoldM FoldL FoldS FoldT Told SFold FoldUp. -/
import Derived.Test.YtdfanconjiiceabDoorSeqS
import Derived.Test.YtdfanconjiiceabDoorSeg
import Derived.Test.YtdfanconjiiceabDoorGr
import Derived.Orders
import Derived.StillTail
import Derived.StillTactics
import Derived.OrdersIn
import Derived.TacticsIn
import Derived.RangeFuncCalls
import Derived.Test.YtdfanconjiiceabDoorRows
import Derived.Test.YtdfanconjiiceabDoorText
import Derived.Test.YtdfanconjiiceabDoorL1Read
import Derived.Test.YtdfanconjiiceabDoorFold
import Derived.Test.YtdfanconjiiceabDoorLvText
import Derived.Test.YtdfanconjiiceabDoorMkImpl
import Derived.Test.YtdfanconjiiceabDoorTexts
import Derived.Test.YtdfanconjiiceabDoorPr
import Derived.Test.YtdfanconjiiceabDoorFam
import Derived.Test.YtdfanconjiiceabDoorSNd
import Derived.Deep.RegionLaw
import Derived.Deep.AppendLies
import Derived.Test.YtdfanconjiiceabDoorSText
import Derived.Test.YtdfanconjiiceabDoorSWrong
namespace Go.Proofs.YtdfanconjiiceabDoor
/- SpanK -/
section
open Go.RowKit Go.Shelf
attribute [local go_sem] Oper.semAt_some

/-- Where parts of these lengths begin and end. -/
def spanK : Int → List Int → List (Int × Int)
  | _, [] => []
  | b, z :: l => (b, b + z) :: spanK (b + z) l
def twoK (p : Int × Int) : Array Value := #[.int .i64 p.1, .int .i64 p.2]
theorem spanK_at : ∀ (L : List Int) (b : Int) (j : Nat) (z : Int), L[j]? = some z → (spanK b L)[j]? = some (b + sumI (L.take j), b + sumI (L.take j) + z)
  | [], _, _, _, h => by simp at h
  | y :: L, b, 0, z, h => by
    simp only [List.getElem?_cons_zero, Option.some.injEq] at h
    subst h
    simp [spanK, sumI]
  | y :: L, b, j + 1, z, h => by
    have := spanK_at L (b + y) j z (by simpa using h)
    simp only [spanK, List.getElem?_cons_succ, this, List.take_succ_cons, sumI]
    congr 2 <;> omega
theorem spanK_len : ∀ (L : List Int) (b : Int), (spanK b L).length = L.length
  | [], _ => rfl
  | z :: L, b => by simp [spanK, spanK_len L]

/-- Ints in a block of ints, which is none of those that may be written. -/
def IntsK (X : Nat → TypeId → Prop) (w : World) (A : Option Addr) (zs : List Int) : Prop := 0 < zs.length → ∃ b off xs m, A = some ⟨b, off, none⟩ ∧ w.heap[b]? = some (.cells xs 3 m) ∧ ¬ X b 3 ∧ ∀ (j : Nat) (z : Int), zs[j]? = some z → w.cell? ⟨b, off + j, none⟩ = some (.int .i64 z)
theorem IntsK.keep {X : Nat → TypeId → Prop} {w w' : World} {A : Option Addr} {zs : List Int} (h : IntsK X w A zs) (hk : KeepsK X w w') : IntsK X w' A zs := fun hl => by
  obtain ⟨b, off, xs, m, rfl, hb, hX, hc⟩ := h hl
  have hb' := hk.row hb hX
  refine ⟨b, off, xs, m, rfl, hb', hX, fun j z hj => ?_⟩
  have := hc j z hj
  simp only [World.cell?, hb, hb'] at this ⊢
  exact this

set_option maxRecDepth 100000 in
set_option maxHeartbeats 1000000 in
theorem spansK_iter (X : Nat → TypeId → Prop) (b c : Nat) (A : Option Addr) (L : List Int) (w : World) (hr : IntsK X w A L) (hXl : ¬ X b 23) (hlen : L.length ≤ 1048576) (hok : okN 400 L = true)
    (hb : w.heap[b]? = some (.cells #[.slice A L.length c] 23 (0, 0))) :
    SeqOwnK twoK X Tryd.prog 106 #[.pointer (some ⟨b, 0, none⟩)] (spanK 0 L) w := by
  intro n l J Jx W hW hJ hJx hY h0
  have hb1 := hW.cell hb hXl
  have hr1 := hr.keep hW
  obtain ⟨k, hk⟩ : ∃ k, L.length = k := ⟨_, rfl⟩
  have hc : W.cell? ⟨b, 0, none⟩ = some (.slice A k c) := by rw [← hk]; simp [World.cell?, hb1]
  have HN : Hid (∀ (j : Nat) (z : Int), L[j]? = some z → (spanK 0 L)[j]? = some (sumI (L.take j), sumI (L.take j) + z)) := Lib.hid (fun j z h => by
    have := spanK_at L 0 j z h
    simpa using this)
  have HSL := Lib.hid (spanK_len L 0)
  have HB := Lib.hid (fun j => sumI_bound (okN_take hok j))
  have HOK := Lib.hid hok
  obtain ⟨ns, hns⟩ : ∃ ns, spanK 0 L = ns := ⟨_, rfl⟩
  have HR := Lib.hid hr1
  have HY := Lib.hid hY
  have HK := Lib.hid hk
  have hk6 : k ≤ 1048576 := by omega
  rw [hns] at HY HN HSL ⊢
  clear hb hb1 hr hr1 hY hok hlen hns hk
  show CallsIn Fence.wide n Tryd.prog 106 #[.func (.yield l) #[] #[], .pointer (some ⟨b, 0, none⟩)] W _
  refine callsIn_of_wp Tryd.func106 rfl trivial ?_ rfl
  simp only [Tryd.ntmps106, List.size_toArray, List.length_cons, List.length_nil, Nat.reduceAdd, Nat.reduceSub, Array.replicate_succ, Array.replicate_zero, List.push_toArray, List.append_toArray, List.nil_append, List.cons_append]
  gi_wp2
  gi_loopw [3, 9] (fun u i wr => ∃ j : Nat, j ≤ k ∧ i = .int .i64 j ∧ u = .int .i64 (sumI (L.take j)) ∧ Hid (J (ns.take j) wr) ∧ Hid (KeepsK X W wr)) (fun _ i _ => k - (intOf i).toNat)
  case atStart => exact ⟨0, Nat.zero_le _, rfl, rfl, Lib.hid h0, Lib.hid (KeepsK.refl _ _)⟩
  case round =>
    obtain ⟨j, hj, rfl, rfl, hjj, hkx⟩ := hrel
    have hbj := HB.out j
    by_cases hlt2 : j < k
    · obtain ⟨z, hz⟩ : ∃ z, L[j]? = some z := ⟨_, List.getElem?_eq_getElem (by have := HK.out; omega)⟩
      have hzz := okN_at hz HOK.out
      obtain ⟨b2, off, xs, m, rfl, _, _, hcc⟩ := (HR.out.keep hkx.out) (by have := HK.out; omega)
      have hcell := hcc j z hz
      have hst := sumI_step hz
      have hat := HN.out j z hz
      obtain ⟨s, hs⟩ : ∃ s, sumI (L.take j) = s := ⟨_, rfl⟩
      have hl3 : (L.take j).length ≤ 1048576 := by have := HK.out; rw [List.length_take]; omega
      rw [hs] at hbj hst hat ⊢
      have hbd : 0 ≤ s ∧ s ≤ 419430400 := by omega
      obtain ⟨fn, tmps, assign, body, hy, hR⟩ := HY.out (n - 1) (ns.take j) (s, s + z) wr hjj.out (by rw [← at_take hat]; exact List.take_prefix _ _)
      rw [← at_take hat] at hR
      simp only [twoK] at hy
      have HST := Lib.hid hst
      clear hcc hz hat hst hbj
      gi_wp2_with (refine ⟨fun h => (by cases h), ?_⟩; refine hR.mono ?_; clear hR; rintro e W' (⟨rfl, hJ', hk⟩ | ⟨rfl, hJx', hk⟩))
      · have HJ' := Lib.hid hJ'
        have HK' := Lib.hid (hkx.out.trans hk)
        clear hJ' hk
        go_roundw
        case rel => exact ⟨j + 1, by omega, by go_num, by rw [HST.out], HJ', HK'⟩
        case measure => simp [intOf]; omega
      · refine bodyPost_ret (results_none rfl _ _ _) rfl ?_
        exact ⟨⟨_, rfl⟩, .inr ⟨ns.take (j + 1), List.take_prefix _ _, hJx'⟩⟩
    · have hjn : j = k := by omega
      have HJ := Lib.hid hjn
      clear hjn
      gi_wp2
      go_end0
      refine ⟨⟨_, rfl⟩, .inl ?_⟩
      have := hjj.out
      rw [List.take_of_length_le (by have h1 := HJ.out; have h2 := HSL.out; have h3 := HK.out; omega)] at this
      exact this
end

/- BackK -/
section
open Go.RowKit Go.Shelf
attribute [local go_sem] Oper.semAt_some

/-- The things and their indices, from the last one on. -/
def back (vs : List Value) : List (Int × Value) := (vs.zipIdx.map (fun p => ((p.2 : Int), p.1))).reverse
def idx (p : Int × Value) : Array Value := #[.int .i64 p.1, p.2]
theorem back_len (vs : List Value) : (back vs).length = vs.length := by simp [back]
theorem back_at {vs : List Value} {j i : Nat} {v : Value} (hi : i + j + 1 = vs.length) (hv : vs[i]? = some v) : (back vs)[j]? = some ((i : Int), v) := by
  have e : vs.length - 1 - j = i := by omega
  rw [back, List.getElem?_reverse (by simp; omega), List.getElem?_map]
  simp only [List.length_map, List.length_zipIdx, e]
  rw [List.getElem?_zipIdx, hv]
  simp

/-- Slices in a block of lists of ints, which is none of those that may be written. -/
def SlsK (X : Nat → TypeId → Prop) (w : World) (A : Option Addr) (vs : List Value) : Prop := 0 < vs.length → ∃ b off xs m, A = some ⟨b, off, none⟩ ∧ w.heap[b]? = some (.cells xs 23 m) ∧ ¬ X b 23 ∧ ∀ (j : Nat) (v : Value), vs[j]? = some v → w.cell? ⟨b, off + j, none⟩ = some v
theorem SlsK.keep {X : Nat → TypeId → Prop} {w w' : World} {A : Option Addr} {vs : List Value} (h : SlsK X w A vs) (hk : KeepsK X w w') : SlsK X w' A vs := fun hl => by
  obtain ⟨b, off, xs, m, rfl, hb, hX, hc⟩ := h hl
  have hb' := hk.row hb hX
  refine ⟨b, off, xs, m, rfl, hb', hX, fun j z hj => ?_⟩
  have := hc j z hj
  simp only [World.cell?, hb, hb'] at this ⊢
  exact this

set_option maxRecDepth 100000 in
set_option maxHeartbeats 1000000 in
theorem backK_iter (X : Nat → TypeId → Prop) (b c : Nat) (hXl : ¬ X b 22) (A : Option Addr) (vs : List Value) (w : World) (hr : SlsK X w A vs) (hlen : vs.length ≤ 1048576)
    (hb : w.heap[b]? = some (.cells #[.slice A vs.length c] 22 (0, 0))) :
    SeqOwnK idx X Tryd.prog 105 #[.pointer (some ⟨b, 0, none⟩)] (back vs) w := by
  intro n l J Jx W hW hJ hJx hY h0
  have hb1 := hW.cell hb hXl
  have hr1 := hr.keep hW
  obtain ⟨k, hk⟩ : ∃ k, vs.length = k := ⟨_, rfl⟩
  have HC : Hid (∀ wr, KeepsK X W wr → wr.cell? ⟨b, 0, none⟩ = some (.slice A k c)) := Lib.hid (fun wr h => by
    have := h.cell hb1 hXl
    rw [← hk]
    simp [World.cell?, this])
  have hc := HC.out W (KeepsK.refl _ _)
  have HN : Hid (∀ (j i : Nat) (v : Value), i + j + 1 = k → vs[i]? = some v → (back vs)[j]? = some ((i : Int), v)) := Lib.hid (fun j i v h hv => back_at (by omega) hv)
  have HSL := Lib.hid (back_len vs)
  obtain ⟨ns, hns⟩ : ∃ ns, back vs = ns := ⟨_, rfl⟩
  have HR := Lib.hid hr1
  have HY := Lib.hid hY
  have HK := Lib.hid hk
  have hk6 : k ≤ 1048576 := by omega
  rw [hns] at HY HN HSL ⊢
  clear hb hb1 hr hr1 hY hlen hns hk
  show CallsIn Fence.wide n Tryd.prog 105 #[.func (.yield l) #[] #[], .pointer (some ⟨b, 0, none⟩)] W _
  refine callsIn_of_wp Tryd.func105 rfl trivial ?_ rfl
  simp only [Tryd.ntmps105, List.size_toArray, List.length_cons, List.length_nil, Nat.reduceAdd, Nat.reduceSub, Array.replicate_succ, Array.replicate_zero, List.push_toArray, List.append_toArray, List.nil_append, List.cons_append]
  gi_wp2
  gi_loopw [3] (fun i wr => ∃ j : Nat, j ≤ k ∧ i = .int .i64 ((k : Int) - 1 - j) ∧ Hid (J (ns.take j) wr) ∧ Hid (KeepsK X W wr)) (fun i _ => (intOf i + 1).toNat)
  case atStart => exact ⟨0, Nat.zero_le _, by simp, Lib.hid h0, Lib.hid (KeepsK.refl _ _)⟩
  case round =>
    obtain ⟨j, hj, rfl, hjj, hkx⟩ := hrel
    have hcr := HC.out wr hkx.out
    by_cases hlt2 : j < k
    · obtain ⟨i, hi⟩ : ∃ i, i + j + 1 = k := ⟨k - 1 - j, by omega⟩
      have hiz : (k : Int) - 1 - j = (i : Int) := by omega
      rw [hiz]
      obtain ⟨v, hv⟩ : ∃ v, vs[i]? = some v := ⟨_, List.getElem?_eq_getElem (by have := HK.out; omega)⟩
      obtain ⟨b2, off, xs, m, rfl, _, _, hcc⟩ := (HR.out.keep hkx.out) (by have := HK.out; omega)
      have hcell := hcc i v hv
      have hat := HN.out j i v hi hv
      obtain ⟨fn, tmps, assign, body, hy, hR⟩ := HY.out (n - 1) (ns.take j) ((i : Int), v) wr hjj.out (by rw [← at_take hat]; exact List.take_prefix _ _)
      rw [← at_take hat] at hR
      simp only [idx] at hy
      have hik : (i : Int) < (k : Int) := by omega
      clear hcc hv hat hiz
      gi_wp2_with (refine ⟨fun h => (by cases h), ?_⟩; refine hR.mono ?_; clear hR; rintro e W' (⟨rfl, hJ', hk⟩ | ⟨rfl, hJx', hk⟩))
      · have HJ' := Lib.hid hJ'
        have HK' := Lib.hid (hkx.out.trans hk)
        clear hJ' hk
        go_roundw
        case rel => exact ⟨j + 1, by omega, by congr 1; omega, HJ', HK'⟩
        case measure => simp [intOf] <;> omega
      · refine bodyPost_ret (results_none rfl _ _ _) rfl ?_
        exact ⟨⟨_, rfl⟩, .inr ⟨ns.take (j + 1), List.take_prefix _ _, hJx'⟩⟩
    · have hjn : j = k := by omega
      have HJ := Lib.hid hjn
      have hneg : (k : Int) - 1 - j = -1 := by omega
      rw [hneg]
      clear hjn hneg
      gi_wp2
      go_end0
      refine ⟨⟨_, rfl⟩, .inl ?_⟩
      have := hjj.out
      rw [List.take_of_length_le (by have h1 := HJ.out; have h2 := HSL.out; have h3 := HK.out; omega)] at this
      exact this
end

/- RngA -/
section
open Go.RowKit

theorem range_ownA {α : Type} (vs : α → Array Value) {P : Program} {g : Operand} {ps : Array Tmp} {assign body : Code} {Q : Exit → Act → World → Prop} {a : Act} {w : World} {n : Nat} {X : Nat → TypeId → Prop}
    {gf : Nat} {lb : Array Value} (hg : a.eval g = .func (.func gf) #[] lb) (eg : ∀ args w, (callFunc gf args).run P w = .ok (.enter gf args) w)
    {zs : List α} (hseq : SeqOwnK vs X P gf lb zs w) (I Ix : List α → World → Prop) (hI : OwnFrom w.heap.size I) (hIx : OwnFrom w.heap.size Ix) (h0 : I [] w) (hsz : ∀ x, (vs x).size = ps.size) (st : α → World → World) (hst : ∀ (x : α) (W : World), W.grownBy (st x W) none) (a₁ : α → World → Act)
    (hassign : ∀ (l m : Nat) (x : α) (W : World) (K : Act → World → Prop), K (a₁ x W) (st x W) →
      assign.wpIn (Fence.wide.inRound l) m P (Exit.then K (fun _ _ _ => False)) { tmps := (ps.zip (vs x)).foldl (fun t (q, v) => t.setIfInBounds q v) a.tmps, defers := [] } W)
    (hbody : ∀ (l m : Nat) (pre : List α) (x : α) (W Wb : World), w.heap.size ≤ l → (∃ r, Wb.heap[l]? = some (.loop r)) → I pre W → I pre Wb → Wb.heap.size = (st x W).heap.size → (∀ (k : Nat) (xs : Array Value) (t : TypeId) (fr : Nat × Nat), (st x W).heap[k]? = some (.cells xs t fr) → Wb.heap[k]? = some (.cells xs t fr)) → pre ++ [x] <+: zs → body.wpIn (Fence.wide.inRound l) m P (rangeEndK X w.heap.size I Ix (pre ++ [x]) Wb) (a₁ x W) Wb)
    (hdone : ∀ (D : Nat) (W : World), w.heap.size ≤ D → I zs W → W.heap[D]? = some (.deferred (some [])) → Q .normal { a with defers := mark D :: a.defers } W)
    (hstop : ∀ (D : Nat) (pre : List α) (W : World), w.heap.size ≤ D → pre <+: zs → Ix pre W → W.heap[D]? = some (.deferred (some [])) → Code.ret.wpIn Fence.wide n P Q { a with defers := mark D :: a.defers } W) :
    (Code.rangeFunc g ps assign body).wpIn Fence.wide n P Q a w := by
  refine wpIn_rangeFunc ?_
  intro fn hfn
  obtain ⟨R, hR⟩ : ∃ R : LoopState → Option Code → Loop, R = fun st pe => { state := st, pending := pe, fn, tmps := a.tmps, params := ps, assign, body, defers := w.heap.size } := ⟨_, rfl⟩
  obtain ⟨V, hV⟩ : ∃ V, (w.alloc (.deferred (some []))).alloc (.loop (R .ready none)) = V := ⟨_, rfl⟩
  have vsz : V.heap.size = w.heap.size + 2 := by rw [← hV]; simp
  have vg : w.grownBy V none := by rw [← hV]; exact (World.grownBy_alloc _ _ _).trans (World.grownBy_alloc _ _ _)
  have vl : V.heap[w.heap.size + 1]? = some (.loop (R .ready none)) := by
    have h1 := World.alloc_heap_new (w.alloc (.deferred (some []))) (.loop (R .ready none))
    rw [World.size_alloc] at h1
    rw [← hV]; exact h1
  have vd : V.heap[w.heap.size]? = some (.deferred (some [])) := by
    rw [← hV]; exact (Below.heap_alloc _ _ _ (by simp)).trans (World.alloc_heap_new w _)
  refine ⟨w.heap.size + 1, [mark w.heap.size], V, { target := .fn (.func gf) lb, args := #[.func (.yield (w.heap.size + 1)) #[] #[]] }, V, gf, #[.func (.yield (w.heap.size + 1)) #[] #[]] ++ lb, V, ?_, ?_, ?_, ?_, ?_, ?_⟩
  · rw [← hV, hR]; exact run_enterLoop_outer _ _ _ _ _
  · simp only [resolve, hg]
    simp [go_sem]
  · intro _ _; trivial
  · simp [invoke, go_sem, eg]
  · intro h; cases h
  · -- what stands beside the invariant: the loop's record and the block of its mark
    have side : ∀ (st : LoopState) (pe : Option Code) (A B : World) (row : Option Nat), A.grownBy B row → (∀ r, row = some r → V.heap.size ≤ r ∧ ∃ o : Obj, A.heap[r]? = some o ∧ o.isCells = false) →
        A.heap[w.heap.size + 1]? = some (.loop (R st pe)) ∧ A.heap[w.heap.size]? = some (.deferred (some [])) → B.heap[w.heap.size + 1]? = some (.loop (R st pe)) ∧ B.heap[w.heap.size]? = some (.deferred (some [])) := fun st pe A B row hg' hr hs =>
      ⟨(hg'.block _ (Array.getElem?_eq_some_iff.1 hs.1).1 (fun e => by have := (hr _ e.symm).1; omega)).trans hs.1,
       (hg'.block _ (Array.getElem?_eq_some_iff.1 hs.2).1 (fun e => by have := (hr _ e.symm).1; omega)).trans hs.2⟩
    have hI2 : OwnFrom V.heap.size (fun pre W => I pre W ∧ W.heap[w.heap.size + 1]? = some (.loop (R .ready none)) ∧ W.heap[w.heap.size]? = some (.deferred (some []))) := fun s A B row hs hg' hr =>
      ⟨hI s A B row hs.1 hg' (fun r e => ⟨by have := (hr r e).1; omega, (hr r e).2⟩), side _ _ A B row hg' hr hs.2⟩
    have hIx2 : OwnFrom V.heap.size (fun pre W => Ix pre W ∧ W.heap[w.heap.size + 1]? = some (.loop (R .done (some .ret))) ∧ W.heap[w.heap.size]? = some (.deferred (some []))) := fun s A B row hs hg' hr =>
      ⟨hIx s A B row hs.1 hg' (fun r e => ⟨by have := (hr r e).1; omega, (hr r e).2⟩), side _ _ A B row hg' hr hs.2⟩
    refine (hseq _ (w.heap.size + 1) _ _ V (KeepsK.grown vg) hI2 hIx2 ?_ ⟨hI [] w V none h0 vg (fun r e => by cases e), vl, vd⟩).mono ?_
    · rintro m pre x W ⟨hi, hl, hk⟩ hlen
      have hy := run_yield (P := P) (args := (vs x)) hl (by rw [hR]; exact hsz x)
      rw [hR] at hy
      refine ⟨fn, _, assign, body, hy, roundIn_of_wpIn hfn ?_⟩
      refine hassign _ _ x W _ ?_
      have hsg := hst x W
      have hk0 := KeepsK.grown (X := X) hsg
      have hi0 := hi
      have hi := hI pre W _ none hi hsg (fun r e => by cases e)
      have hl := (hsg.block _ (Array.getElem?_eq_some_iff.1 hl).1 (by simp)).trans hl
      have hk := (hsg.block _ (Array.getElem?_eq_some_iff.1 hk).1 (by simp)).trans hk
      clear hsg
      obtain ⟨Ws, hWs⟩ : ∃ Ws, st x W = Ws := ⟨_, rfl⟩
      rw [hWs] at hk0 hi hl hk ⊢
      refine ⟨_, run_beginRound hl (by rw [hR]), ?_⟩
      have hlt : w.heap.size + 1 < Ws.heap.size := (Array.getElem?_eq_some_iff.1 hl).1
      obtain ⟨Wb, hWb⟩ : ∃ Wb, Ws.putObj (w.heap.size + 1) (.loop { R .ready none with state := .busy }) = Wb := ⟨_, rfl⟩
      have hlb : Wb.heap[w.heap.size + 1]? = some (.loop { R .ready none with state := .busy }) := by rw [← hWb]; exact World.putObj_heap_same hlt
      have hkb : Wb.heap[w.heap.size]? = some (.deferred (some [])) := by rw [← hWb]; exact (World.putObj_heap_other (by omega)).trans hk
      have hib : I pre Wb := by rw [← hWb]; exact hI.putObj _ hi (by omega) hl rfl
      rw [hWb]
      refine wpIn_mono (hbody _ _ pre x W Wb (by omega) ⟨_, hlb⟩ hi0 hib (by rw [hWs, ← hWb]; simp) (fun k xs t fr hc => by
        rw [hWs] at hc
        rw [← hWb, World.putObj_heap_other (fun e => by subst e; rw [hl] at hc; cases hc)]
        exact hc) hlen) ?_
      have last : ∀ (jump : Option Code) (W3 : World), KeepsFrom w.heap.size Wb W3 →
          (Instr.endRound (w.heap.size + 1) jump).run P W3 = .ok (.bool jump.isNone) (W3.putObj (w.heap.size + 1) (.loop (R (if jump.isNone then .ready else .done) jump))) ∧
          W3.heap[w.heap.size + 1]? = some (.loop { R .ready none with state := .busy }) ∧ W3.heap[w.heap.size]? = some (.deferred (some [])) := fun jump W3 hk3 => by
        have h3 := hk3.same _ _ (by omega) hlb rfl
        have h4 := run_endRound (P := P) jump h3
        refine ⟨?_, h3, hk3.same _ _ (Nat.le_refl _) hkb rfl⟩
        rw [h4, hR]
      rintro e a3 W3 hp
      cases e with
      | normal =>
        obtain ⟨hk3, hi3⟩ := hp
        obtain ⟨hr, hl3, hd3⟩ := last none W3 (hk3.from _)
        have hlt3 := (Array.getElem?_eq_some_iff.1 hl3).1
        refine ⟨_, _, hr, .inl ⟨rfl, ⟨hI.putObj _ hi3 (by omega) hl3 rfl, World.putObj_heap_same hlt3, (World.putObj_heap_other (by omega)).trans hd3⟩, ?_⟩⟩
        rw [← hWb] at hk3
        exact hk0.trans (KeepsK.round hl hk3)
      | ret =>
        obtain ⟨hk3, hi3⟩ := hp
        obtain ⟨hr, hl3, hd3⟩ := last (some .ret) W3 hk3
        have hlt3 := (Array.getElem?_eq_some_iff.1 hl3).1
        refine ⟨_, _, hr, .inr ⟨rfl, ⟨hIx.putObj _ hi3 (by omega) hl3 rfl, World.putObj_heap_same hlt3, (World.putObj_heap_other (by omega)).trans hd3⟩, ?_⟩⟩
        have hkf : KeepsFrom V.heap.size Ws (W3.putObj (w.heap.size + 1) (.loop (R .done (some .ret)))) := by
          refine ⟨?_, fun k o hk ho hc => ?_⟩
          · have := hk3.size
            rw [← hWb] at this
            simpa using this
          · rw [World.putObj_heap_other (by omega)]
            refine hk3.same k o (by omega) ?_ hc
            rw [← hWb, World.putObj_heap_other (by omega)]
            exact ho
        exact (hk0.from _).trans hkf
      | exit id => exact hp.elim
      | goto t => exact hp.elim
      | panic ch => exact hp.elim
      | outgrown => exact hp.elim
    · rintro e W2 ⟨⟨v, rfl⟩, (⟨hi, hl, hk⟩ | ⟨pre, hpre, hi, hl, hk⟩)⟩
      · have h5 := run_endLoop (P := P) hl (by rw [hR]; simp)
        refine ⟨none, _, by rw [h5, hR], hdone _ _ (Nat.le_refl _) (hI.putObj _ hi (by omega) hl rfl) ((World.putObj_heap_other (by omega)).trans hk)⟩
      · have h5 := run_endLoop (P := P) hl (by rw [hR]; simp)
        refine ⟨some .ret, _, by rw [h5, hR], hstop _ pre _ (Nat.le_refl _) hpre (hIx.putObj _ hi (by omega) hl rfl) ((World.putObj_heap_other (by omega)).trans hk)⟩
end

/- IterL -/
section
open Go.RowKit Go.Shelf
attribute [local go_sem] Oper.semAt_some

/-- Ints that read so in every world that keeps what is not named. -/
def IntsL (X : Nat → TypeId → Prop) (w : World) (A : Option Addr) (zs : List Int) : Prop := 0 < zs.length → ∃ b off, A = some ⟨b, off, none⟩ ∧ ∀ W, KeepsK X w W → ∀ (j : Nat) (z : Int), zs[j]? = some z → W.cell? ⟨b, off + j, none⟩ = some (.int .i64 z)
theorem IntsL.keep {X : Nat → TypeId → Prop} {w w' : World} {A : Option Addr} {zs : List Int} (h : IntsL X w A zs) (hk : KeepsK X w w') : IntsL X w' A zs := fun hl => by
  obtain ⟨b, off, rfl, hc⟩ := h hl
  exact ⟨b, off, rfl, fun W hW => hc W (hk.trans hW)⟩
/-- Values that read so in every world that keeps what is not named. -/
def SlsL (X : Nat → TypeId → Prop) (w : World) (A : Option Addr) (vs : List Value) : Prop := 0 < vs.length → ∃ b off, A = some ⟨b, off, none⟩ ∧ ∀ W, KeepsK X w W → ∀ (j : Nat) (v : Value), vs[j]? = some v → W.cell? ⟨b, off + j, none⟩ = some v
theorem SlsL.keep {X : Nat → TypeId → Prop} {w w' : World} {A : Option Addr} {vs : List Value} (h : SlsL X w A vs) (hk : KeepsK X w w') : SlsL X w' A vs := fun hl => by
  obtain ⟨b, off, rfl, hc⟩ := h hl
  exact ⟨b, off, rfl, fun W hW => hc W (hk.trans hW)⟩
/-- What lies below all that may be written is kept. -/
theorem low_cell {X : Nat → TypeId → Prop} {w W W' : World} {b i : Nat} {v : Value} (hX : ∀ k t, X k t → w.heap.size ≤ k) (hb : b < w.heap.size) (hg : w.grownBy W none) (hk : KeepsK X W W') (h : w.cell? ⟨b, i, none⟩ = some v) : W'.cell? ⟨b, i, none⟩ = some v := by
  have h1 := hg.cell h (by simp)
  obtain ⟨o, ho⟩ : ∃ o, W.heap[b]? = some o := ⟨_, Array.getElem?_eq_getElem (Nat.lt_of_lt_of_le hb hg.size)⟩
  have h2 := hk.same b o ho (fun xs t m _ hx => by have := hX b t hx; omega)
  simp only [World.cell?, ho, h2] at h1 ⊢
  exact h1
theorem ints_l {X : Nat → TypeId → Prop} {w W : World} {A : Option Addr} {zs : List Int} (h : Ints w A zs) (hX : ∀ k t, X k t → w.heap.size ≤ k) (hg : w.grownBy W none) : IntsL X W A zs := fun hl => by
  obtain ⟨b, off, rfl, hb, hc⟩ := h hl
  exact ⟨b, off, rfl, fun W' hk j z hz => low_cell hX hb hg hk (hc j z hz)⟩
theorem back_pre {vs : List Value} {pre : List (Int × Value)} {x : Int × Value} (h : pre ++ [x] <+: back vs) : ∃ (i : Nat) (v : Value), i + pre.length + 1 = vs.length ∧ vs[i]? = some v ∧ x = ((i : Int), v) := by
  have hl := h.length_le
  rw [back_len, List.length_append] at hl
  simp only [List.length_cons, List.length_nil] at hl
  obtain ⟨v, hv⟩ : ∃ v, vs[vs.length - 1 - pre.length]? = some v := ⟨_, List.getElem?_eq_getElem (by omega)⟩
  have h1 := back_at (j := pre.length) (i := vs.length - 1 - pre.length) (by omega) hv
  have h2 : (back vs)[pre.length]? = some x := by
    obtain ⟨t, ht⟩ := h
    rw [← ht]
    simp
  rw [h2] at h1
  simp only [Option.some.injEq] at h1
  exact ⟨_, v, by omega, hv, h1⟩

theorem makeFunc_runL (fn : Fn) (first cap : Array Value) (w : World) : (Instr.makeFunc fn first cap).run Tryd.prog w = .ok (.func fn first cap) w := rfl
set_option maxHeartbeats 400000 in
theorem spansmakerL (A : Option Addr) (n c : Nat) (w : World) : Calls Tryd.prog 84 #[.slice A n c] w fun e w' =>
    e = .returned (.func (.func 106) #[] #[.pointer (some ⟨w.heap.size, 0, none⟩)]) ∧ w' = w.alloc (.cells #[.slice A n c] 23) := by
  have hmf := @makeFunc_runL
  go_enter Tryd.func84, Tryd.ntmps84
  go_wp2_with fail
  go_ret
  exact ⟨rfl, rfl⟩
set_option maxHeartbeats 400000 in
theorem backmakerL (A : Option Addr) (n c : Nat) (w : World) : Calls Tryd.prog 83 #[.slice A n c] w fun e w' =>
    e = .returned (.func (.func 105) #[] #[.pointer (some ⟨w.heap.size, 0, none⟩)]) ∧ w' = w.alloc (.cells #[.slice A n c] 22) := by
  have hmf := @makeFunc_runL
  go_enter Tryd.func83, Tryd.ntmps83
  go_wp2_with fail
  go_ret
  exact ⟨rfl, rfl⟩

set_option maxRecDepth 100000 in
set_option maxHeartbeats 1000000 in
theorem spansL_iter (X : Nat → TypeId → Prop) (b c : Nat) (A : Option Addr) (L : List Int) (w : World) (hr : IntsL X w A L) (hXl : ¬ X b 23) (hlen : L.length ≤ 1048576) (hok : okN 400 L = true)
    (hb : w.heap[b]? = some (.cells #[.slice A L.length c] 23 (0, 0))) :
    SeqOwnK twoK X Tryd.prog 106 #[.pointer (some ⟨b, 0, none⟩)] (spanK 0 L) w := by
  intro n l J Jx W hW hJ hJx hY h0
  have hb1 := hW.cell hb hXl
  have hr1 := hr.keep hW
  obtain ⟨k, hk⟩ : ∃ k, L.length = k := ⟨_, rfl⟩
  have hc : W.cell? ⟨b, 0, none⟩ = some (.slice A k c) := by rw [← hk]; simp [World.cell?, hb1]
  have HN : Hid (∀ (j : Nat) (z : Int), L[j]? = some z → (spanK 0 L)[j]? = some (sumI (L.take j), sumI (L.take j) + z)) := Lib.hid (fun j z h => by
    have := spanK_at L 0 j z h
    simpa using this)
  have HSL := Lib.hid (spanK_len L 0)
  have HB := Lib.hid (fun j => sumI_bound (okN_take hok j))
  have HOK := Lib.hid hok
  obtain ⟨ns, hns⟩ : ∃ ns, spanK 0 L = ns := ⟨_, rfl⟩
  have HR := Lib.hid hr1
  have HY := Lib.hid hY
  have HK := Lib.hid hk
  have hk6 : k ≤ 1048576 := by omega
  rw [hns] at HY HN HSL ⊢
  clear hb hb1 hr hr1 hY hok hlen hns hk
  show CallsIn Fence.wide n Tryd.prog 106 #[.func (.yield l) #[] #[], .pointer (some ⟨b, 0, none⟩)] W _
  refine callsIn_of_wp Tryd.func106 rfl trivial ?_ rfl
  simp only [Tryd.ntmps106, List.size_toArray, List.length_cons, List.length_nil, Nat.reduceAdd, Nat.reduceSub, Array.replicate_succ, Array.replicate_zero, List.push_toArray, List.append_toArray, List.nil_append, List.cons_append]
  gi_wp2
  gi_loopw [3, 9] (fun u i wr => ∃ j : Nat, j ≤ k ∧ i = .int .i64 j ∧ u = .int .i64 (sumI (L.take j)) ∧ Hid (J (ns.take j) wr) ∧ Hid (KeepsK X W wr)) (fun _ i _ => k - (intOf i).toNat)
  case atStart => exact ⟨0, Nat.zero_le _, rfl, rfl, Lib.hid h0, Lib.hid (KeepsK.refl _ _)⟩
  case round =>
    obtain ⟨j, hj, rfl, rfl, hjj, hkx⟩ := hrel
    have hbj := HB.out j
    by_cases hlt2 : j < k
    · obtain ⟨z, hz⟩ : ∃ z, L[j]? = some z := ⟨_, List.getElem?_eq_getElem (by have := HK.out; omega)⟩
      have hzz := okN_at hz HOK.out
      obtain ⟨b2, off, rfl, hcc0⟩ := (HR.out.keep hkx.out) (by have := HK.out; omega)
      have hcc := hcc0 wr (KeepsK.refl _ _)
      clear hcc0
      have hcell := hcc j z hz
      have hst := sumI_step hz
      have hat := HN.out j z hz
      obtain ⟨s, hs⟩ : ∃ s, sumI (L.take j) = s := ⟨_, rfl⟩
      have hl3 : (L.take j).length ≤ 1048576 := by have := HK.out; rw [List.length_take]; omega
      rw [hs] at hbj hst hat ⊢
      have hbd : 0 ≤ s ∧ s ≤ 419430400 := by omega
      obtain ⟨fn, tmps, assign, body, hy, hR⟩ := HY.out (n - 1) (ns.take j) (s, s + z) wr hjj.out (by rw [← at_take hat]; exact List.take_prefix _ _)
      rw [← at_take hat] at hR
      simp only [twoK] at hy
      have HST := Lib.hid hst
      clear hcc hz hat hst hbj
      gi_wp2_with (refine ⟨fun h => (by cases h), ?_⟩; refine hR.mono ?_; clear hR; rintro e W' (⟨rfl, hJ', hk⟩ | ⟨rfl, hJx', hk⟩))
      · have HJ' := Lib.hid hJ'
        have HK' := Lib.hid (hkx.out.trans hk)
        clear hJ' hk
        go_roundw
        case rel => exact ⟨j + 1, by omega, by go_num, by rw [HST.out], HJ', HK'⟩
        case measure => simp [intOf]; omega
      · refine bodyPost_ret (results_none rfl _ _ _) rfl ?_
        exact ⟨⟨_, rfl⟩, .inr ⟨ns.take (j + 1), List.take_prefix _ _, hJx'⟩⟩
    · have hjn : j = k := by omega
      have HJ := Lib.hid hjn
      clear hjn
      gi_wp2
      go_end0
      refine ⟨⟨_, rfl⟩, .inl ?_⟩
      have := hjj.out
      rw [List.take_of_length_le (by have h1 := HJ.out; have h2 := HSL.out; have h3 := HK.out; omega)] at this
      exact this

set_option maxRecDepth 100000 in
set_option maxHeartbeats 1000000 in
theorem backL_iter (X : Nat → TypeId → Prop) (b c : Nat) (hXl : ¬ X b 22) (A : Option Addr) (vs : List Value) (w : World) (hr : SlsL X w A vs) (hlen : vs.length ≤ 1048576)
    (hb : w.heap[b]? = some (.cells #[.slice A vs.length c] 22 (0, 0))) :
    SeqOwnK idx X Tryd.prog 105 #[.pointer (some ⟨b, 0, none⟩)] (back vs) w := by
  intro n l J Jx W hW hJ hJx hY h0
  have hb1 := hW.cell hb hXl
  have hr1 := hr.keep hW
  obtain ⟨k, hk⟩ : ∃ k, vs.length = k := ⟨_, rfl⟩
  have HC : Hid (∀ wr, KeepsK X W wr → wr.cell? ⟨b, 0, none⟩ = some (.slice A k c)) := Lib.hid (fun wr h => by
    have := h.cell hb1 hXl
    rw [← hk]
    simp [World.cell?, this])
  have hc := HC.out W (KeepsK.refl _ _)
  have HN : Hid (∀ (j i : Nat) (v : Value), i + j + 1 = k → vs[i]? = some v → (back vs)[j]? = some ((i : Int), v)) := Lib.hid (fun j i v h hv => back_at (by omega) hv)
  have HSL := Lib.hid (back_len vs)
  obtain ⟨ns, hns⟩ : ∃ ns, back vs = ns := ⟨_, rfl⟩
  have HR := Lib.hid hr1
  have HY := Lib.hid hY
  have HK := Lib.hid hk
  have hk6 : k ≤ 1048576 := by omega
  rw [hns] at HY HN HSL ⊢
  clear hb hb1 hr hr1 hY hlen hns hk
  show CallsIn Fence.wide n Tryd.prog 105 #[.func (.yield l) #[] #[], .pointer (some ⟨b, 0, none⟩)] W _
  refine callsIn_of_wp Tryd.func105 rfl trivial ?_ rfl
  simp only [Tryd.ntmps105, List.size_toArray, List.length_cons, List.length_nil, Nat.reduceAdd, Nat.reduceSub, Array.replicate_succ, Array.replicate_zero, List.push_toArray, List.append_toArray, List.nil_append, List.cons_append]
  gi_wp2
  gi_loopw [3] (fun i wr => ∃ j : Nat, j ≤ k ∧ i = .int .i64 ((k : Int) - 1 - j) ∧ Hid (J (ns.take j) wr) ∧ Hid (KeepsK X W wr)) (fun i _ => (intOf i + 1).toNat)
  case atStart => exact ⟨0, Nat.zero_le _, by simp, Lib.hid h0, Lib.hid (KeepsK.refl _ _)⟩
  case round =>
    obtain ⟨j, hj, rfl, hjj, hkx⟩ := hrel
    have hcr := HC.out wr hkx.out
    by_cases hlt2 : j < k
    · obtain ⟨i, hi⟩ : ∃ i, i + j + 1 = k := ⟨k - 1 - j, by omega⟩
      have hiz : (k : Int) - 1 - j = (i : Int) := by omega
      rw [hiz]
      obtain ⟨v, hv⟩ : ∃ v, vs[i]? = some v := ⟨_, List.getElem?_eq_getElem (by have := HK.out; omega)⟩
      obtain ⟨b2, off, rfl, hcc0⟩ := (HR.out.keep hkx.out) (by have := HK.out; omega)
      have hcc := hcc0 wr (KeepsK.refl _ _)
      clear hcc0
      have hcell := hcc i v hv
      have hat := HN.out j i v hi hv
      obtain ⟨fn, tmps, assign, body, hy, hR⟩ := HY.out (n - 1) (ns.take j) ((i : Int), v) wr hjj.out (by rw [← at_take hat]; exact List.take_prefix _ _)
      rw [← at_take hat] at hR
      simp only [idx] at hy
      have hik : (i : Int) < (k : Int) := by omega
      clear hcc hv hat hiz
      gi_wp2_with (refine ⟨fun h => (by cases h), ?_⟩; refine hR.mono ?_; clear hR; rintro e W' (⟨rfl, hJ', hk⟩ | ⟨rfl, hJx', hk⟩))
      · have HJ' := Lib.hid hJ'
        have HK' := Lib.hid (hkx.out.trans hk)
        clear hJ' hk
        go_roundw
        case rel => exact ⟨j + 1, by omega, by congr 1; omega, HJ', HK'⟩
        case measure => simp [intOf] <;> omega
      · refine bodyPost_ret (results_none rfl _ _ _) rfl ?_
        exact ⟨⟨_, rfl⟩, .inr ⟨ns.take (j + 1), List.take_prefix _ _, hJx'⟩⟩
    · have hjn : j = k := by omega
      have HJ := Lib.hid hjn
      have hneg : (k : Int) - 1 - j = -1 := by omega
      rw [hneg]
      clear hjn hneg
      gi_wp2
      go_end0
      refine ⟨⟨_, rfl⟩, .inl ?_⟩
      have := hjj.out
      rw [List.take_of_length_le (by have h1 := HJ.out; have h2 := HSL.out; have h3 := HK.out; omega)] at this
      exact this
end

/- InvR -/
section
open Go.RowKit

theorem countP_lt {α : Type} {p q : α → Bool} : ∀ {l : List α} {i : α}, (∀ x ∈ l, p x = true → q x = true) → i ∈ l → q i = true → p i = false → l.countP p < l.countP q
  | a :: l, i, h, hi, hq, hp => by
    have hle : ∀ {m : List α}, (∀ x ∈ m, p x = true → q x = true) → m.countP p ≤ m.countP q := fun {m} hm => List.countP_mono_left hm
    rw [List.countP_cons, List.countP_cons]
    rcases List.mem_cons.1 hi with rfl | hi
    · have := hle (fun x hx => h x (List.mem_cons_of_mem _ hx))
      simp [hq, hp]; omega
    · have := countP_lt (fun x hx => h x (List.mem_cons_of_mem _ hx)) hi hq hp
      have h2 := h a (List.mem_cons_self)
      cases hpa : p a
      · simp; omega
      · rw [h2 hpa]; simp; omega

/-- How many operations are not listed. -/
def unl (listed : Array Bool) : Nat := (List.range listed.size).countP fun i => !listed.getD i true
theorem unl_set {listed : Array Bool} {i : Nat} (hi : i < listed.size) (h : listed.getD i true = false) : unl (listed.setIfInBounds i true) < unl listed := by
  unfold unl
  rw [Array.size_setIfInBounds]
  refine countP_lt (i := i) (fun x hx hp => ?_) (List.mem_range.2 hi) (by simp [h]) (by simp [Array.getD, hi])
  simp only [Array.getD_eq_getD_getElem?, Array.getElem?_setIfInBounds] at hp ⊢
  by_cases e : i = x
  · subst e; simp [hi] at hp
  · simpa [e] using hp

section
variable {P : Program} {ops : Array Oper} {Q : Exit → Act → World → Prop} {md : Region.Mode}

theorem wpAny_inv (Inv : Array Bool → Act → World → Prop) (hsz : ∀ listed a w, Inv listed a w → listed.size = ops.size)
    (hac : ∀ (i : Nat) (o : Oper), ops[i]? = some o → ∀ e ∈ o.after, e.on < i)
    (hend : ∀ listed a w, Inv listed a w → (∀ i, i < ops.size → listed.getD i true = true) → Q .normal a w)
    (hstep : ∀ (i : Nat) (o : Oper) listed a w, ops[i]? = some o → Inv listed a w → listed.getD i true = false → (∀ e ∈ o.after, Region.binds md e = true → listed.getD e.on false = true) → wpOp P ops Q i (Inv (listed.setIfInBounds i true)) a w) :
    ∀ (fuel : Nat) (listed : Array Bool) (a : Act) (w : World), Inv listed a w → unl listed ≤ fuel → wpAny P md ops Q fuel listed a w := by
  have hready : ∀ (listed : Array Bool), listed.size = ops.size → Region.ready md ops listed = [] → ∀ i, i < ops.size → listed.getD i true = true := by
    intro listed hs hr i
    induction i using Nat.strongRecOn with
    | _ i ih =>
      intro hi
      cases hl : listed.getD i true with
      | true => rfl
      | false =>
        exfalso
        have hmem : i ∈ Region.ready md ops listed := by
          unfold Region.ready
          refine List.mem_filter.2 ⟨List.mem_range.2 hi, ?_⟩
          obtain ⟨o, ho⟩ : ∃ o, ops[i]? = some o := ⟨_, Array.getElem?_eq_getElem hi⟩
          simp only [hl, ho, Option.map_some, Option.getD_some, Bool.not_false, Bool.true_and]
          rw [Array.all_eq_true']
          intro e he
          have hlt := hac i o ho e he
          have := ih e.on hlt (by omega)
          have h2 : listed.getD e.on false = true := by
            simp only [Array.getD_eq_getD_getElem?, Array.getElem?_eq_getElem (show e.on < listed.size by omega), Option.getD_some] at this ⊢
            exact this
          simp [h2]
        rw [hr] at hmem
        cases hmem
  have hmem : ∀ (listed : Array Bool) (i : Nat), i ∈ Region.ready md ops listed → ∃ o, ops[i]? = some o ∧ listed.getD i true = false ∧ (∀ e ∈ o.after, Region.binds md e = true → listed.getD e.on false = true) := by
    intro listed i hi
    unfold Region.ready at hi
    obtain ⟨h1, h2⟩ := List.mem_filter.1 hi
    obtain ⟨o, ho⟩ : ∃ o, ops[i]? = some o := ⟨_, Array.getElem?_eq_getElem (List.mem_range.1 h1)⟩
    simp only [ho, Option.map_some, Option.getD_some, Bool.and_eq_true, Bool.not_eq_true', Array.all_eq_true'] at h2
    refine ⟨o, ho, h2.1, fun e he hb => ?_⟩
    have := h2.2 e he
    simpa [hb] using this
  intro fuel
  induction fuel with
  | zero =>
    intro listed a w hI hu
    have hall : ∀ i, i < ops.size → listed.getD i true = true := by
      intro i hi
      cases hl : listed.getD i true with
      | true => rfl
      | false =>
        have := unl_set (listed := listed) (i := i) (by rw [hsz _ _ _ hI]; exact hi) hl
        omega
    refine ⟨?_, hend _ _ _ hI hall⟩
    cases hr : Region.ready md ops listed with
    | nil => rfl
    | cons i l =>
      exfalso
      obtain ⟨o, ho, hl, _⟩ := hmem listed i (by rw [hr]; simp)
      have := hall i (Array.getElem?_eq_some_iff.1 ho).1
      rw [hl] at this; cases this
  | succ fuel ih =>
    intro listed a w hI hu
    refine ⟨fun hr => hend _ _ _ hI (hready listed (hsz _ _ _ hI) hr), fun i hi => ?_⟩
    obtain ⟨o, ho, hl, hd⟩ := hmem listed i hi
    refine wpOp_mono (fun a' w' hI' => ih _ a' w' hI' ?_) (hstep i o listed a w ho hI hl hd)
    have := unl_set (listed := listed) (i := i) (by rw [hsz _ _ _ hI]; exact (Array.getElem?_eq_some_iff.1 ho).1) hl
    omega

/-- What holds while a region runs: the slots that it does not write are as they were, the world has grown, and each operation that ran has answered as it is to. -/
structure RInv (ops : Array Oper) (B : Array Value) (u : World) (R : Nat → Value → World → Prop) (listed : Array Bool) (a : Act) (w : World) : Prop where
  ls : listed.size = ops.size
  size : a.tmps.size = B.size
  defs : a.defers = []
  gr : u.grownBy w none
  far : ∀ k, (∀ (i : Nat) (o : Oper), ops[i]? = some o → o.dst ≠ some k) → a.tmps.getD k undef = B.getD k undef
  done : ∀ (i : Nat) (o : Oper) (d : Nat), ops[i]? = some o → o.dst = some d → listed.getD i true = true → R i (a.tmps.getD d undef) w

/-- The law: one step for each operation. -/
theorem wp_region_inv {id : Nat} {B : Array Value} {u : World} (R : Nat → Value → World → Prop) (hm : P.follows .mixedOrders = true)
    (hmono : ∀ i v w w', R i v w → w.grownBy w' none → R i v w')
    (hac : ∀ (i : Nat) (o : Oper), ops[i]? = some o → ∀ e ∈ o.after, e.on < i)
    (hg : ∀ (i : Nat) (o : Oper), ops[i]? = some o → o.guard = none)
    (hdst : ∀ (i : Nat) (o : Oper), ops[i]? = some o → ∃ d, o.dst = some d ∧ d < B.size ∧ ∀ (j : Nat) (p : Oper), ops[j]? = some p → p.dst = some d → j = i)
    (hend : ∀ a w, RInv ops B u R (Array.replicate ops.size true) a w → Q .normal a w)
    (hstep : ∀ (i : Nat) (o : Oper) a w, ops[i]? = some o → a.defers = [] → u.grownBy w none → (∀ k, (∀ (i : Nat) (o : Oper), ops[i]? = some o → o.dst ≠ some k) → a.tmps.getD k undef = B.getD k undef) →
      (∀ (j : Nat) (p : Oper) (d : Nat), (∃ e ∈ o.after, Region.binds .any e = true ∧ e.on = j) → ops[j]? = some p → p.dst = some d → R j (a.tmps.getD d undef) w) →
      o.wp P a w (fun a' w' => ∃ v, a' = a.put o.dst v ∧ w.grownBy w' none ∧ R i v w') Q)
    (w : World) (hu : u.grownBy { w with drawn := w.drawn + 1 } none) : (Code.region id ops true).wp P Q { tmps := B, defers := [] } w := by
  refine wp_region_any hm (wpAny_inv (RInv ops B u R) (fun _ _ _ h => h.ls) hac ?_ ?_ _ _ _ _ ?_ ?_)
  · intro listed a w hI hall
    refine hend a w ⟨by simp, hI.size, hI.defs, hI.gr, hI.far, fun i o d ho hd _ => hI.done i o d ho hd (hall i (Array.getElem?_eq_some_iff.1 ho).1)⟩
  · intro i o listed a w ho hI hl hd
    unfold wpOp
    rw [ho]
    have hw : Region.wanted o (yielded ops a.tmps) = true := by simp [Region.wanted, hg i o ho]
    simp only [hw, if_true]
    left
    have hs := hstep i o a w ho hI.defs hI.gr hI.far (fun j p d ⟨e, he, hb, hj⟩ hp hpd => hI.done j p d hp hpd (by
      have := hd e he hb
      rw [hj] at this
      have hjl : j < listed.size := by rw [hI.ls]; exact (Array.getElem?_eq_some_iff.1 hp).1
      simp only [Array.getD_eq_getD_getElem?, Array.getElem?_eq_getElem hjl, Option.getD_some] at this ⊢
      exact this))
    refine Oper.wp_mono ?_ hs
    rintro a' w' ⟨v, rfl, hgr, hR⟩
    obtain ⟨d, hod, hdB, huniq⟩ := hdst i o ho
    have hil : i < listed.size := by rw [hI.ls]; exact (Array.getElem?_eq_some_iff.1 ho).1
    have hput : a.put o.dst v = { a with tmps := a.tmps.setIfInBounds d v } := by rw [hod]; rfl
    rw [hput]
    refine ⟨by simp [hI.ls], by simp [hI.size], hI.defs, hI.gr.trans hgr, fun k hk => ?_, fun j p e hp hpe hlj => ?_⟩
    · rw [← hI.far k hk]
      have : d ≠ k := fun e => hk i o ho (by rw [hod, e])
      simp [Array.getD_eq_getD_getElem?, this]
    · by_cases hji : j = i
      · subst hji
        rw [ho] at hp; cases hp
        rw [hod] at hpe; cases hpe
        have : (a.tmps.setIfInBounds d v).getD d undef = v := by simp [Array.getD_eq_getD_getElem?, hI.size, hdB]
        rw [this]; exact hR
      · have hde : d ≠ e := fun h => hji (huniq j p hp (by rw [hpe, h]))
        have : (a.tmps.setIfInBounds d v).getD e undef = a.tmps.getD e undef := by simp [Array.getD_eq_getD_getElem?, hde]
        rw [this]
        refine hmono _ _ _ _ (hI.done j p e hp hpe ?_) hgr
        have hji' : ¬ i = j := fun h => hji h.symm
        simpa [Array.getD_eq_getD_getElem?, hji'] using hlj
  · exact ⟨by simp, rfl, rfl, hu, fun _ _ => rfl, fun i o d ho _ hl => by
      have hi := (Array.getElem?_eq_some_iff.1 ho).1
      simp [Array.getD_eq_getD_getElem?, hi] at hl⟩
  · unfold unl
    refine Nat.le_trans (List.countP_le_length) ?_
    simp
/-- The closed facts on a region's operations. -/
def regOkB (n : Nat) (ops : Array Oper) : Bool :=
  ops.all (fun o => o.guard.isNone && (match o.dst with | some d => decide (d < n) | none => false)) &&
  (List.range ops.size).all fun i => match ops[i]? with
    | some o => o.after.all (fun e => decide (e.on < i)) && (List.range ops.size).all fun j => match ops[j]? with
      | some p => (p.dst != o.dst) || (i == j)
      | none => true
    | none => true
def slotFree (ops : Array Oper) (k : Nat) : Bool := ops.all fun o => o.dst != some k
def depB (o : Oper) (j : Nat) : Bool := o.after.any fun e => Region.binds .any e && (e.on == j)

/-- One operation's step. -/
def StepOk (P : Program) (Q : Exit → Act → World → Prop) (ops : Array Oper) (B : Array Value) (u : World) (R : Nat → Value → World → Prop) (i : Nat) (o : Oper) : Prop :=
  ∀ a w, a.defers = [] → u.grownBy w none → (∀ k, slotFree ops k = true → a.tmps.getD k undef = B.getD k undef) →
    (∀ (j : Nat) (p : Oper) (d : Nat), depB o j = true → ops[j]? = some p → p.dst = some d → R j (a.tmps.getD d undef) w) →
    o.wp P a w (fun a' w' => ∃ v, a' = a.put o.dst v ∧ w.grownBy w' none ∧ R i v w') Q
def AllFrom (S : Nat → Oper → Prop) : Nat → List Oper → Prop
  | _, [] => True
  | k, o :: l => S k o ∧ AllFrom S (k + 1) l
theorem allFrom_at {S : Nat → Oper → Prop} {l : List Oper} : ∀ {k i : Nat} {o : Oper}, AllFrom S k l → l[i]? = some o → S (k + i) o := by
  induction l with
  | nil => intro k i o _ h; simp at h
  | cons a l ih =>
    intro k i o h ho
    cases i with
    | zero => simp at ho; subst ho; exact h.1
    | succ i =>
      have := ih (k := k + 1) (i := i) h.2 (by simpa using ho)
      have e : k + (i + 1) = k + 1 + i := by omega
      rw [e]
      exact this

theorem wp_region_steps {id : Nat} {B : Array Value} {u : World} (n : Nat) (hB : B.size = n) (hok : regOkB n ops = true) (R : Nat → Value → World → Prop) (hm : P.follows .mixedOrders = true)
    (hmono : ∀ i v w w', R i v w → w.grownBy w' none → R i v w')
    (hend : ∀ a w, a.defers = [] → u.grownBy w none → (∀ k, slotFree ops k = true → a.tmps.getD k undef = B.getD k undef) → (∀ (i : Nat) (o : Oper) (d : Nat), ops[i]? = some o → o.dst = some d → R i (a.tmps.getD d undef) w) → Q .normal a w)
    (hstep : AllFrom (StepOk P Q ops B u R) 0 ops.toList)
    (w : World) (hu : u.grownBy { w with drawn := w.drawn + 1 } none) : (Code.region id ops true).wp P Q { tmps := B, defers := [] } w := by
  unfold regOkB at hok
  rw [Bool.and_eq_true, Array.all_eq_true', List.all_eq_true] at hok
  obtain ⟨h1, h2⟩ := hok
  have hmemo : ∀ (i : Nat) (o : Oper), ops[i]? = some o → o ∈ ops := fun i o ho => Array.mem_of_getElem? ho
  have h2' : ∀ (i : Nat) (o : Oper), ops[i]? = some o → (o.after.all (fun e => decide (e.on < i)) = true) ∧ ∀ (j : Nat) (p : Oper), ops[j]? = some p → p.dst = o.dst → j = i := by
    intro i o ho
    have := h2 i (List.mem_range.2 (Array.getElem?_eq_some_iff.1 ho).1)
    simp only [ho, Bool.and_eq_true, List.all_eq_true] at this
    refine ⟨this.1, fun j p hp hd => ?_⟩
    have := this.2 j (List.mem_range.2 (Array.getElem?_eq_some_iff.1 hp).1)
    simp only [hp, Bool.or_eq_true, bne_iff_ne, ne_eq, beq_iff_eq] at this
    rcases this with h | h
    · exact absurd hd h
    · exact h.symm
  have hfree : ∀ k, slotFree ops k = true → ∀ (i : Nat) (o : Oper), ops[i]? = some o → o.dst ≠ some k := by
    intro k hk i o ho
    unfold slotFree at hk
    rw [Array.all_eq_true'] at hk
    have := hk o (hmemo i o ho)
    simpa using this
  refine wp_region_inv R hm hmono ?_ ?_ ?_ ?_ ?_ w hu
  · intro i o ho e he
    have := (h2' i o ho).1
    rw [Array.all_eq_true'] at this
    simpa using this e he
  · intro i o ho
    have := h1 o (hmemo i o ho)
    simp only [Bool.and_eq_true, Option.isNone_iff_eq_none] at this
    exact this.1
  · intro i o ho
    have := h1 o (hmemo i o ho)
    simp only [Bool.and_eq_true] at this
    cases hd : o.dst with
    | none => rw [hd] at this; simp at this
    | some d =>
      rw [hd] at this
      refine ⟨d, rfl, by rw [hB]; simpa using this.2, fun j p hp hpd => (h2' i o ho).2 j p hp (by rw [hpd, hd])⟩
  · intro a w hI
    refine hend a w hI.defs hI.gr (fun k hk => hI.far k (hfree k hk)) (fun i o d ho hd => hI.done i o d ho hd ?_)
    have hi := (Array.getElem?_eq_some_iff.1 ho).1
    simp [Array.getD_eq_getD_getElem?, hi]
  · intro i o a w ho hd hg hf hdep
    have hS := allFrom_at hstep (i := i) (o := o) (by simpa using ho)
    rw [Nat.zero_add] at hS
    refine hS a w hd hg (fun k hk => hf k (hfree k hk)) (fun j p d hj hp hpd => hdep j p d ?_ hp hpd)
    unfold depB at hj
    rw [Array.any_eq_true'] at hj
    obtain ⟨e, he, hb⟩ := hj
    simp only [Bool.and_eq_true, beq_iff_eq] at hb
    exact ⟨e, he, hb.1, hb.2⟩
end
end

/- StillIn -/
section

/-- A fence that lets everything by. -/
structure Lets (F : Fence) : Prop where
  fn : ∀ f, F.fn f
  depth : F.depth = none
  calls : ∀ (n : Nat) (P : Program) (f : FuncId) (args : Array Value) (w : World) (R : Ending → World → Prop), Calls P f args w R → CallsIn F n P f args w R
theorem lets_wide : Lets Fence.wide := ⟨fun _ => trivial, rfl, fun _ _ _ _ _ _ h => callsIn_wide.2 h⟩
theorem lets_round (l : Nat) : Lets (Fence.wide.inRound l) := ⟨fun _ => trivial, rfl, fun _ _ _ _ _ _ h => CallsIn.inRound l (callsIn_wide.2 h)⟩

section
variable {F : Fence} {n : Nat} {P : Program} {ops : Array Oper} {md : Region.Mode} {w : World}

def noDefer (ops : Array Oper) : Prop := ∀ o ∈ ops, ∀ c, o.op ≠ .defer c
def noDeferB (ops : Array Oper) : Bool := ops.all fun o => match o.op with | .defer _ => false | _ => true
theorem noDefer_of {ops : Array Oper} (h : noDeferB ops = true) : noDefer ops := fun o ho c e => by
  unfold noDeferB at h
  rw [Array.all_eq_true'] at h
  have := h o ho
  rw [e] at this
  cases this

theorem wpIn_of_still (hF : Lets F) {o : Oper} (hd : ∀ c, o.op ≠ .defer c) {a : Act} {K : Act → Prop} {K' : Act → World → Prop} {Q' : Exit → Act → World → Prop} (h : ∀ a, K a → K' a w) (hh : o.still P a w K) : o.wpIn F n P a w K' Q' := by
  unfold Oper.still at hh
  unfold Oper.wpIn
  refine ⟨fun f _ => hF.fn f, ?_⟩
  rw [Oper.semAt_eq _ _ _ hd]
  generalize (execOp a.eval o).run P w = r at *
  cases r with
  | ok x w' =>
    cases x <;> simp only [Oper.stillUpon] at hh <;> simp only [Oper.uponIn]
    case enter f args =>
      obtain ⟨rfl, v, hc, hn⟩ := hh
      refine ⟨fun h => by (rw [hF.depth] at h; cases h), (hF.calls _ _ _ _ _ _ hc).mono fun e w'' ⟨he, hw⟩ => ?_⟩
      subst he; subst hw; exact h _ hn
    all_goals (obtain ⟨rfl, h2⟩ := hh; exact h _ h2)
  | halt x w' => simp only [Oper.stillUpon] at hh

theorem wpOpIn_of_stOp (hF : Lets F) (hd : noDefer ops) {i : Nat} {a : Act} {K : Act → Prop} {K' : Act → World → Prop} {Q' : Exit → Act → World → Prop} (h : ∀ a, K a → K' a w) (hh : stOp P ops w i K a) : wpOpIn F n P ops Q' i K' a w := by
  unfold stOp at hh
  unfold wpOpIn
  split
  · rename_i ho; simp only [ho] at hh; exact h _ hh
  · rename_i o ho
    simp only [ho] at hh
    split
    · rename_i hw; simp only [hw, if_true] at hh; exact wpIn_of_still hF (hd o (Array.mem_of_getElem? ho)) h hh
    · rename_i hw; simp only [hw] at hh; exact ⟨fun f _ => hF.fn f, h _ hh⟩

theorem wpAnyIn_of_head (hF : Lets F) (hd : noDefer ops) {k g : Nat} {L : Array Bool → Act → Prop} {Q' : Exit → Act → World → Prop} (hL : ∀ listed a, L listed a → wpAnyIn F n P md ops Q' g listed a w) :
    ∀ (f : Nat) (listed : Array Bool) (a : Act), wpAnyL P md ops w k L f listed a → wpAnyIn F n P md ops Q' (f + g) listed a w
  | 0, listed, a, h => by rw [Nat.zero_add]; exact hL _ _ h
  | f + 1, listed, a, h => by
    rw [show f + 1 + g = (f + g) + 1 by omega]
    exact ⟨fun h0 => absurd h0 h.1, fun i hi => wpOpIn_of_stOp hF hd (fun a' h' => wpAnyIn_of_head hF hd hL f _ a' h') (h.2 i hi).2⟩

theorem wpAnyIn_of_seq {Q' : Exit → Act → World → Prop} : ∀ (l : List Oper) (k : Nat) (listed : Array Bool) (a : Act) (w : World), (∀ j, l[j]? = ops[k + j]?) →
    Region.seqB md ops l.length k listed = true → wpListIn F n P ops Q' l a w → wpAnyIn F n P md ops Q' l.length listed a w
  | [], _, _, _, _, _, hB, h => ⟨by simpa [Region.seqB] using hB, h⟩
  | o :: l, k, listed, a, w, hl, hB, h => by
    have h0 : ops[k]? = some o := by simpa using (hl 0).symm
    simp only [List.length_cons, Region.seqB, Bool.and_eq_true, decide_eq_true_eq] at hB
    refine ⟨fun h1 => (by rw [hB.1] at h1; cases h1), fun i hi => ?_⟩
    rw [hB.1] at hi
    have hik : i = k := by simpa using hi
    subst hik
    have hw : wpOpIn F n P ops Q' i (wpListIn F n P ops Q' l) a w := by unfold wpOpIn; simp only [h0]; exact h
    exact wpOpIn_mono (fun a' w' h' => wpAnyIn_of_seq l (i + 1) _ a' w' (fun j => by have := hl (j + 1); simpa [Nat.add_assoc, Nat.add_comm 1 j] using this) hB.2 h') hw

theorem wpIn_region_still_tail (hF : Lets F) {id : Nat} {Q : Exit → Act → World → Prop} {a : Act} {w : World} {l : List Oper} (k : Nat) (hm : P.follows .mixedOrders = true) (hB : Region.lexTailB .any l.toArray k = true) (hdf : noDeferB l.toArray = true)
    (h : wpStill P l.toArray w.drew (fun a' => wpListIn F n P l.toArray Q (l.drop k) a' w.drew) (l.take k) a) : (Code.region id l.toArray true).wpIn F n P Q a w := by
  simp only [Region.lexTailB, Bool.and_eq_true, decide_eq_true_eq] at hB
  obtain ⟨⟨⟨⟨hsel, hn⟩, hs⟩, hc⟩, hlex⟩ := hB
  have hn' : k < l.length := by simpa using hn
  have htl : (l.take k).length = k := by simp; omega
  have hdl : (l.drop k).length = l.toArray.size - k := by simp
  have inv0 : HeadInv .any l.toArray k (Array.replicate l.toArray.size false) :=
    ⟨by simp, fun j oj _ hl => (by rw [getD_replicate_false] at hl; cases hl), fun t _ ht => getD_in (by simpa using ht) (getD_replicate_false _ _)⟩
  have H := wpAnyL_lex (md := .any) (g := l.toArray.size - k) hsel hs hc hn (l.take k) 0 _ a (fun j hj => by
    have hj' : j < k := by rw [htl] at hj; exact hj
    simp [hj']) (by simpa using htl) inv0 (by rw [htl]; exact hlex) h
  refine wpIn_region_any hm ?_
  have := wpAnyIn_of_head (F := F) (n := n) hF (noDefer_of hdf) (Q' := Q) (g := l.toArray.size - k) (fun listed a' hL => by
    have := wpAnyIn_of_seq (F := F) (n := n) (md := .any) (Q' := Q) (l.drop k) k listed a' w.drew (fun j => by simp [List.getElem?_drop]) (by rw [hdl]; exact hL.1) hL.2
    rwa [hdl] at this) _ _ _ H
  rw [htl, show k + (l.toArray.size - k) = l.toArray.size by omega] at this
  exact this
end
end

/- RgnV -/
section
open Go.RowKit

section
variable {l : Nat} {n : Nat} {P : Program} {ops : Array Oper} {Q : Exit → Act → World → Prop} {md : Region.Mode}

theorem wpIn_of_wpO {o : Oper} (hd : ∀ c, o.op ≠ .defer c) {a : Act} {w : World} {K : Act → World → Prop} (h : o.wp P a w K Q) : o.wpIn (Fence.wide.inRound l) n P a w K Q := by
  unfold Oper.wp at h
  unfold Oper.wpIn
  refine ⟨fun f _ => trivial, ?_⟩
  rw [Oper.semAt_eq _ _ _ hd]
  generalize (execOp a.eval o).run P w = r at *
  cases r with
  | ok x w' =>
    cases x <;> simp only [Oper.upon] at h <;> simp only [Oper.uponIn]
    case enter f args => exact ⟨fun h => by simp [Fence.wide] at h, CallsIn.inRound l (callsIn_wide.2 h)⟩
    case row row args => exact ⟨fun h => by simp [Fence.wide] at h, (fun c cs _ => by obtain ⟨v, w2, r, s⟩ := h c cs; exact ⟨v, w2, r, stepsIn_wide.2 s⟩)⟩
    all_goals exact h
  | halt x w' => cases x <;> simp only [Oper.upon] at h <;> simp only [Oper.uponIn]; exact h


theorem wpAnyIn_inv (Inv : Array Bool → Act → World → Prop) (hsz : ∀ listed a w, Inv listed a w → listed.size = ops.size)
    (hac : ∀ (i : Nat) (o : Oper), ops[i]? = some o → ∀ e ∈ o.after, Region.binds md e = true → e.on < i)
    (hend : ∀ listed a w, Inv listed a w → (∀ i, i < ops.size → listed.getD i true = true) → Q .normal a w)
    (hstep : ∀ (i : Nat) (o : Oper) listed a w, ops[i]? = some o → Inv listed a w → listed.getD i true = false → (∀ e ∈ o.after, Region.binds md e = true → listed.getD e.on false = true) → wpOpIn (Fence.wide.inRound l) n P ops Q i (Inv (listed.setIfInBounds i true)) a w) :
    ∀ (fuel : Nat) (listed : Array Bool) (a : Act) (w : World), Inv listed a w → unl listed ≤ fuel → wpAnyIn (Fence.wide.inRound l) n P md ops Q fuel listed a w := by
  have hready : ∀ (listed : Array Bool), listed.size = ops.size → Region.ready md ops listed = [] → ∀ i, i < ops.size → listed.getD i true = true := by
    intro listed hs hr i
    induction i using Nat.strongRecOn with
    | _ i ih =>
      intro hi
      cases hl : listed.getD i true with
      | true => rfl
      | false =>
        exfalso
        have hmem : i ∈ Region.ready md ops listed := by
          unfold Region.ready
          refine List.mem_filter.2 ⟨List.mem_range.2 hi, ?_⟩
          obtain ⟨o, ho⟩ : ∃ o, ops[i]? = some o := ⟨_, Array.getElem?_eq_getElem hi⟩
          simp only [hl, ho, Option.map_some, Option.getD_some, Bool.not_false, Bool.true_and]
          rw [Array.all_eq_true']
          intro e he
          cases hb : Region.binds md e with
          | false => rfl
          | true =>
          have hlt := hac i o ho e he hb
          have := ih e.on hlt (by omega)
          have h2 : listed.getD e.on false = true := by
            simp only [Array.getD_eq_getD_getElem?, Array.getElem?_eq_getElem (show e.on < listed.size by omega), Option.getD_some] at this ⊢
            exact this
          simp [h2]
        rw [hr] at hmem
        cases hmem
  have hmem : ∀ (listed : Array Bool) (i : Nat), i ∈ Region.ready md ops listed → ∃ o, ops[i]? = some o ∧ listed.getD i true = false ∧ (∀ e ∈ o.after, Region.binds md e = true → listed.getD e.on false = true) := by
    intro listed i hi
    unfold Region.ready at hi
    obtain ⟨h1, h2⟩ := List.mem_filter.1 hi
    obtain ⟨o, ho⟩ : ∃ o, ops[i]? = some o := ⟨_, Array.getElem?_eq_getElem (List.mem_range.1 h1)⟩
    simp only [ho, Option.map_some, Option.getD_some, Bool.and_eq_true, Bool.not_eq_true', Array.all_eq_true'] at h2
    refine ⟨o, ho, h2.1, fun e he hb => ?_⟩
    have := h2.2 e he
    simpa [hb] using this
  intro fuel
  induction fuel with
  | zero =>
    intro listed a w hI hu
    have hall : ∀ i, i < ops.size → listed.getD i true = true := by
      intro i hi
      cases hl : listed.getD i true with
      | true => rfl
      | false =>
        have := unl_set (listed := listed) (i := i) (by rw [hsz _ _ _ hI]; exact hi) hl
        omega
    refine ⟨?_, hend _ _ _ hI hall⟩
    cases hr : Region.ready md ops listed with
    | nil => rfl
    | cons i l =>
      exfalso
      obtain ⟨o, ho, hl, _⟩ := hmem listed i (by rw [hr]; simp)
      have := hall i (Array.getElem?_eq_some_iff.1 ho).1
      rw [hl] at this; cases this
  | succ fuel ih =>
    intro listed a w hI hu
    refine ⟨fun hr => hend _ _ _ hI (hready listed (hsz _ _ _ hI) hr), fun i hi => ?_⟩
    obtain ⟨o, ho, hl, hd⟩ := hmem listed i hi
    refine wpOpIn_mono (fun a' w' hI' => ih _ a' w' hI' ?_) (hstep i o listed a w ho hI hl hd)
    have := unl_set (listed := listed) (i := i) (by rw [hsz _ _ _ hI]; exact (Array.getElem?_eq_some_iff.1 ho).1) hl
    omega


/-- The closed facts on a region's operations. -/
def regOkV (n : Nat) (ops : Array Oper) : Bool :=
  ops.all (fun o => o.guard.isNone && (match o.dst with | some d => decide (d < n) | none => false)) &&
  (List.range ops.size).all fun i => match ops[i]? with
    | some o => o.after.all (fun e => !Region.binds .any e || decide (e.on < i)) && (List.range ops.size).all fun j => match ops[j]? with
      | some p => (p.dst != o.dst) || (i == j)
      | none => true
    | none => true
/-- What slots hold when each operation has given its value. -/
def putVals : List Oper → List Value → Array Value → Array Value
  | o :: os, v :: vs, t => putVals os vs (match o.dst with | some d => t.setIfInBounds d v | none => t)
  | _, _, t => t

theorem putVals_size : ∀ (os : List Oper) (vs : List Value) (t : Array Value), (putVals os vs t).size = t.size
  | [], _, _ => rfl
  | _ :: _, [], _ => rfl
  | o :: os, v :: vs, t => by
    rw [putVals, putVals_size os vs]
    cases o.dst <;> simp
theorem putVals_free : ∀ (os : List Oper) (vs : List Value) (t : Array Value) (k : Nat), (∀ o ∈ os, o.dst ≠ some k) → (putVals os vs t).getD k undef = t.getD k undef
  | [], _, _, _, _ => rfl
  | _ :: _, [], _, _, _ => rfl
  | o :: os, v :: vs, t, k, h => by
    rw [putVals, putVals_free os vs _ k (fun p hp => h p (by simp [hp]))]
    have h1 := h o (by simp)
    cases hd : o.dst with
    | none => rfl
    | some d =>
      rw [hd] at h1
      have : d ≠ k := fun e => h1 (by rw [e])
      simp [Array.getD_eq_getD_getElem?, this]
theorem putVals_at : ∀ (os : List Oper) (vs : List Value) (t : Array Value) (i : Nat) (o : Oper) (d : Nat), os.length ≤ vs.length → os[i]? = some o → o.dst = some d → d < t.size → (∀ (j : Nat) (p : Oper), os[j]? = some p → p.dst = some d → j = i) → (putVals os vs t).getD d undef = vs.getD i undef
  | [], _, _, _, _, _, _, h, _, _, _ => by simp at h
  | _ :: _, [], _, _, _, _, h, _, _, _, _ => by simp at h
  | o :: os, v :: vs, t, 0, q, d, hl, hq, hd, hs, hu => by
    simp only [List.getElem?_cons_zero, Option.some.injEq] at hq
    subst hq
    rw [putVals, hd, putVals_free os vs _ d (fun p hp he => by
      obtain ⟨j, hj⟩ := List.getElem?_of_mem hp
      have := hu (j + 1) p (by simpa using hj) he
      omega)]
    simp [Array.getD_eq_getD_getElem?, hs]
  | o :: os, v :: vs, t, i + 1, q, d, hl, hq, hd, hs, hu => by
    have hq' : os[i]? = some q := by simpa using hq
    rw [putVals, putVals_at os vs _ i q d (by simpa using hl) hq' hd (by cases o.dst <;> simpa using hs) (fun j p hj he => by
      have := hu (j + 1) p (by simpa using hj) he
      omega)]
    simp

/-- One operation's step. -/
def StepV (P : Program) (Q : Exit → Act → World → Prop) (ops : Array Oper) (B : Array Value) (u : World) (vals : List Value) (i : Nat) (o : Oper) : Prop :=
  ∀ a w, a.defers = [] → u.grownBy w none → (∀ k, slotFree ops k = true → a.tmps.getD k undef = B.getD k undef) →
    (∀ (j : Nat) (p : Oper) (d : Nat), depB o j = true → ops[j]? = some p → p.dst = some d → a.tmps.getD d undef = vals.getD j undef) →
    o.wp P a w (fun a' w' => a' = a.put o.dst (vals.getD i undef) ∧ w.grownBy w' none) Q

/-- What holds while a region runs. -/
structure VInv (ops : Array Oper) (B : Array Value) (u : World) (vals : List Value) (listed : Array Bool) (a : Act) (w : World) : Prop where
  ls : listed.size = ops.size
  size : a.tmps.size = B.size
  defs : a.defers = []
  gr : u.grownBy w none
  far : ∀ k, slotFree ops k = true → a.tmps.getD k undef = B.getD k undef
  done : ∀ (i : Nat) (o : Oper) (d : Nat), ops[i]? = some o → o.dst = some d → listed.getD i true = true → a.tmps.getD d undef = vals.getD i undef

theorem getD_ext {A B : Array Value} (hs : A.size = B.size) (h : ∀ k, k < A.size → A.getD k undef = B.getD k undef) : A = B := by
  refine Array.ext hs fun k h1 h2 => ?_
  have := h k h1
  simpa [Array.getD, h1, h2] using this

/-- The law: all values are known; 'C' is what the slots hold in the end. -/
theorem wpIn_region_vals {id : Nat} {B C : Array Value} {u : World} (vals : List Value) (m : Nat) (hB : B.size = m) (hC : C.size = m) (hok : regOkV m ops = true) (hdf : noDeferB ops = true) (hm : P.follows .mixedOrders = true)
    (hfree : ∀ k, k < m → slotFree ops k = true → C.getD k undef = B.getD k undef)
    (hval : ∀ (i : Nat) (o : Oper) (d : Nat), ops[i]? = some o → o.dst = some d → C.getD d undef = vals.getD i undef)
    (hend : ∀ w, u.grownBy w none → Q .normal { tmps := C, defers := [] } w)
    (hstep : AllFrom (StepV P Q ops B u vals) 0 ops.toList)
    (w : World) (hu : u.grownBy w.drew none) : (Code.region id ops true).wpIn (Fence.wide.inRound l) n P Q { tmps := B, defers := [] } w := by
  have hok0 := hok
  unfold regOkV at hok
  rw [Bool.and_eq_true, Array.all_eq_true', List.all_eq_true] at hok
  obtain ⟨h1, h2⟩ := hok
  have hmemo : ∀ (i : Nat) (o : Oper), ops[i]? = some o → o ∈ ops := fun i o ho => Array.mem_of_getElem? ho
  have h2' : ∀ (i : Nat) (o : Oper), ops[i]? = some o → (o.after.all (fun e => !Region.binds .any e || decide (e.on < i)) = true) ∧ ∀ (j : Nat) (p : Oper), ops[j]? = some p → p.dst = o.dst → j = i := by
    intro i o ho
    have := h2 i (List.mem_range.2 (Array.getElem?_eq_some_iff.1 ho).1)
    simp only [ho, Bool.and_eq_true, List.all_eq_true] at this
    refine ⟨this.1, fun j p hp hd => ?_⟩
    have := this.2 j (List.mem_range.2 (Array.getElem?_eq_some_iff.1 hp).1)
    simp only [hp, Bool.or_eq_true, bne_iff_ne, ne_eq, beq_iff_eq] at this
    rcases this with h | h
    · exact absurd hd h
    · exact h.symm
  have hfr : ∀ k, slotFree ops k = true → ∀ (i : Nat) (o : Oper), ops[i]? = some o → o.dst ≠ some k := by
    intro k hk i o ho
    unfold slotFree at hk
    rw [Array.all_eq_true'] at hk
    have := hk o (hmemo i o ho)
    simpa using this
  have hdst : ∀ (i : Nat) (o : Oper), ops[i]? = some o → ∃ d, o.dst = some d ∧ d < B.size ∧ ∀ (j : Nat) (p : Oper), ops[j]? = some p → p.dst = some d → j = i := by
    intro i o ho
    have := h1 o (hmemo i o ho)
    simp only [Bool.and_eq_true] at this
    cases hd : o.dst with
    | none => rw [hd] at this; simp at this
    | some d =>
      rw [hd] at this
      exact ⟨d, rfl, by rw [hB]; simpa using this.2, fun j p hp hpd => (h2' i o ho).2 j p hp (by rw [hpd, hd])⟩
  refine wpIn_region_any hm (wpAnyIn_inv (VInv ops B u vals) (fun _ _ _ h => h.ls) ?_ ?_ ?_ _ _ _ _ ?_ ?_)
  · intro i o ho e he hb
    have := (h2' i o ho).1
    rw [Array.all_eq_true'] at this
    simpa [hb] using this e he
  · intro listed a w hI hall
    have hc : a.tmps = C := by
      refine getD_ext (by rw [hI.size, hB, hC]) fun k hk => ?_
      cases hs : slotFree ops k with
      | true => rw [hI.far k hs, hfree k (by rw [← hB, ← hI.size]; exact hk) hs]
      | false =>
        unfold slotFree at hs
        rw [Array.all_eq_false] at hs
        obtain ⟨i, hi, ho⟩ := hs
        simp only [bne_iff_ne, ne_eq, Classical.not_not] at ho
        have hoi : ops[i]? = some ops[i] := Array.getElem?_eq_getElem hi
        rw [hval i _ k hoi ho]
        exact hI.done i _ k hoi ho (hall i hi)
    have e : a = { tmps := C, defers := [] } := by
      have := hI.defs
      cases a
      simp only at hc this
      subst hc this
      rfl
    rw [e]
    exact hend w hI.gr
  · intro i o listed a w ho hI hl hd
    unfold wpOpIn
    rw [ho]
    have hg : o.guard = none := by
      have := h1 o (hmemo i o ho)
      simp only [Bool.and_eq_true, Option.isNone_iff_eq_none] at this
      exact this.1
    have hw : Region.wanted o (yielded ops a.tmps) = true := by simp [Region.wanted, hg]
    simp only [hw, if_true]
    refine wpIn_of_wpO (noDefer_of hdf o (hmemo i o ho)) ?_
    have hS := allFrom_at hstep (i := i) (o := o) (by simpa using ho)
    rw [Nat.zero_add] at hS
    have hs := hS a w hI.defs hI.gr hI.far (fun j p d hj hp hpd => hI.done j p d hp hpd (by
      unfold depB at hj
      rw [Array.any_eq_true'] at hj
      obtain ⟨e, he, hb⟩ := hj
      simp only [Bool.and_eq_true, beq_iff_eq] at hb
      have := hd e he hb.1
      rw [hb.2] at this
      have hjl : j < listed.size := by rw [hI.ls]; exact (Array.getElem?_eq_some_iff.1 hp).1
      simp only [Array.getD_eq_getD_getElem?, Array.getElem?_eq_getElem hjl, Option.getD_some] at this ⊢
      exact this))
    refine Oper.wp_mono ?_ hs
    rintro a' w' ⟨rfl, hgr⟩
    obtain ⟨d, hod, hdB, huniq⟩ := hdst i o ho
    have hil : i < listed.size := by rw [hI.ls]; exact (Array.getElem?_eq_some_iff.1 ho).1
    have hput : a.put o.dst (vals.getD i undef) = { a with tmps := a.tmps.setIfInBounds d (vals.getD i undef) } := by rw [hod]; rfl
    rw [hput]
    refine ⟨by simp [hI.ls], by simp [hI.size], hI.defs, hI.gr.trans hgr, fun k hk => ?_, fun j p e hp hpe hlj => ?_⟩
    · rw [← hI.far k hk]
      have : d ≠ k := fun e => hfr k hk i o ho (by rw [hod, e])
      simp [Array.getD_eq_getD_getElem?, this]
    · by_cases hji : j = i
      · subst hji
        rw [ho] at hp; cases hp
        rw [hod] at hpe; cases hpe
        simp [Array.getD_eq_getD_getElem?, hI.size, hdB]
      · have hde : d ≠ e := fun h => hji (huniq j p hp (by rw [hpe, h]))
        have : (a.tmps.setIfInBounds d (vals.getD i undef)).getD e undef = a.tmps.getD e undef := by simp [Array.getD_eq_getD_getElem?, hde]
        rw [this]
        refine hI.done j p e hp hpe ?_
        have hji' : ¬ i = j := fun h => hji h.symm
        simpa [Array.getD_eq_getD_getElem?, hji'] using hlj
  · exact ⟨by simp, rfl, rfl, hu, fun _ _ => rfl, fun i o d ho _ hl => by
      have hi := (Array.getElem?_eq_some_iff.1 ho).1
      simp [Array.getD_eq_getD_getElem?, hi] at hl⟩
  · unfold unl
    refine Nat.le_trans (List.countP_le_length) ?_
    simp

/-- The law, with what the slots hold computed. -/
theorem wpIn_region_put {id : Nat} {B : Array Value} {u : World} (vals : List Value) (m : Nat) (hB : B.size = m) (hv : ops.size ≤ vals.length) (hok : regOkV m ops = true) (hdf : noDeferB ops = true) (hm : P.follows .mixedOrders = true)
    (hend : ∀ w, u.grownBy w none → Q .normal { tmps := putVals ops.toList vals B, defers := [] } w)
    (hstep : AllFrom (StepV P Q ops B u vals) 0 ops.toList)
    (w : World) (hu : u.grownBy w.drew none) : (Code.region id ops true).wpIn (Fence.wide.inRound l) n P Q { tmps := B, defers := [] } w := by
  refine wpIn_region_vals vals m hB (by rw [putVals_size, hB]) hok hdf hm (fun k _ hs => ?_) (fun i o d ho hd => ?_) hend hstep w hu
  · refine putVals_free _ _ _ _ (fun o ho he => ?_)
    unfold slotFree at hs
    rw [Array.all_eq_true'] at hs
    have := hs o (by simpa using ho)
    simp [he] at this
  · unfold regOkV at hok
    rw [Bool.and_eq_true, Array.all_eq_true', List.all_eq_true] at hok
    obtain ⟨h1, h2⟩ := hok
    have hdm : d < m := by
      have := h1 o (Array.mem_of_getElem? ho)
      simp only [hd, Bool.and_eq_true, decide_eq_true_eq] at this
      exact this.2
    refine putVals_at _ _ _ i o d (by simpa using hv) (by simpa using ho) hd (by omega) (fun j p hj he => ?_)
    have := h2 i (List.mem_range.2 (Array.getElem?_eq_some_iff.1 ho).1)
    have hj' : ops[j]? = some p := by simpa using hj
    simp only [ho, Bool.and_eq_true, List.all_eq_true] at this
    have := this.2 j (List.mem_range.2 (Array.getElem?_eq_some_iff.1 hj').1)
    simp only [hj', Bool.or_eq_true, bne_iff_ne, ne_eq, beq_iff_eq] at this
    rcases this with h | h
    · exact absurd (by rw [he, hd]) h
    · exact h.symm

end
end

/- IsArr -/
section

/-- All numbers are below 10007. -/
def okT : (d : Nat) → T d → Prop
  | 0, n => (show Nat from n) < 10007
  | d + 1, ts => ∀ t ∈ (show List (T d) from ts), okT d t

/-- These bytes stand from a place on. -/
def Bts (s : ByteArray) (p : Nat) (l : List UInt8) : Prop := ∀ (i : Nat) (b : UInt8), l[i]? = some b → ba s (p + i) = (b.toNat : Int)
theorem Bts.left {s : ByteArray} {p : Nat} {l m : List UInt8} (h : Bts s p (l ++ m)) : Bts s p l := fun i b hb => h i b (by rw [List.getElem?_append_left (List.getElem?_eq_some_iff.1 hb).1]; exact hb)
theorem Bts.right {s : ByteArray} {p : Nat} {l m : List UInt8} (h : Bts s p (l ++ m)) : Bts s (p + l.length) m := fun i b hb => by
  rw [Nat.add_assoc]
  exact h _ b (by rw [List.getElem?_append_right (by omega), Nat.add_sub_cancel_left]; exact hb)
theorem Bts.head {s : ByteArray} {p : Nat} {b : UInt8} {l : List UInt8} (h : Bts s p (b :: l)) : ba s p = (b.toNat : Int) := h 0 b rfl
theorem Bts.tail {s : ByteArray} {p : Nat} {b : UInt8} {l : List UInt8} (h : Bts s p (b :: l)) : Bts s (p + 1) l := fun i c hc => by
  have := h (i + 1) c (by simpa using hc)
  rwa [show p + 1 + i = p + (i + 1) from by omega]
theorem Bts.le {s : ByteArray} {p : Nat} {l : List UInt8} (h : Bts s p l) (hl : l ≠ []) : p + l.length ≤ s.size := by
  have hp : 0 < l.length := List.length_pos_iff.2 hl
  have := h (l.length - 1) _ (List.getElem?_eq_getElem (by omega))
  have h2 := ba_lt (s := s) (p := p + (l.length - 1)) (by omega)
  omega

theorem dec_digit : ∀ (k n : Nat), n < 10 ^ (k + 1) → ∀ (i : Nat) (b : UInt8), (dec n)[i]? = some b → 48 ≤ b.toNat ∧ b.toNat ≤ 57 := by
  have one : ∀ m, m ≤ 9 → 48 ≤ (UInt8.ofNat (48 + m)).toNat ∧ (UInt8.ofNat (48 + m)).toNat ≤ 57 := fun m hm => by
    have : (UInt8.ofNat (48 + m)).toNat = 48 + m := by simp; omega
    omega
  intro k
  induction k with
  | zero =>
    intro n h i b hb
    rw [dec_low (by simp at h; omega)] at hb
    have hi : i = 0 := by have := (List.getElem?_eq_some_iff.1 hb).1; simp at this; omega
    subst hi
    simp only [List.getElem?_cons_zero, Option.some.injEq] at hb
    subst hb
    exact one n (by simp at h; omega)
  | succ k ih =>
    intro n h i b hb
    rcases Nat.lt_or_ge 9 n with h9 | h9
    · rw [dec_high h9] at hb
      rcases Nat.lt_or_ge i (dec (n / 10)).length with hi | hi
      · rw [List.getElem?_append_left hi] at hb
        exact ih (n / 10) (by rw [Nat.pow_succ] at h; omega) i b hb
      · rw [List.getElem?_append_right hi] at hb
        have hi0 : i - (dec (n / 10)).length = 0 := by have := (List.getElem?_eq_some_iff.1 hb).1; simp at this; omega
        rw [hi0] at hb
        simp only [List.getElem?_cons_zero, Option.some.injEq] at hb
        subst hb
        exact one (n % 10) (by omega)
    · rw [dec_low h9] at hb
      have hi : i = 0 := by have := (List.getElem?_eq_some_iff.1 hb).1; simp at this; omega
      subst hi
      simp only [List.getElem?_cons_zero, Option.some.injEq] at hb
      subst hb
      exact one n h9
theorem dec_head : ∀ (k n : Nat), n < 10 ^ (k + 1) → 0 < n → ∃ b l, dec n = b :: l ∧ b.toNat ≠ 48
  | 0, n, h, h0 => ⟨_, [], dec_low (by simp at h; omega), by
    have : (UInt8.ofNat (48 + n)).toNat = 48 + n := by simp at h ⊢; omega
    omega⟩
  | k + 1, n, h, h0 => by
    rcases Nat.lt_or_ge 9 n with h9 | h9
    · obtain ⟨b, l, e, hb⟩ := dec_head k (n / 10) (by rw [Nat.pow_succ] at h; omega) (by omega)
      exact ⟨b, l ++ [UInt8.ofNat (48 + n % 10)], by rw [dec_high h9, e]; rfl, hb⟩
    · exact ⟨_, [], dec_low h9, by
        have : (UInt8.ofNat (48 + n)).toNat = 48 + n := by simp; omega
        omega⟩
theorem dec_val (s : ByteArray) (p : Nat) : ∀ (k n : Nat), n < 10 ^ (k + 1) → Bts s p (dec n) → val s p (dec n).length = n
  | 0, n, h, hb => by
    have hn : n ≤ 9 := by simp at h; omega
    rw [dec_low hn] at hb ⊢
    have := hb.head
    have e : (UInt8.ofNat (48 + n)).toNat = 48 + n := by simp; omega
    simp only [List.length_cons, List.length_nil, val, Nat.add_zero]
    rw [this, e]
    omega
  | k + 1, n, h, hb => by
    rcases Nat.lt_or_ge 9 n with h9 | h9
    · rw [dec_high h9] at hb ⊢
      have h1 := dec_val s p k (n / 10) (by rw [Nat.pow_succ] at h; omega) hb.left
      have h2 := hb.right.head
      have e : (UInt8.ofNat (48 + n % 10)).toNat = 48 + n % 10 := by simp; omega
      rw [List.length_append]
      simp only [List.length_cons, List.length_nil, val]
      rw [h1, h2, e]
      omega
    · rw [dec_low h9] at hb ⊢
      have := hb.head
      have e : (UInt8.ofNat (48 + n)).toNat = 48 + n := by simp; omega
      simp only [List.length_cons, List.length_nil, val, Nat.add_zero]
      rw [this, e]
      omega
theorem nd_eq (s : ByteArray) : ∀ (k p : Nat), (∀ i, i < k → dg s (p + i) = true) → dg s (p + k) = false → nd s p = k
  | 0, p, _, h => nd_no (by simpa using h)
  | k + 1, p, h, h2 => by
    rw [nd_yes (by simpa using h 0 (by omega)), nd_eq s k (p + 1) (fun i hi => by have := h (i + 1) (by omega); rwa [show p + 1 + i = p + (i + 1) from by omega]) (by rwa [show p + 1 + k = p + (k + 1) from by omega])]
theorem num_text {s : ByteArray} {p n : Nat} (hn : n < 10007) (hb : Bts s p (dec n)) (he : dg s (p + (dec n).length) = false) : num s p = some (n, p + (dec n).length) := by
  have h5 : n < 10 ^ (4 + 1) := by omega
  have hd : nd s p = (dec n).length := nd_eq s _ p (fun i hi => by
    have h1 := hb i _ (List.getElem?_eq_getElem hi)
    have h2 := dec_digit 4 n h5 i _ (List.getElem?_eq_getElem hi)
    unfold dg
    rw [decide_eq_true_eq, h1]
    omega) he
  have hv := dec_val s p 4 n h5 hb
  have hp := dec_pos n
  rw [num_some (by omega) (fun h48 => ?_) (by rw [hd, hv]; exact hn), hd, hv]
  rcases Nat.eq_zero_or_pos n with h0 | h0
  · rw [hd, h0, dec_low (by omega)]
    simp
  · obtain ⟨b, l, e, hb48⟩ := dec_head 4 n h5 h0
    rw [e] at hb
    have := hb.head
    omega

theorem text_head : ∀ (d : Nat) (t : T d), okT d t → ∃ b l, text d t = b :: l ∧ b.toNat ≠ 93
  | 0, n, h => by
    have hp := dec_pos (show Nat from n)
    obtain ⟨b, l, e⟩ := List.exists_cons_of_length_pos hp
    refine ⟨b, l, e, ?_⟩
    have := dec_digit 4 (show Nat from n) (by have : (show Nat from n) < 10007 := h; omega) 0 b (by rw [e]; rfl)
    omega
  | d + 1, ts, _ => ⟨91, _, rfl, by decide⟩
theorem more_text {s : ByteArray} {d : Nat} (he : ∀ (t : T d) (p : Nat), okT d t → Bts s p (text d t) → dg s (p + (text d t).length) = false → node s d p = some (t, p + (text d t).length)) :
    ∀ (l : List (T d)) (f p : Nat), (∀ t ∈ l, okT d t) → l.length < f → Bts s p (l.flatMap (fun x => 44 :: text d x) ++ [93]) → more s (node s d) f p = some (l, p + (l.flatMap (fun x => 44 :: text d x)).length + 1)
  | [], f, p, _, hf, hb => by
    obtain ⟨f', rfl⟩ : ∃ f', f = f' + 1 := ⟨f - 1, by simp at hf; omega⟩
    have : ba s p = 93 := hb.head
    rw [more, if_pos this]
    rfl
  | t :: l, f, p, hk, hf, hb => by
    obtain ⟨f', rfl⟩ : ∃ f', f = f' + 1 := ⟨f - 1, by simp at hf; omega⟩
    have hb' : Bts s p (44 :: (text d t ++ (l.flatMap (fun x => 44 :: text d x) ++ [93]))) := by simpa using hb
    have h44 : ba s p = 44 := hb'.head
    have hr := hb'.tail.right
    have hnd : dg s (p + 1 + (text d t).length) = false := by
      have hx : ba s (p + 1 + (text d t).length) = 44 ∨ ba s (p + 1 + (text d t).length) = 93 := by
        cases l with
        | nil => exact .inr hr.head
        | cons x l => exact .inl (by have h2 : Bts s (p + 1 + (text d t).length) (44 :: (text d x ++ l.flatMap (fun x => 44 :: text d x) ++ [93])) := by simpa using hr
                                     exact h2.head)
      unfold dg
      rw [decide_eq_false_iff_not]
      omega
    rw [more, if_neg (by omega), if_pos h44, he t (p + 1) (hk t (by simp)) hb'.tail.left hnd]
    simp only
    rw [more_text he l f' _ (fun x hx => hk x (by simp [hx])) (by simp at hf; omega) hr]
    simp only [List.flatMap_cons, List.length_append, List.length_cons, Option.some.injEq, Prod.mk.injEq, true_and]
    omega
theorem parts_text {s : ByteArray} {d : Nat} (he : ∀ (t : T d) (p : Nat), okT d t → Bts s p (text d t) → dg s (p + (text d t).length) = false → node s d p = some (t, p + (text d t).length)) :
    ∀ (L : List (T d)) (p : Nat), (∀ t ∈ L, okT d t) → Bts s p (91 :: (lst d L ++ [93])) → parts s (node s d) p = some (L, p + ((lst d L).length + 2))
  | [], p, _, hb => by
    have h2 : ba s (p + 1) = 93 := hb.tail.head
    have h1 : ba s p = 91 := hb.head
    rw [parts, if_pos h1, if_pos h2]
    rfl
  | t :: l, p, hk, hb => by
    have hb' : Bts s p (91 :: (text d t ++ (l.flatMap (fun x => 44 :: text d x) ++ [93]))) := by simpa [lst] using hb
    have hr := hb'.tail.right
    have hle := hr.le (by simp)
    obtain ⟨b, l0, eh, h93⟩ := text_head d t (hk t (by simp))
    have hh : ba s (p + 1) = (b.toNat : Int) := by
      have := hb'.tail.left
      rw [eh] at this
      exact this.head
    have hnd : dg s (p + 1 + (text d t).length) = false := by
      have hx : ba s (p + 1 + (text d t).length) = 44 ∨ ba s (p + 1 + (text d t).length) = 93 := by
        cases l with
        | nil => exact .inr hr.head
        | cons x l => exact .inl (by have h2 : Bts s (p + 1 + (text d t).length) (44 :: (text d x ++ l.flatMap (fun x => 44 :: text d x) ++ [93])) := by simpa using hr
                                     exact h2.head)
      unfold dg
      rw [decide_eq_false_iff_not]
      omega
    have hfl := flat_ge d l
    rw [List.length_append] at hle
    have h1 : ba s p = 91 := hb'.head
    rw [parts, if_pos h1, if_neg (by omega), he t (p + 1) (hk t (by simp)) hb'.tail.left hnd]
    simp only
    rw [more_text he l (s.size + 1) _ (fun x hx => hk x (by simp [hx])) (by omega) hr]
    simp only [lst, List.length_append, Option.some.injEq, Prod.mk.injEq, true_and]
    omega
theorem node_text (s : ByteArray) : ∀ (d : Nat) (t : T d) (p : Nat), okT d t → Bts s p (text d t) → dg s (p + (text d t).length) = false → node s d p = some (t, p + (text d t).length)
  | 0, n, p, h, hb, he => num_text h hb he
  | d + 1, ts, p, h, hb, _ => by
    have e : text (d + 1) ts = 91 :: (lst d ts ++ [93]) := text_succ d ts
    have el : (text (d + 1) ts).length = (lst d ts).length + 2 := by rw [e]; simp
    rw [e] at hb
    rw [el]
    exact parts_text (node_text s d) ts p h hb

theorem bts_all {s : ByteArray} {l : List UInt8} (h : s.data.toList = l) : Bts s 0 l := fun i b hb => by
  have hi := (List.getElem?_eq_some_iff.1 hb).1
  have hs : l.length = s.size := by rw [← h, Array.length_toList]; rfl
  rw [Nat.zero_add, ba_in (by omega)]
  congr 2
  have e : s.data.toList[i]? = some s.data[i] := by simp
  rw [h, hb] at e
  exact (Option.some.inj e).symm
theorem readN_text {s : ByteArray} {d : Nat} {t : T d} (h : s.data.toList = text d t) (hk : okT d t) : readN s d = some t := by
  have hs : (text d t).length = s.size := by rw [← h, Array.length_toList]; rfl
  have hn := node_text s d t 0 hk (bts_all h) (by
    unfold dg
    rw [decide_eq_false_iff_not, ba_out (by omega)]
    omega)
  rw [readN, hn]
  simp only
  rw [if_pos (by omega)]
theorem isArr_text {s : ByteArray} {d : Nat} {t : T d} (h : s.data.toList = text d t) (hk : okT d t) (hd : d ≤ 3) (hl : (text d t).length ≤ 400) : isArr s (d : Int) = true := by
  have hs : (text d t).length = s.size := by rw [← h, Array.length_toList]; rfl
  unfold isArr
  rw [decide_eq_true (by omega), Int.toNat_natCast, readN_text h hk]
  rfl
end

/- FoldU -/
section

theorem dec_len : ∀ (k n : Nat), n < 10 ^ (k + 1) → (dec n).length ≤ k + 1
  | 0, n, h => by
    rw [dec_low (by simp at h; omega)]
    simp
  | k + 1, n, h => by
    rcases Nat.lt_or_ge 9 n with h9 | h9
    · rw [dec_high h9, List.length_append]
      have := dec_len k (n / 10) (by rw [Nat.pow_succ] at h; omega)
      simp only [List.length_cons, List.length_nil]
      omega
    · rw [dec_low h9]
      simp
theorem lst_txs (d : Nat) : ∀ (ts : List (T d)), (lst d ts).length ≤ txs d ts + ts.length
  | [] => by simp [lst]
  | t :: ts => by
    have h : ∀ (l : List (T d)), (l.flatMap (fun x => 44 :: text d x)).length ≤ txs d l + l.length := by
      intro l
      induction l with
      | nil => simp
      | cons x l ih =>
        simp only [List.flatMap_cons, List.length_append, List.length_cons, txs] at ih ⊢
        omega
    have := h ts
    simp only [lst, List.length_append, List.length_cons, txs]
    omega
theorem txs_cut (d : Nat) : ∀ (l : List Int) (xs : List (T d)), txs (d + 1) (show List (T (d + 1)) from cutBy l xs) ≤ 2 * l.length + xs.length + txs d xs
  | [], xs => by simp [cutBy, txs]
  | z :: l, xs => by
    have h1 := txs_cut d l (xs.drop z.toNat)
    have h2 := lst_txs d (xs.take z.toNat)
    have e : txs d xs = txs d (xs.take z.toNat) + txs d (xs.drop z.toNat) := by rw [← txs_append, List.take_append_drop]
    have e2 : xs.length = (xs.take z.toNat).length + (xs.drop z.toNat).length := by rw [← List.length_append, List.take_append_drop]
    have e3 : txs (d + 1) (show List (T (d + 1)) from cutBy (z :: l) xs) = (text (d + 1) (show T (d + 1) from xs.take z.toNat)).length + txs (d + 1) (show List (T (d + 1)) from cutBy l (xs.drop z.toNat)) := rfl
    rw [e3, text_succ, List.length_cons, List.length_append, List.length_cons, List.length_nil, List.length_cons]
    omega
theorem txs_num : ∀ (D : List Int), okN 10006 D = true → txs 0 (show List (T 0) from (D.map Int.toNat : List Nat)) ≤ 5 * D.length
  | [], _ => by simp [txs]
  | z :: D, h => by
    simp only [okN, Bool.and_eq_true, decide_eq_true_eq] at h
    have h1 := txs_num D h.2
    have h2 := dec_len 4 z.toNat (by omega)
    have e3 : txs 0 (show List (T 0) from ((z :: D).map Int.toNat : List Nat)) = (dec z.toNat).length + txs 0 (show List (T 0) from (D.map Int.toNat : List Nat)) := rfl
    rw [e3, List.length_cons]
    omega
/-- How many numbers the levels have. -/
def cnt : List (List Int) → Nat
  | [] => 0
  | L :: LL => L.length + cnt LL
theorem txs_fold : ∀ (d c : Nat) (LL : List (List Int)) (D : List Int), LL.length = d → Fits c LL D → txs d (foldN d LL D) + (foldN d LL D).length ≤ 3 * cnt LL + 6 * D.length
  | 0, c, LL, D, h, hf => by
    obtain rfl := List.eq_nil_of_length_eq_zero h
    have h1 := txs_num D hf.2
    have e : foldN 0 [] D = (show List (T 0) from (D.map Int.toNat : List Nat)) := rfl
    have e2 : (show List (T 0) from (D.map Int.toNat : List Nat)).length = D.length := List.length_map _
    rw [e, e2]
    omega
  | d + 1, c, [], D, h, _ => by simp at h
  | d + 1, c, L :: LL, D, h, hf => by
    have h1 := txs_fold d _ LL D (by simpa using h) hf.2.2
    have h2 : txs (d + 1) (foldN (d + 1) (L :: LL) D) ≤ 2 * L.length + (foldN d LL D).length + txs d (foldN d LL D) := txs_cut d L (foldN d LL D)
    have e2 : (foldN (d + 1) (L :: LL) D).length = L.length := cutBy_len L _
    simp only [cnt]
    omega
theorem txs_mem (d : Nat) : ∀ {ts : List (T d)} {j : Nat} {t : T d}, ts[j]? = some t → (text d t).length ≤ txs d ts
  | [], _, _, h => by simp at h
  | x :: l, 0, t, h => by
    simp only [List.getElem?_cons_zero, Option.some.injEq] at h
    subst h
    simp only [txs]
    omega
  | x :: l, j + 1, t, h => by
    have := txs_mem d (ts := l) (j := j) (by simpa using h)
    simp only [txs]
    omega

/-- The text of the array of a layout, if nothing is wrong and it is not too long. -/
def foldText (LL : List (List Int)) (D : List Int) : Option (List UInt8) :=
  if wrong LL D = -1 then match (foldN LL.length LL D)[0]? with
    | some t => if (text LL.length t).length ≤ 400 then some (text LL.length t) else none
    | none => none
  else none
end

/- FoldV -/
section

theorem cutBy_mem {α : Type} : ∀ (l : List Int) (xs p : List α), p ∈ cutBy l xs → ∀ x ∈ p, x ∈ xs
  | [], _, _, h, _, _ => by simp [cutBy] at h
  | z :: l, xs, p, h, x, hx => by
    rw [cutBy, List.mem_cons] at h
    rcases h with rfl | h
    · exact List.mem_of_mem_take hx
    · exact List.mem_of_mem_drop (cutBy_mem l _ p h x hx)
theorem okT_fold : ∀ (d c : Nat) (LL : List (List Int)) (D : List Int), LL.length = d → Fits c LL D → ∀ t ∈ foldN d LL D, okT d t
  | 0, c, LL, D, h, hf, t, ht => by
    obtain rfl := List.eq_nil_of_length_eq_zero h
    have ht' : (show Nat from t) ∈ (D.map Int.toNat : List Nat) := ht
    obtain ⟨z, hz, e⟩ := List.mem_map.1 ht'
    obtain ⟨j, hj⟩ := List.getElem?_of_mem hz
    have := okN_at hj hf.2
    show (show Nat from t) < 10007
    rw [← e]
    omega
  | d + 1, c, [], D, h, _, t, ht => by simp at h
  | d + 1, c, L :: LL, D, h, hf, t, ht => fun x hx => okT_fold d _ LL D (by simpa using h) hf.2.2 x (cutBy_mem L _ t ht x hx)

/-- These strings are the texts of these arrays. -/
def Tx (d : Nat) (ss : List ByteArray) (ts : List (T d)) : Prop := ss.map (·.data.toList) = ts.map (text d)
theorem tx_tail {d : Nat} : ∀ {ss : List ByteArray} {ts : List (T d)}, Tx d ss ts → Lib.joinTail [44] (ss.map (·.data.toList)) = ts.flatMap (fun x => 44 :: text d x) ∧ tot ss = txs d ts ∧ ss.length = ts.length
  | [], [], _ => ⟨rfl, rfl, rfl⟩
  | [], t :: ts, h => by simp [Tx] at h
  | s :: ss, [], h => by simp [Tx] at h
  | s :: ss, t :: ts, h => by
    simp only [Tx, List.map_cons, List.cons.injEq] at h
    obtain ⟨h1, h2, h3⟩ := tx_tail (d := d) (ss := ss) (ts := ts) h.2
    have hs : s.data.toList.length = s.size := by rw [Array.length_toList]; rfl
    refine ⟨?_, ?_, ?_⟩
    · simp only [Lib.joinTail, List.map_cons, List.flatten_cons] at h1 ⊢
      rw [h1, h.1]
      rfl
    · simp only [tot, txs]
      rw [h2, ← h.1, hs]
    · simp [h3]
theorem tx_text {d : Nat} {ss : List ByteArray} {ts : List (T d)} (h : Tx d ss ts) : mkText ss = text (d + 1) ts := by
  have e : text (d + 1) ts = 91 :: (lst d ts ++ [93]) := text_succ d ts
  rw [e, mkText]
  congr 2
  cases ss with
  | nil =>
    cases ts with
    | nil => rfl
    | cons t ts => simp [Tx] at h
  | cons s ss =>
    cases ts with
    | nil => simp [Tx] at h
    | cons t ts =>
      simp only [Tx, List.map_cons, List.cons.injEq] at h
      rw [List.map_cons, Lib.join_cons, (tx_tail (d := d) (ss := ss) (ts := ts) h.2).1, h.1]
      rfl
theorem mkText_length (ss : List ByteArray) : (mkText ss).length = 2 + (ss.length - 1) + tot ss := by
  rw [mkText, List.length_cons, List.length_append, join_len]
  simp
  omega
theorem tx_mem {d : Nat} {ss : List ByteArray} {ts : List (T d)} (h : Tx d ss ts) {s : ByteArray} (hs : s ∈ ss) : ∃ t ∈ ts, s.data.toList = text d t := by
  have h1 : s.data.toList ∈ ss.map (·.data.toList) := List.mem_map.2 ⟨s, hs, rfl⟩
  rw [h] at h1
  obtain ⟨t, ht, e⟩ := List.mem_map.1 h1
  exact ⟨t, ht, e.symm⟩
/-- What MakeArray answers: exactly if the text is not too long. -/
theorem mk_level {d : Nat} {ss : List ByteArray} {ts : List (T d)} (h : Tx d ss ts) (hk : ∀ t ∈ ts, okT d t) (hd : d + 1 ≤ 3) : mkOk ss ((d : Int) + 1) = decide ((text (d + 1) ts).length ≤ 400) := by
  have hl : (text (d + 1) ts).length = 2 + (ss.length - 1) + tot ss := by rw [← tx_text h, mkText_length]
  by_cases h4 : (text (d + 1) ts).length ≤ 400
  · rw [decide_eq_true h4]
    refine mk_all ⟨by omega, by omega⟩ (fun s hs => ?_) (by omega)
    obtain ⟨t, ht, e⟩ := tx_mem h hs
    have hlt : s.size ≤ tot ss := by
      obtain ⟨j, hj⟩ := List.getElem?_of_mem hs
      have h1 := tot_step hj
      have h2 := tot_take_le ss (j + 1)
      omega
    have hs2 : (text d t).length = s.size := by rw [← e, Array.length_toList]; rfl
    have := isArr_text e (hk t ht) (by omega) (by omega)
    rwa [show (d : Int) + 1 - 1 = (d : Int) from by omega]
  · rw [decide_eq_false h4]
    exact mk_long (by omega)

/-- The texts of a level are no longer than those of the level above. -/
theorem txs_up {d c : Nat} {L : List Int} {LL : List (List Int)} {D : List Int} (h : LL.length = d) (hf : Fits c (L :: LL) D) : txs d (foldN d LL D) ≤ txs (d + 1) (foldN (d + 1) (L :: LL) D) := by
  have h1 := foldN_len d _ LL D h hf.2.2
  have h2 := cutBy_flat L (foldN d LL D) hf.2.1 h1
  have h3 := flatMap_txs d (foldN (d + 1) (L :: LL) D)
  have e : (foldN (d + 1) (L :: LL) D).flatMap prt = foldN d LL D := by
    have : (foldN (d + 1) (L :: LL) D).flatMap prt = (cutBy L (foldN d LL D)).flatten := by
      show (cutBy L (foldN d LL D)).flatMap (fun t => t) = _
      simp [List.flatMap]
    rw [this, h2]
  rwa [e] at h3
end

/- Nstr -/
section
open Go.RowKit

theorem decDigits_dec : ∀ (u : Nat), Lib.decDigits u = dec u := by
  intro u
  induction u using Nat.strongRecOn with
  | _ u ih =>
    rcases Nat.lt_or_ge 9 u with h | h
    · rw [dec_high h, ← ih (u / 10) (by omega), Lib.decDigits, dif_neg (by omega)]
    · rw [dec_low h, Lib.decDigits, dif_pos (by omega)]
theorem nstr_dec {z : Int} (h : 0 ≤ z) : (nstr z).data.toList = dec z.toNat := by
  unfold nstr
  simp only
  rw [Lib.itoa, if_neg (by omega), decDigits_dec]
theorem tx_nums : ∀ {D : List Int}, okN 10006 D = true → Tx 0 (D.map nstr) (show List (T 0) from (D.map Int.toNat : List Nat))
  | [], _ => rfl
  | z :: D, h => by
    simp only [okN, Bool.and_eq_true, decide_eq_true_eq] at h
    have h2 : (D.map nstr).map (·.data.toList) = (D.map Int.toNat : List Nat).map dec := tx_nums (D := D) h.2
    show (nstr z).data.toList :: (D.map nstr).map (·.data.toList) = dec z.toNat :: (D.map Int.toNat : List Nat).map dec
    rw [nstr_dec (by omega), h2]
end

/- FoldP -/
section
open Go.RowKit Go.Shelf

theorem fits_num : ∀ (LL : List (List Int)) (c : Nat) (D : List Int), Fits c LL D → okN 10006 D = true
  | [], _, _, h => h.2
  | _ :: LL, _, D, h => fits_num LL _ D h.2.2
theorem wf_num {D : List Int} (h : okN 10006 D = true) : Wf D := fun z hz => by
  obtain ⟨j, hj⟩ := List.getElem?_of_mem hz
  have := okN_at hj h
  omega
theorem rws_vals {w : World} {A : Option Addr} {LL : List (List Int)} (h : Rws w A LL) : ∃ vs : List Value, vs.length = LL.length ∧ (∀ (X : Nat → TypeId → Prop) (W : World), (∀ k t, X k t → w.heap.size ≤ k) → w.grownBy W none → SlsL X W A vs) ∧
    ∀ (i : Nat) (L : List Int), LL[i]? = some L → ∃ (Bi : Option Addr) (ci : Nat), vs[i]? = some (.slice Bi L.length ci) ∧ L.length ≤ ci ∧ Ints w Bi L := by
  by_cases hl : 0 < LL.length
  · obtain ⟨b, off, rfl, hb, hc⟩ := h hl
    refine ⟨(List.range LL.length).map (fun i => (w.cell? ⟨b, off + i, none⟩).getD (.int .i64 0)), by simp, fun X W hX hg _ => ⟨b, off, rfl, fun W' hk j v hj => ?_⟩, fun i L hL => ?_⟩
    · have hjd : j < LL.length := by have := (List.getElem?_eq_some_iff.1 hj).1; simpa using this
      rw [List.getElem?_map, List.getElem?_range hjd] at hj
      simp only [Option.map_some, Option.some.injEq] at hj
      obtain ⟨Bj, cj, h1, _, _⟩ := hc j _ (List.getElem?_eq_getElem hjd)
      rw [h1] at hj
      simp only [Option.getD_some] at hj
      subst hj
      exact low_cell hX hb hg hk h1
    · have hid : i < LL.length := (List.getElem?_eq_some_iff.1 hL).1
      obtain ⟨Bi, ci, h1, h2, h3⟩ := hc i L hL
      refine ⟨Bi, ci, ?_, h2, h3⟩
      rw [List.getElem?_map, List.getElem?_range hid]
      simp only [Option.map_some, h1, Option.getD_some]
  · have e : LL = [] := List.eq_nil_of_length_eq_zero (by omega)
    subst e
    exact ⟨[], rfl, fun X W _ _ h => by simp at h, fun i L h => by simp at h⟩
/-- The text of the whole array is too long. -/
def FoldBad (LL : List (List Int)) (D : List Int) : Prop := 400 < txs LL.length (foldN LL.length LL D)
theorem txs_suffix : ∀ (LL : List (List Int)) (c k : Nat) (D : List Int), Fits c LL D → k ≤ LL.length → txs (LL.drop k).length (foldN (LL.drop k).length (LL.drop k) D) ≤ txs LL.length (foldN LL.length LL D)
  | LL, _, 0, _, _, _ => Nat.le_refl _
  | [], _, k + 1, _, _, h => by simp at h
  | L :: LL, c, k + 1, D, hf, h => by
    have h1 := txs_suffix LL _ k D hf.2.2 (by simpa using h)
    have h2 := txs_up (d := LL.length) rfl hf
    exact Nat.le_trans h1 h2
theorem txs_single {d : Nat} (t : T d) : txs d [t] = (text d t).length := by simp [txs]

theorem spanL_pre {L : List Int} {pre : List (Int × Int)} {x : Int × Int} (h : pre ++ [x] <+: spanK 0 L) : ∃ z, L[pre.length]? = some z ∧ x = (sumI (L.take pre.length), sumI (L.take pre.length) + z) := by
  have hl := h.length_le
  rw [spanK_len, List.length_append] at hl
  simp only [List.length_cons, List.length_nil] at hl
  obtain ⟨z, hz⟩ : ∃ z, L[pre.length]? = some z := ⟨_, List.getElem?_eq_getElem (by omega)⟩
  have h1 := spanK_at L 0 _ z hz
  have h2 : (spanK 0 L)[pre.length]? = some x := by
    obtain ⟨t, ht⟩ := h
    rw [← ht]
    simp
  rw [h2] at h1
  simp only [Option.some.injEq, Int.zero_add] at h1
  exact ⟨z, hz, h1⟩
theorem cells_keptF {W W' : World} {row : Option Nat} (hg : W.grownBy W' row) (hr : ∀ r, row = some r → ∃ o : Obj, W.heap[r]? = some o ∧ o.isCells = false) {k : Nat} {cs : Array Value} {T : TypeId} {fr : Nat × Nat} (h : W.heap[k]? = some (.cells cs T fr)) : W'.heap[k]? = some (.cells cs T fr) :=
  (hg.block k (Array.getElem?_eq_some_iff.1 h).1 (fun e => by
    obtain ⟨o, ho, hc⟩ := hr k e.symm
    rw [h] at ho
    cases ho
    cases hc)).trans h
theorem own_keptF {W W' : World} {row : Option Nat} (hg : W.grownBy W' row) (hr : ∀ r, row = some r → ∃ o : Obj, W.heap[r]? = some o ∧ o.isCells = false) {base n : Nat} {e : TypeId} {v : Value} {xs : List Value} (h : W.ownsRow base e 1 v n xs) : W'.ownsRow base e 1 v n xs :=
  own_keep h (fun k hk => by
    rcases h.2 with ⟨hv, _⟩ | ⟨b, cap, cur, hv, _, hb, _⟩
    · rw [hv] at hk; cases hk
    · rw [hv] at hk
      simp only [Value.ownBlock, Option.some.injEq] at hk
      subst hk
      rw [hb]
      exact cells_keptF hg hr hb)
set_option maxRecDepth 100000 in
theorem cut_runS (A : Option Addr) (k c : Nat) (s z : Int) (u : World) (h0 : 0 ≤ s) (h1 : 0 ≤ z) (h2 : s + z ≤ c) :
    (Instr.slice 36 (.slice A k c) (some (.int .i64 s)) (some (.int .i64 (s + z))) (some (.int .i64 (s + z)))).run Tryd.prog u = .ok (.slice (if (s + z).toNat = s.toNat then A else A.map (·.add (s.toNat * 1))) ((s + z).toNat - s.toNat) ((s + z).toNat - s.toNat)) u := by
  rw [run_slice_lhm u 36 A k c Tryd.underlying36 .i64 .i64 .i64 s (s + z) (s + z) h0 (by omega) (by omega) h2]
  have hsz : (sizeOf (Tryd.prog.elem 36)).run Tryd.prog u = .ok 1 u := by kernel_rfl
  rw [hsz]
  rfl

theorem bytes_eqF {t : ByteArray} {l : List UInt8} (h : t.data.toList = l) : t = ⟨l.toArray⟩ := by
  cases t
  simp only at h
  subst h
  simp
def strW (ss : List ByteArray) : List Value := ss.map Value.string
theorem strW_snoc (l : List ByteArray) (x : ByteArray) : strW (l ++ [x]) = strW l ++ [.string x] := by simp [strW]
theorem keeps_own {X : Nat → TypeId → Prop} {W W' : World} {base n : Nat} {e : TypeId} {v : Value} {xs : List Value} (h : W.grownBy W' v.ownBlock) (ho : W.ownsRow base e 1 v n xs) (hX : ∀ q, base ≤ q → X q e) : KeepsK X W W' := by
  rcases ho.2 with ⟨hv, _⟩ | ⟨b, cap, cur, hv, hb, hg, _⟩
  · rw [hv] at h
    exact KeepsK.grown h
  · rw [hv] at h
    exact KeepsK.grownX h hg (hX b hb)
theorem own_notF {W : World} {base n b : Nat} {e t : TypeId} {v : Value} {xs : List Value} {cs : Array Value} {fr : Nat × Nat} (ho : W.ownsRow base e 1 v n xs) (hb : W.heap[b]? = some (.cells cs t fr)) (ht : t ≠ e) : some b ≠ v.ownBlock := fun h => by
  rcases ho.2 with ⟨hv, _⟩ | ⟨q, cap, cur, hv, _, hg, _⟩
  · rw [hv] at h; cases h
  · rw [hv] at h
    simp only [Value.ownBlock, Option.some.injEq] at h
    subst h
    rw [hb] at hg
    cases hg
    exact ht rfl
theorem set_one {W : World} {b : Nat} {x : Value} {t : TypeId} {m : Nat × Nat} (h : W.heap[b]? = some (.cells #[x] t m)) (y : Value) : (W.setCell ⟨b, 0, none⟩ y).heap[b]? = some (.cells #[y] t m) := by
  simp [World.setCell, Array.getElem?_modify, h]
theorem own_lenF {w : World} {base e m n : Nat} {A : Option Addr} {c : Nat} {xs : List Value} (h : w.ownsRow base e 1 (.slice A m c) n xs) : m = n := by
  rcases h.2 with ⟨hv, hn⟩ | ⟨g, cap, cur, hv, _⟩
  · cases hv; omega
  · cases hv; rfl
theorem own_strs {w : World} {base c n : Nat} {A : Option Addr} {ss : List ByteArray} (h : w.ownsRow base 9 1 (.slice A n c) ss.length (strW ss)) : Strs w A ss ∧ n = ss.length ∧ n ≤ c := by
  rcases h.2 with ⟨hv, hn⟩ | ⟨g, cap, cur, hv, hb, hg, hnc, _, hcs, htake⟩
  · cases hv
    exact ⟨fun hl => by omega, by omega, Nat.zero_le _⟩
  · cases hv
    refine ⟨fun hl => ⟨g, 0, rfl, (Array.getElem?_eq_some_iff.1 hg).1, fun j s hj => ?_⟩, rfl, hnc⟩
    have hjl : j < ss.length := (List.getElem?_eq_some_iff.1 hj).1
    rw [Nat.zero_add, cell_of_row w g j _ _ (0, 0) hg]
    have h1 : (cur.toList.take (ss.length * 1))[j]? = (strW ss)[j]? := by rw [htake]
    rw [List.getElem?_take, if_pos (by omega)] at h1
    rw [← Array.getElem?_toList, h1, strW, List.getElem?_map, hj]
    rfl
/-- A part of a row of strings. -/
theorem strs_part {w : World} {A : Option Addr} {ss : List ByteArray} (h : Strs w A ss) (s z : Int) (h0 : 0 ≤ s) (hz : 0 ≤ z) (hl : s + z ≤ ss.length) :
    Strs w (if (s + z).toNat = s.toNat then A else A.map (·.add (s.toNat * 1))) ((ss.drop s.toNat).take z.toNat) := fun hp => by
  have hlen : ((ss.drop s.toNat).take z.toNat).length = z.toNat := by rw [List.length_take, List.length_drop]; omega
  rw [hlen] at hp
  obtain ⟨b, off, rfl, hb, hc⟩ := h (by omega)
  rw [if_neg (by omega)]
  refine ⟨b, off + s.toNat, by simp [Addr.add], hb, fun j x hj => ?_⟩
  rw [List.getElem?_take] at hj
  split at hj
  · rw [List.getElem?_drop] at hj
    have := hc _ x hj
    rwa [show off + s.toNat + j = off + (s.toNat + j) by omega]
  · cases hj
theorem tx_part {d : Nat} {ss : List ByteArray} {ts : List (T d)} (h : Tx d ss ts) (s z : Nat) : Tx d ((ss.drop s).take z) ((ts.drop s).take z) := by
  unfold Tx at h ⊢
  rw [List.map_take, List.map_drop, h, List.map_take, List.map_drop]
theorem tx_len {d : Nat} {ss : List ByteArray} {ts : List (T d)} (h : Tx d ss ts) : ss.length = ts.length := by
  have := congrArg List.length h
  simpa using this
theorem tot_small : ∀ (ss : List ByteArray), (∀ s ∈ ss, s.size ≤ 400) → tot ss ≤ 400 * ss.length
  | [], _ => by simp [tot]
  | s :: l, h => by
    have h1 := tot_small l (fun x hx => h x (by simp [hx]))
    have h2 := h s (by simp)
    simp only [tot, List.length_cons]
    omega
end

/- FoldI -/
section
open Go.RowKit Go.Shelf
attribute [local go_sem] Oper.semAt_some

/-- The blocks that rounds may write. -/
def XF (g : Nat) (k : Nat) (T : TypeId) : Prop := g ≤ k ∧ (T = 9 ∨ T = 36 ∨ T = 4)

/-- Between two levels. -/
structure FoI (w : World) (g bt : Nat) (fa fb : Value) (LL : List (List Int)) (D : List Int) (n : Nat) (W : World) : Prop where
  gr : w.grownBy W none
  bx : W.heap[g]? = some (.cells #[fa, fb] 75 (0, 0))
  r0 : W.heap[g + 1]? = some (.cells #[.string ⟨#[]⟩] 9 (0, 0))
  r1 : W.heap[g + 2]? = some (.cells #[.bool false] 4 (0, 0))
  tx : ∃ (A : Option Addr) (c : Nat) (ss : List ByteArray), W.heap[bt]? = some (.cells #[.slice A ss.length c] 36 (0, 0)) ∧ W.ownsRow g 9 1 (.slice A ss.length c) ss.length (strW ss) ∧
    Tx (LL.drop (LL.length - n)).length ss (foldN (LL.drop (LL.length - n)).length (LL.drop (LL.length - n)) D) ∧ ∀ s ∈ ss, s.size ≤ 400
/-- A text was too long. -/
structure FoX (w : World) (g : Nat) (LL : List (List Int)) (D : List Int) (W : World) : Prop where
  gr : w.grownBy W none
  r0 : W.heap[g + 1]? = some (.cells #[.string ⟨#[]⟩] 9 (0, 0))
  r1 : W.heap[g + 2]? = some (.cells #[.bool false] 4 (0, 0))
  bad : FoldBad LL D

/-- Between two parts of a level. -/
structure FiI (Wb : World) (m d : Nat) (us : List (T (d + 1))) (n : Nat) (V : World) : Prop where
  gr : Wb.grownBy V none
  tx : ∃ (A : Option Addr) (c : Nat) (fs : List ByteArray), V.heap[m]? = some (.cells #[.slice A fs.length c] 36 (0, 0)) ∧ V.ownsRow m 9 1 (.slice A fs.length c) fs.length (strW fs) ∧ Tx (d + 1) fs (us.take n) ∧ ∀ s ∈ fs, s.size ≤ 400
/-- A text was too long: within the loop over parts. -/
structure FiX (w : World) (g B : Nat) (LL : List (List Int)) (D : List Int) (Wb V : World) : Prop where
  from_ : KeepsFrom B Wb V
  bad : FoX w g LL D V
theorem foI_own (w : World) (g bt : Nat) (fa fb : Value) (LL : List (List Int)) (D : List Int) (hg : w.heap.size = g) {B : Nat} (hB : g ≤ B) : OwnFrom B (fun (pre : List (Int × Value)) W => FoI w g bt fa fb LL D pre.length W) := fun pre A C row hs hgr hr => by
  have hr2 : ∀ r, row = some r → ∃ o : Obj, A.heap[r]? = some o ∧ o.isCells = false := fun r e => (hr r e).2
  obtain ⟨h1, h2, h3, h4, A1, c1, ss, h5, h6, h7, h8⟩ := hs
  exact ⟨gr_ownF h1 hgr (fun k e => by have := (hr k e).1; omega), cells_keptF hgr hr2 h2, cells_keptF hgr hr2 h3, cells_keptF hgr hr2 h4, A1, c1, ss, cells_keptF hgr hr2 h5, own_keptF hgr hr2 h6, h7, h8⟩
theorem foX_own {α : Type} (w : World) (g : Nat) (LL : List (List Int)) (D : List Int) (hg : w.heap.size = g) {B : Nat} (hB : g ≤ B) : OwnFrom B (fun (_ : α) W => FoX w g LL D W) := fun pre A C row hs hgr hr => by
  have hr2 : ∀ r, row = some r → ∃ o : Obj, A.heap[r]? = some o ∧ o.isCells = false := fun r e => (hr r e).2
  obtain ⟨h1, h2, h3, h4⟩ := hs
  exact ⟨gr_ownF h1 hgr (fun k e => by have := (hr k e).1; omega), cells_keptF hgr hr2 h2, cells_keptF hgr hr2 h3, h4⟩
theorem fiI_own (Wb : World) (m d : Nat) (us : List (T (d + 1))) (hm : Wb.heap.size = m) {B : Nat} (hB : m ≤ B) : OwnFrom B (fun (pre : List (Int × Int)) V => FiI Wb m d us pre.length V) := fun pre A C row hs hgr hr => by
  have hr2 : ∀ r, row = some r → ∃ o : Obj, A.heap[r]? = some o ∧ o.isCells = false := fun r e => (hr r e).2
  obtain ⟨h1, A1, c1, fs, h5, h6, h7, h8⟩ := hs
  exact ⟨gr_ownF h1 hgr (fun k e => by have := (hr k e).1; omega), A1, c1, fs, cells_keptF hgr hr2 h5, own_keptF hgr hr2 h6, h7, h8⟩
theorem fiX_own {α : Type} (w : World) (g B0 : Nat) (LL : List (List Int)) (D : List Int) (Wb : World) (hg : w.heap.size = g) {B : Nat} (hB : g ≤ B) (hW : Wb.heap.size ≤ B) : OwnFrom B (fun (_ : α) V => FiX w g B0 LL D Wb V) := fun pre A C row hs hgr hr =>
  ⟨ownFrom_keepsF B0 Wb hW pre A C row hs.from_ hgr hr, foX_own w g LL D hg hB pre A C row hs.bad hgr hr⟩
/-- The blocks that a level's rounds may write. -/
def XG (m : Nat) (k : Nat) (T : TypeId) : Prop := m ≤ k ∧ (T = 9 ∨ T = 36)

def FoldP (LL : List (List Int)) (D : List Int) (w : World) (e : Ending) (w' : World) : Prop := w.grownBy w' none ∧ ∃ (u : ByteArray) (t : T LL.length), foldN LL.length LL D = [t] ∧
  e = .returned (.tuple #[.string u, .bool (decide ((text LL.length t).length ≤ 400))]) ∧ u.data.toList = if (text LL.length t).length ≤ 400 then text LL.length t else []

set_option maxRecDepth 100000 in
set_option maxHeartbeats 4000000 in
theorem fold_impl (A B : Option Addr) (c e : Nat) (LL : List (List Int)) (D : List Int) (w : World) (h : Rws w A LL) (hB : Ints w B D) (hf : Fits 1 LL D) (hd : LL.length ≤ 3) (hm : ∀ M ∈ LL, M.length ≤ 1048576) (hn : D.length ≤ 1048576)
    (htab : Lib.TabIs Tryd.prog w "internal/strconv.uint64pow10" .u64 Lib.pow10Tab) :
    Calls Tryd.prog 45 #[.agg #[.slice B D.length e, .slice A LL.length c]] w (FoldP LL D w) := by
  obtain ⟨i0s, hj0, hj1, hj2, hj3⟩ := info_parts infoStr
  obtain ⟨g, hg⟩ : ∃ g, w.heap.size = g := ⟨_, rfl⟩
  obtain ⟨nd, hnd⟩ : ∃ n, LL.length = n := ⟨_, rfl⟩
  obtain ⟨nD, hnD⟩ : ∃ n, D.length = n := ⟨_, rfl⟩
  obtain ⟨w1, hw1⟩ : ∃ z, w.alloc (.cells #[.slice B nD e, .slice A nd c] 75) = z := ⟨_, rfl⟩
  obtain ⟨w2, hw2⟩ : ∃ z, w1.alloc (.cells #[.string ⟨#[]⟩] 9) = z := ⟨_, rfl⟩
  obtain ⟨w3, hw3⟩ : ∃ z, w2.alloc (.cells #[.bool false] 4) = z := ⟨_, rfl⟩
  have z1 : w1.heap.size = g + 1 := by rw [← hw1, ← hg]; simp
  have z2 : w2.heap.size = g + 2 := by rw [← hw2]; simp [z1]
  have z3 : w3.heap.size = g + 3 := by rw [← hw3]; simp [z2]
  have g1 : w.grownBy w1 none := by rw [← hw1]; exact World.grownBy_alloc _ _ _
  have g2 : w1.grownBy w2 none := by rw [← hw2]; exact World.grownBy_alloc _ _ _
  have g3 : w2.grownBy w3 none := by rw [← hw3]; exact World.grownBy_alloc _ _ _
  have b1 : Pr w1 g 75 (.slice B nD e) (.slice A nd c) := by rw [← hw1, ← hg]; exact Pr.new _ _ _ _
  have b2 : w2.heap[g + 1]? = some (.cells #[.string ⟨#[]⟩] 9 (0, 0)) := by rw [← hw2, ← z1]; exact heap_alloc_new _ _
  have b3 : w3.heap[g + 2]? = some (.cells #[.bool false] 4 (0, 0)) := by rw [← hw3, ← z2]; exact heap_alloc_new _ _
  have g13 : w.grownBy w3 none := (g1.trans g2).trans g3
  have HTXT := Lib.hid (texts_any B e D w3 (hB.grown g13 (by simp)) (wf_num (fits_num LL 1 D hf)) (by omega) (Lib.tabBelow_of_tabIs htab _ (below_of g13)))
  have HZ := Lib.hid (And.intro z1 (And.intro z2 z3))
  rw [hnD] at HTXT
  rw [hnd, hnD]
  have p0 := b1.c0
  have p1 := b1.c1
  have HB1 := Lib.hid b1
  have q1 := (g2.trans g3).cell p0 (by simp)
  have q2 := (g2.trans g3).cell p1 (by simp)
  refine (callsIn_wide (n := 3)).1 ?_
  refine callsIn_of_wp_marks Tryd.func45 rfl trivial ?_ rfl
  simp only [Tryd.ntmps45, List.size_toArray, List.length_cons, List.length_nil, Nat.reduceAdd, Nat.reduceSub, Array.replicate_succ, Array.replicate_zero, List.push_toArray, List.append_toArray, List.nil_append, List.cons_append]
  gi_wp2_with (first
    | (refine ⟨trivial, ?_⟩; gi_at_call 82; refine (callsIn_wide.2 HTXT.out).mono ?_; clear HTXT; rintro ee w4 ⟨gt, rfl, hg4, ho4⟩; have q3 := (hg4.trans (World.grownBy_alloc w4 (.cells #[.slice (some ⟨gt, 0, none⟩) nD nD] 36) none)).cell q1 (by simp); have q4 := (hg4.trans (World.grownBy_alloc w4 (.cells #[.slice (some ⟨gt, 0, none⟩) nD nD] 36) none)).cell q2 (by simp))
    | (refine ⟨trivial, ?_⟩; gi_at_call 83; refine (callsIn_wide.2 (backmakerL A nd c _)).mono ?_; rintro ee w5 ⟨rfl, rfl⟩))
  obtain ⟨vs, hvl, hvS, hvR⟩ := rws_vals h
  obtain ⟨bt, hbt⟩ : ∃ bt, w4.heap.size = bt := ⟨_, rfl⟩
  rw [hbt]
  obtain ⟨w5, hw5⟩ : ∃ z, w4.alloc (.cells #[.slice (some ⟨gt, 0, none⟩) nD nD] 36) = z := ⟨_, rfl⟩
  rw [hw5]
  obtain ⟨w6, hw6⟩ : ∃ z, w5.alloc (.cells #[.slice A nd c] 22) = z := ⟨_, rfl⟩
  rw [hw6]
  have z5 : w5.heap.size = bt + 1 := by rw [← hw5, ← hbt]; simp
  have z6 : w6.heap.size = bt + 2 := by rw [← hw6]; simp [z5]
  have g5 : w4.grownBy w5 none := by rw [← hw5]; exact World.grownBy_alloc _ _ _
  have g6 : w5.grownBy w6 none := by rw [← hw6]; exact World.grownBy_alloc _ _ _
  have g36 : w3.grownBy w6 none := (hg4.trans g5).trans g6
  have gA : w.grownBy w6 none := g13.trans g36
  have hbtg : g + 3 ≤ bt := by have := hg4.size; omega
  have c5 : w6.heap[bt]? = some (.cells #[.slice (some ⟨gt, 0, none⟩) nD nD] 36 (0, 0)) := (g6.block _ (by omega) (by simp)).trans (by rw [← hw5, ← hbt]; exact heap_alloc_new _ _)
  have c6 : w6.heap[bt + 1]? = some (.cells #[.slice A nd c] 22 (0, 0)) := by rw [← hw6, ← z5]; exact heap_alloc_new _ _
  have hX : ∀ k T, XF g k T → w.heap.size ≤ k := fun k T h => by rw [hg]; exact h.1
  have hnX : ¬ XF g (bt + 1) 22 := by rintro ⟨_, h | h | h⟩ <;> exact absurd h (by decide)
  have hseq := backL_iter (XF g) (bt + 1) c hnX A vs w6 (hvS _ _ hX gA) (by rw [hvl]; omega) (by rw [hvl, hnd]; exact c6)
  have hD0 := fits_num LL 1 D hf
  have h0 : FoI w g bt (.slice B nD e) (.slice A nd c) LL D ([] : List (Int × Value)).length w6 := by
    refine ⟨gA, ((g2.trans g3).trans g36).block _ (by omega) (by simp) |>.trans HB1.out, (g3.trans g36).block _ (by omega) (by simp) |>.trans b2, g36.block _ (by omega) (by simp) |>.trans b3, some ⟨gt, 0, none⟩, nD, D.map nstr, ?_, ?_, ?_, ?_⟩
    · rw [List.length_map, hnD]; exact c5
    · have h3 := own_keep (own_base ho4 (show g ≤ w3.heap.size by omega)) (fun k hk => ((g5.trans g6).block k ((ho4.lt k hk).2) (by simp)))
      have e1 : strW (D.map nstr) = D.map (fun z => Value.string (nstr z)) := by simp [strW]
      rw [List.length_map, hnD, e1]
      exact h3
    · have e : LL.drop (LL.length - ([] : List (Int × Value)).length) = [] := by simp
      rw [e]
      exact tx_nums hD0
    · intro s hs
      obtain ⟨z, hz, rfl⟩ := List.mem_map.1 hs
      obtain ⟨j, hj⟩ := List.getElem?_of_mem hz
      have h1 := okN_at hj hD0
      have h2 := nstr_dec h1.1
      have h3 := dec_len 4 z.toNat (by omega)
      have h4 : (nstr z).size = (nstr z).data.toList.length := by rw [Array.length_toList]; rfl
      rw [h4, h2]
      omega
  refine range_ownA idx (X := XF g) (zs := back vs) (gf := 105) (lb := #[.pointer (some ⟨bt + 1, 0, none⟩)]) rfl (enters_of Tryd.func105 (by kernel_rfl) rfl) hseq
    (fun pre W => FoI w g bt (.slice B nD e) (.slice A nd c) LL D pre.length W) (fun _ W => FoX w g LL D W) (foI_own w g bt _ _ LL D hg (by omega)) (foX_own w g LL D hg (by omega)) h0 (fun _ => rfl)
    (fun x W => W.alloc (.cells #[.int .i64 x.1] 3)) (fun x W => World.grownBy_alloc _ _ _)
    (fun x W => { tmps := #[.agg #[.slice B nD e, .slice A nd c], .pointer (some ⟨g, 0, none⟩), .pointer (some ⟨g + 1, 0, none⟩), .pointer (some ⟨g + 2, 0, none⟩), .pointer (some ⟨bt, 0, none⟩), .pointer (some ⟨W.heap.size, 0, none⟩), x.2, undef, undef, undef, undef, undef,
      .pointer (some ⟨g, 0, none⟩), .agg #[.slice B nD e], .slice (some ⟨gt, 0, none⟩) nD nD, .pointer (some ⟨g, 1, none⟩), .slice A nd c, .func (.func 105) #[] #[.pointer (some ⟨bt + 1, 0, none⟩)], .int .i64 x.1, x.2,
      undef, undef, undef, undef, undef, undef, undef, undef, undef, undef, undef, undef, undef, undef, undef, undef, undef, undef, undef, undef, undef, undef, undef, undef, undef, undef, undef, undef], defers := [] }) ?assign ?body ?done ?stop
  case assign =>
    intro l1 m1 x W K hK
    simp only [idx]
    gi_wp2
    exact hK
  case body =>
    intro l1 m1 pre x W0 Wb hl1 hr1 hI0 hI hsz hcl hpre
    obtain ⟨r1, hr1⟩ := hr1
    obtain ⟨i, v, hi, hv, rfl⟩ := back_pre hpre
    rw [hvl] at hi
    obtain ⟨L, hL⟩ : ∃ L, LL[i]? = some L := ⟨_, List.getElem?_eq_getElem (by omega)⟩
    obtain ⟨Bi, ci, hv2, hci, hin⟩ := hvR i L hL
    rw [hv] at hv2
    simp only [Option.some.injEq] at hv2
    subst hv2
    obtain ⟨k, hk⟩ : ∃ k, L.length = k := ⟨_, rfl⟩
    have hkm : k ≤ 1048576 := by have := hm L (List.mem_of_getElem? hL); omega
    obtain ⟨hgr, hbx, hr0', hr1', At, ct, ss, hbt', hown, htx, hsm⟩ := hI
    have hS : LL.drop (LL.length - pre.length) = LL.drop (i + 1) := by congr 1; omega
    rw [hS] at htx
    obtain ⟨hokL, hfS, _, _, _⟩ := fits_drop hf hL
    have hSS := drop_at hL
    have hsl : (LL.drop (i + 1)).length = pre.length := by rw [List.length_drop]; omega
    obtain ⟨S, hSd⟩ : ∃ S, LL.drop (i + 1) = S := ⟨_, rfl⟩
    rw [hSd] at htx hfS hSS hsl
    have htl := foldN_len S.length _ S D rfl hfS
    have hssl := tx_len htx
    have hlev : Wb.heap[W0.heap.size]? = some (.cells #[.int .i64 (i : Int)] 3 (0, 0)) := hcl _ _ _ _ (heap_alloc_new _ _)
    obtain ⟨bl, hbl⟩ : ∃ bl, W0.heap.size = bl := ⟨_, rfl⟩
    rw [hbl] at hlev
    have hmb : Wb.heap.size = bl + 1 := by rw [hsz, ← hbl]; simp
    obtain ⟨ns, hns⟩ : ∃ n, ss.length = n := ⟨_, rfl⟩
    have hbW := hgr.size
    have hblt : bt < bl + 1 := by have := (Array.getElem?_eq_some_iff.1 hbt').1; omega
    have hgm : g ≤ bl + 1 := by have := hgr.size; omega
    have hl1m : l1 < bl + 1 := by have := (Array.getElem?_eq_some_iff.1 hr1).1; omega
    simp only [hbl, hk]
    gi_wp2_with (refine ⟨trivial, fun h => (by cases h), ?_⟩; refine (CallsIn.inRound l1 (callsIn_wide.2 (spansmakerL _ _ _ _))).mono ?_; rintro ee w' ⟨rfl, rfl⟩)
    obtain ⟨V1, hV1⟩ : ∃ z, Wb.alloc (.cells #[.slice none 0 0] 36) = z := ⟨_, rfl⟩
    rw [hV1]
    obtain ⟨V2, hV2⟩ : ∃ z, V1.alloc (.cells #[.slice Bi k ci] 23) = z := ⟨_, rfl⟩
    rw [hV2]
    have y1 : V1.heap.size = bl + 2 := by rw [← hV1]; simp [hmb]
    have y2 : V2.heap.size = bl + 3 := by rw [← hV2]; simp [y1]
    have gV1 : Wb.grownBy V1 none := by rw [← hV1]; exact World.grownBy_alloc _ _ _
    have gV2 : V1.grownBy V2 none := by rw [← hV2]; exact World.grownBy_alloc _ _ _
    have e1 : V2.heap[bl + 1]? = some (.cells #[.slice none 0 0] 36 (0, 0)) := (gV2.block _ (by omega) (by simp)).trans (by rw [← hV1, ← hmb]; exact heap_alloc_new _ _)
    have e2 : V2.heap[bl + 1 + 1]? = some (.cells #[.slice Bi k ci] 23 (0, 0)) := by rw [← hV2, ← y1]; exact heap_alloc_new _ _
    have gV : Wb.grownBy V2 none := gV1.trans gV2
    have hXG : ∀ q T, XG (bl + 1) q T → w.heap.size ≤ q := fun q T h => by have := h.1; omega
    have hnXG : ¬ XG (bl + 1) (bl + 1 + 1) 23 := by rintro ⟨_, h | h⟩ <;> exact absurd h (by decide)
    have hseq2 := spansL_iter (XG (bl + 1)) (bl + 1 + 1) ci Bi L V2 (ints_l hin hXG (hgr.trans gV)) hnXG (by omega) hokL (by rw [hk]; exact e2)
    have hr1V : V2.heap[l1]? = some (.loop r1) := (gV.block _ (by omega) (by simp)).trans hr1
    obtain ⟨us, hus⟩ : ∃ us, us = foldN (S.length + 1) (L :: S) D := ⟨_, rfl⟩
    have i0 : FiI Wb (bl + 1) S.length us ([] : List (Int × Int)).length V2 := ⟨gV, none, 0, [], e1, World.ownsRow_nil _ _ _ _, by simp [Tx], by simp⟩
    refine range_inK twoK (X := XG (bl + 1)) hr1V (zs := spanK 0 L) (gf := 106) (lb := #[.pointer (some ⟨bl + 1 + 1, 0, none⟩)]) rfl (enters_of Tryd.func106 (by kernel_rfl) rfl) hseq2
      (fun pre2 V => FiI Wb (bl + 1) S.length us pre2.length V) (fun _ V => FiX w g w6.heap.size LL D Wb V) (fiI_own Wb (bl + 1) S.length us hmb (by omega)) (fiX_own w g _ LL D Wb hg (by omega) gV.size) i0 (fun _ => rfl)
      (fun y => { tmps := #[.agg #[.slice B nD e, .slice A nd c], .pointer (some ⟨g, 0, none⟩), .pointer (some ⟨g + 1, 0, none⟩), .pointer (some ⟨g + 2, 0, none⟩), .pointer (some ⟨bt, 0, none⟩), .pointer (some ⟨bl, 0, none⟩), .slice Bi k ci, .pointer (some ⟨bl + 1, 0, none⟩), .int .i64 y.1, .int .i64 y.2, undef, undef,
        .pointer (some ⟨g, 0, none⟩), .agg #[.slice B nD e], .slice (some ⟨gt, 0, none⟩) nD nD, .pointer (some ⟨g, 1, none⟩), .slice A nd c, .func (.func 105) #[] #[.pointer (some ⟨bt + 1, 0, none⟩)], .int .i64 (i : Int), .slice Bi k ci,
        .slice Bi k ci, .func (.func 106) #[] #[.pointer (some ⟨bl + 1 + 1, 0, none⟩)], .int .i64 y.1, .int .i64 y.2, undef, undef, undef, undef, undef, undef, undef, undef, undef, undef, undef, undef, undef, undef, undef, undef, undef, undef, undef, undef, undef, undef, undef, undef], defers := [] }) ?as2 ?bo2 ?do2 ?st2
    case as2 =>
      intro l2 m2 y V K hK
      simp only [twoK]
      gi_wp2
      exact hK
    case bo2 =>
      intro l2 m2 pre2 y V hl2 hr2 hF hpre2
      obtain ⟨z, hz, rfl⟩ := spanL_pre hpre2
      obtain ⟨hz0, hz4, hs0, hsz2⟩ := sumI_le hokL hz
      obtain ⟨s, hs⟩ : ∃ s, sumI (L.take pre2.length) = s := ⟨_, rfl⟩
      rw [hs] at hs0 hsz2 ⊢
      obtain ⟨hgV, Af, cf, fs, hbf, hof, htf, hsf⟩ := hF
      have hgw := hgr.trans hgV
      -- what is read
      have v1 : V.cell? ⟨bt, 0, none⟩ = some (.slice At ns ct) := by
        have := (hgV.block _ (by omega) (by simp)).trans hbt'
        rw [hns] at this
        exact cell_of_row V bt 0 _ _ (0, 0) this
      have hbxV : Pr V g 75 (.slice B nD e) (.slice A nd c) := (hgV.block _ (by have := (Array.getElem?_eq_some_iff.1 hbx).1; omega) (by simp)).trans hbx
      have v2 := hbxV.c1
      have v3 : V.cell? ⟨bl, 0, none⟩ = some (.int .i64 (i : Int)) := cell_of_row V bl 0 _ _ (0, 0) ((hgV.block _ (by omega) (by simp)).trans hlev)
      have hownV := own_keep hown (fun q hq => hgV.block q (hown.lt q hq).2 (by simp))
      obtain ⟨hstr, _, hcap⟩ := own_strs hownV
      rw [hns] at hcap
      have hsn : s + z ≤ (ns : Int) := by
        have h2 : (foldN S.length S D).length = (sumI L).toNat := htl
        omega
      have hpt := strs_part hstr s z hs0 hz0 (by omega)
      have htxp := tx_part htx s.toNat z.toNat
      obtain ⟨ps, hps⟩ : ∃ ps, (ss.drop s.toNat).take z.toNat = ps := ⟨_, rfl⟩
      have hpl : ps.length = z.toNat := by rw [← hps, List.length_take, List.length_drop]; omega
      rw [hps] at hpt htxp
      -- the array
      obtain ⟨u, hu⟩ : ∃ u : T (S.length + 1), us[pre2.length]? = some u := ⟨_, List.getElem?_eq_getElem (by
        rw [hus]
        have h1 := (List.getElem?_eq_some_iff.1 hz).1
        have h2 : (foldN (S.length + 1) (L :: S) D).length = L.length := cutBy_len L _
        omega)⟩
      have hup : u = ((foldN S.length S D).drop s.toNat).take z.toNat := by
        have h1 := foldN_at (d := S.length) (LL := S) (D := D) hz hokL
        rw [hs, ← hus] at h1
        exact Option.some.inj (hu.symm.trans h1)
      have hokk : mkOk ps ((S.length : Int) + 1) = decide ((text (S.length + 1) u).length ≤ 400) := by
        rw [hup]
        exact mk_level htxp (fun t ht => okT_fold S.length _ S D rfl hfS t (List.mem_of_mem_drop (List.mem_of_mem_take ht))) (by omega)
      have htxt : mkText ps = text (S.length + 1) u := by rw [hup]; exact tx_text htxp
      have hptot : tot ps ≤ 1048576 := by
        have := tot_small ps (fun x hx => hsm x (by rw [← hps] at hx; exact List.mem_of_mem_drop (List.mem_of_mem_take hx)))
        omega
      obtain ⟨Ap, hAp⟩ : ∃ Ap, (if (s + z).toNat = s.toNat then At else At.map (·.add (s.toNat * 1))) = Ap := ⟨_, rfl⟩
      rw [hAp] at hpt
      obtain ⟨ok, hok⟩ : ∃ b, mkOk ps ((S.length : Int) + 1) = b := ⟨_, rfl⟩
      obtain ⟨U, hU⟩ : ∃ U : ByteArray, U = if ok = true then ⟨(mkText ps).toArray⟩ else ⟨#[]⟩ := ⟨_, rfl⟩
      have HMK : Hid (∀ W, V.grownBy W none → Calls Tryd.prog 85 #[.slice Ap z.toNat z.toNat, .int .i64 ((S.length : Int) + 1)] W fun e w' => e = .returned (.tuple #[.string U, .bool ok]) ∧ W.grownBy w' none) := Lib.hid (fun W hW => by
        have h1 := mkimpl_any Ap z.toNat ((S.length : Int) + 1) ps W (hpt.grown hW) (by omega) hptot (by omega)
        rw [hpl] at h1
        refine h1.mono ?_
        rintro ee w' ⟨hg', t, rfl, ht⟩
        rw [hok] at ht ⊢
        refine ⟨?_, hg'⟩
        have : t = U := by
          rw [hU, bytes_eqF ht]
          cases ok <;> rfl
        rw [this])
      have hrun : ∀ u, (Instr.slice 36 (.slice At ns ct) (some (.int .i64 s)) (some (.int .i64 (s + z))) (some (.int .i64 (s + z)))).run Tryd.prog u = .ok (.slice Ap z.toNat z.toNat) u := fun u => by
        have := cut_runS At ns ct s z u hs0 hz0 (by omega)
        rw [hAp, show (s + z).toNat - s.toNat = z.toNat by omega] at this
        exact this
      have hsub : IntKind.i64.wrap ((nd : Int) - (i : Int)) = (S.length : Int) + 1 := by
        have : (nd : Int) - (i : Int) = (S.length : Int) + 1 := by omega
        rw [this]
        exact IntWalk.i64_in _ (by omega)
      have hmx : Tryd.prog.follows .mixedOrders = true := by kernel_rfl
      have HV1 := Lib.hid v1
      have HV2 := Lib.hid v2
      have HV3 := Lib.hid v3
      have HRUN := Lib.hid hrun
      have HSUB := Lib.hid hsub
      obtain ⟨sl, hsl2⟩ : ∃ sl : Int, (S.length : Int) + 1 = sl := ⟨_, rfl⟩
      rw [hsl2] at HMK HSUB
      have HSLE := Lib.hid hsl2
      have HUE := Lib.hid hU
      have HOK := Lib.hid (hok.symm.trans hokk)
      have HTXT := Lib.hid htxt
      have HHS := Lib.hid hs
      have HSLL := Lib.hid hsl
      clear hsl2 hU hok hokk htxt hsl hup hpl hps hsub hrun v1 v2 v3
      gi_wp2
      refine wpIn_region_put (u := V) [.slice At ns ct, .int .i64 s, .int .i64 (s + z), .int .i64 (s + z), .slice Ap z.toNat z.toNat, .pointer (some ⟨g, 1, none⟩), .slice A nd c, .int .i64 (nd : Int), .int .i64 (i : Int), .int .i64 sl, .tuple #[.string U, .bool ok], .tuple #[.string U, .bool ok], .string U, .bool ok, .string U, .bool ok] 48 rfl (by simp) (by kernel_rfl) (by kernel_rfl) hmx ?hend ?hstep V (gr_drewN V 1 none)
      case hstep =>
        refine ⟨?_, ?_, ?_, ?_, ?_, ?_, ?_, ?_, ?_, ?_, ?_, ?_, ?_, ?_, ?_, ?_, trivial⟩
        · intro a' w' hdf hgr' hfar hdep
          have e0 : a'.tmps.getD 4 undef = .pointer (some ⟨bt, 0, none⟩) := hfar 4 (by kernel_rfl)
          have f0 := hgr'.cell HV1.out (by simp)
          go_simp
          exact gr_refl _ _
        · intro a' w' hdf hgr' hfar hdep
          have e0 : a'.tmps.getD 8 undef = .int .i64 s := hfar 8 (by kernel_rfl)
          go_simp
          exact gr_refl _ _
        · intro a' w' hdf hgr' hfar hdep
          have e0 : a'.tmps.getD 9 undef = .int .i64 (s + z) := hfar 9 (by kernel_rfl)
          go_simp
          exact gr_refl _ _
        · intro a' w' hdf hgr' hfar hdep
          have e0 : a'.tmps.getD 9 undef = .int .i64 (s + z) := hfar 9 (by kernel_rfl)
          go_simp
          exact gr_refl _ _
        · intro a' w' hdf hgr' hfar hdep
          have e0 : a'.tmps.getD 25 undef = .slice At ns ct := hdep 0 _ 25 (by kernel_rfl) rfl rfl
          have e1 : a'.tmps.getD 26 undef = .int .i64 s := hdep 1 _ 26 (by kernel_rfl) rfl rfl
          have e2 : a'.tmps.getD 27 undef = .int .i64 (s + z) := hdep 2 _ 27 (by kernel_rfl) rfl rfl
          have e3 : a'.tmps.getD 28 undef = .int .i64 (s + z) := hdep 3 _ 28 (by kernel_rfl) rfl rfl
          have f0 := HRUN.out w'
          go_simp
          exact gr_refl _ _
        · intro a' w' hdf hgr' hfar hdep
          have e0 : a'.tmps.getD 1 undef = .pointer (some ⟨g, 0, none⟩) := hfar 1 (by kernel_rfl)
          go_simp
          exact gr_refl _ _
        · intro a' w' hdf hgr' hfar hdep
          have e0 : a'.tmps.getD 30 undef = .pointer (some ⟨g, 1, none⟩) := hdep 5 _ 30 (by kernel_rfl) rfl rfl
          have f0 := hgr'.cell HV2.out (by simp)
          go_simp
          exact gr_refl _ _
        · intro a' w' hdf hgr' hfar hdep
          have e0 : a'.tmps.getD 31 undef = .slice A nd c := hdep 6 _ 31 (by kernel_rfl) rfl rfl
          go_simp
          exact gr_refl _ _
        · intro a' w' hdf hgr' hfar hdep
          have e0 : a'.tmps.getD 5 undef = .pointer (some ⟨bl, 0, none⟩) := hfar 5 (by kernel_rfl)
          have f0 := hgr'.cell HV3.out (by simp)
          go_simp
          exact gr_refl _ _
        · intro a' w' hdf hgr' hfar hdep
          have e0 : a'.tmps.getD 32 undef = .int .i64 (nd : Int) := hdep 7 _ 32 (by kernel_rfl) rfl rfl
          have e1 : a'.tmps.getD 33 undef = .int .i64 (i : Int) := hdep 8 _ 33 (by kernel_rfl) rfl rfl
          have f0 := HSUB.out
          go_simp
          exact gr_refl _ _
        · intro a' w' hdf hgr' hfar hdep
          have e0 : a'.tmps.getD 29 undef = .slice Ap z.toNat z.toNat := hdep 4 _ 29 (by kernel_rfl) rfl rfl
          have e1 : a'.tmps.getD 34 undef = .int .i64 sl := hdep 9 _ 34 (by kernel_rfl) rfl rfl
          go_simp
          go_at_call 85
          refine (HMK.out w' hgr').mono ?_
          rintro ee w'' ⟨rfl, hg''⟩
          exact ⟨rfl, hg''⟩
        · intro a' w' hdf hgr' hfar hdep
          have e0 : a'.tmps.getD 35 undef = .tuple #[.string U, .bool ok] := hdep 10 _ 35 (by kernel_rfl) rfl rfl
          go_simp
          exact gr_refl _ _
        · intro a' w' hdf hgr' hfar hdep
          have e0 : a'.tmps.getD 24 undef = .tuple #[.string U, .bool ok] := hdep 11 _ 24 (by kernel_rfl) rfl rfl
          go_simp
          exact gr_refl _ _
        · intro a' w' hdf hgr' hfar hdep
          have e0 : a'.tmps.getD 24 undef = .tuple #[.string U, .bool ok] := hdep 11 _ 24 (by kernel_rfl) rfl rfl
          go_simp
          exact gr_refl _ _
        · intro a' w' hdf hgr' hfar hdep
          have e0 : a'.tmps.getD 36 undef = .string U := hdep 12 _ 36 (by kernel_rfl) rfl rfl
          go_simp
          exact gr_refl _ _
        · intro a' w' hdf hgr' hfar hdep
          have e0 : a'.tmps.getD 37 undef = .bool ok := hdep 13 _ 37 (by kernel_rfl) rfl rfl
          go_simp
          exact gr_refl _ _
      case hend =>
        intro V3 hg3
        have hgV3 := hgV.trans hg3
        have h7 : V3.heap[bl + 1]? = some (.cells #[.slice Af fs.length cf] 36 (0, 0)) := (hg3.block _ (by have := (Array.getElem?_eq_some_iff.1 hbf).1; omega) (by simp)).trans hbf
        have hof3 := own_keep hof (fun q hq => hg3.block q (hof.lt q hq).2 (by simp))
        have hr0V : V3.heap[g + 1]? = some (.cells #[.string ⟨#[]⟩] 9 (0, 0)) := (hgV3.block _ (by have := (Array.getElem?_eq_some_iff.1 hr0').1; omega) (by simp)).trans hr0'
        have hr1V2 : V3.heap[g + 2]? = some (.cells #[.bool false] 4 (0, 0)) := (hgV3.block _ (by have := (Array.getElem?_eq_some_iff.1 hr1').1; omega) (by simp)).trans hr1'
        generalize hT : putVals _ _ _ = T
        obtain rfl : T = #[.agg #[.slice B nD e, .slice A nd c], .pointer (some ⟨g, 0, none⟩), .pointer (some ⟨g + 1, 0, none⟩), .pointer (some ⟨g + 2, 0, none⟩), .pointer (some ⟨bt, 0, none⟩), .pointer (some ⟨bl, 0, none⟩), .slice Bi k ci, .pointer (some ⟨bl + 1, 0, none⟩), .int .i64 s, .int .i64 (s + z), .string U, .bool ok,
          .pointer (some ⟨g, 0, none⟩), .agg #[.slice B nD e], .slice (some ⟨gt, 0, none⟩) nD nD, .pointer (some ⟨g, 1, none⟩), .slice A nd c, .func (.func 105) #[] #[.pointer (some ⟨bt + 1, 0, none⟩)], .int .i64 (i : Int), .slice Bi k ci,
          .slice Bi k ci, .func (.func 106) #[] #[.pointer (some ⟨bl + 1 + 1, 0, none⟩)], .int .i64 s, .int .i64 (s + z), .tuple #[.string U, .bool ok], .slice At ns ct, .int .i64 s, .int .i64 (s + z), .int .i64 (s + z), .slice Ap z.toNat z.toNat, .pointer (some ⟨g, 1, none⟩), .slice A nd c, .int .i64 (nd : Int), .int .i64 (i : Int), .int .i64 sl, .tuple #[.string U, .bool ok], .string U, .bool ok,
          undef, undef, undef, undef, undef, undef, undef, undef, undef, undef] := by rw [← hT]; simp [putVals]
        clear hT
        have u1 : V3.cell? ⟨g + 1, 0, none⟩ = some (.string ⟨#[]⟩) := cell_of_row V3 (g + 1) 0 _ _ (0, 0) hr0V
        have u2 : V3.cell? ⟨g + 2, 0, none⟩ = some (.bool false) := cell_of_row V3 (g + 2) 0 _ _ (0, 0) hr1V2
        have u3 : V3.frozen? ⟨g + 1, 0, none⟩ = false := by simp [World.frozen?, hr0V]
        have u4 : V3.frozen? ⟨g + 2, 0, none⟩ = false := by simp [World.frozen?, hr1V2]
        have u7 : V3.cell? ⟨bl + 1, 0, none⟩ = some (.slice Af fs.length cf) := cell_of_row V3 (bl + 1) 0 _ _ (0, 0) h7
        have u8 : V3.frozen? ⟨bl + 1, 0, none⟩ = false := by simp [World.frozen?, h7]
        have hgw3 := hgw.trans hg3
        cases ok with
        | false =>
          have hbad : FoldBad LL D := by
            have h1 := txs_suffix LL 1 i D hf (by omega)
            rw [hSS] at h1
            have h2 := txs_mem (S.length + 1) hu
            have h3 := HOK.out
            rw [hus] at h2
            unfold FoldBad
            have h4 : ¬ (text (S.length + 1) u).length ≤ 400 := fun h => by rw [decide_eq_true h] at h3; cases h3
            have h5 : txs (L :: S).length (foldN (L :: S).length (L :: S) D) = txs (S.length + 1) (foldN (S.length + 1) (L :: S) D) := rfl
            omega
          gi_wp2
          have k1 : KeepsK (fun _ _ => True) V3 (V3.setCell ⟨g + 1, 0, none⟩ (.string ⟨#[]⟩)) := KeepsK.grownX (gr_set V3 (g + 1) 0 _) hr0V trivial
          have hr1V3 : (V3.setCell ⟨g + 1, 0, none⟩ (.string ⟨#[]⟩)).heap[g + 2]? = some (.cells #[.bool false] 4 (0, 0)) := (Below.heap_setCell _ _ _ _ (by simp)).trans hr1V2
          have k2 : KeepsK (fun _ _ => True) (V3.setCell ⟨g + 1, 0, none⟩ (.string ⟨#[]⟩)) ((V3.setCell ⟨g + 1, 0, none⟩ (.string ⟨#[]⟩)).setCell ⟨g + 2, 0, none⟩ (.bool false)) := KeepsK.grownX (gr_set _ (g + 2) 0 _) hr1V3 trivial
          have k3 : KeepsK (fun _ _ => True) V _ := ((KeepsK.grown hg3).trans k1).trans k2
          have k4 : KeepsK (fun _ _ => True) Wb _ := ((KeepsK.grown hgV3).trans k1).trans k2
          refine ⟨k3.from _, k4.from _, ?_, ?_, ?_, hbad⟩
          · exact gr_ownF (gr_ownF hgw3 (gr_set V3 (g + 1) 0 _) (fun q e => by cases e; omega)) (gr_set _ (g + 2) 0 _) (fun q e => by cases e; omega)
          · exact (Below.heap_setCell _ _ _ _ (by simp)).trans (set_one hr0V _)
          · exact set_one hr1V3 _
        | true =>
          have hrow4 := hof3.alloc (.cells #[.string U] 9)
          have hfl : fs.length ≤ 1048576 := by
            have h1 := tx_len htf
            rw [List.length_take] at h1
            have h2 := (List.getElem?_eq_some_iff.1 hz).1
            omega
          have HNL := Lib.hid (fun (q : Nat) (x : Value) (hq : ([.string U] : List Value)[q]? = some x) => (World.news_of_block (cs := #[.string U]) (heap_alloc_new V3 (.cells #[.string U] 9)) q x hq : (V3.alloc (.cells #[.string U] 9)).cell? ((⟨V3.heap.size, 0, none⟩ : Addr).add q) = some x))
          have hV3m : bl + 1 ≤ V3.heap.size := by have := hgV3.size; omega
          gi_wp2_with
            (gi_at_builtin; refine wpListIn_append_own _ rfl _ _ 36 rfl (bl + 1) 9 i0s (.string ⟨#[]⟩) 1 16 Tryd.underlying36 hj0 hj1 hj2 hj3 rfl (by decide) (.slice Af fs.length cf) fs.length _ rfl hrow4 ⟨V3.heap.size, 0, none⟩ 1 1 [.string U] rfl rfl HNL.out (by simp [Value.oneCell']) (by simp only [maxLen]; omega) (by omega) (by simp; omega) ?_
             intro v8 V5 hown8 hgr8 _
             obtain ⟨A8, k8, c8, rfl⟩ := own_form hown8
             have h75 : V5.heap[bl + 1]? = some (.cells #[.slice Af fs.length cf] 36 (0, 0)) := (hgr8.block _ (by have := (Array.getElem?_eq_some_iff.1 h7).1; simp; omega) (own_notF hof3 h7 (by decide))).trans ((Below.heap_alloc _ _ _ (Array.getElem?_eq_some_iff.1 h7).1).trans h7)
             have u75 : V5.cell? ⟨bl + 1, 0, none⟩ = some (.slice Af fs.length cf) := cell_of_row V5 (bl + 1) 0 _ _ (0, 0) h75
             have u85 : V5.frozen? ⟨bl + 1, 0, none⟩ = false := by simp [World.frozen?, h75]
             have H75 := Lib.hid h75; have HO8 := Lib.hid hown8; have HG8 := Lib.hid hgr8; have HR4 := Lib.hid hrow4
             clear h75 hown8 hgr8 hrow4)
          obtain rfl := own_lenF HO8.out
          have q1 : KeepsK (XG (bl + 1)) V (V3.alloc (.cells #[.string U] 9)) := (KeepsK.grown hg3).trans (KeepsK.alloc _ _)
          have q2 : KeepsK (XG (bl + 1)) _ V5 := keeps_own HG8.out HR4.out (fun q hq => ⟨hq, .inl rfl⟩)
          have q3 : KeepsK (XG (bl + 1)) V5 (V5.setCell ⟨bl + 1, 0, none⟩ (.slice A8 (fs.length + 1) c8)) := KeepsK.grownX (gr_set V5 (bl + 1) 0 _) H75.out ⟨Nat.le_refl _, .inr rfl⟩
          have hul : U.data.toList = text (S.length + 1) u := by
            rw [HUE.out, ← HTXT.out]
            simp
          have hus4 : U.size ≤ 400 := by
            have h1 : U.size = U.data.toList.length := by rw [Array.length_toList]; rfl
            rw [h1, hul]
            exact of_decide_eq_true HOK.out.symm
          refine ⟨(q1.trans q2).trans q3, ?_, A8, c8, fs ++ [U], ?_, ?_, ?_, ?_⟩
          · exact gr_ownF (gr_ownF (hgV3.trans (World.grownBy_alloc V3 (.cells #[.string U] 9) none)) HG8.out (fun q hq => by have := (HR4.out.lt q hq).1; omega)) (gr_set V5 (bl + 1) 0 _) (fun q e => by cases e; omega)
          · rw [List.length_append]
            exact set_one H75.out _
          · rw [List.length_append, strW_snoc]
            exact own_keep HO8.out (fun q hq => Below.heap_setCell _ _ _ _ (fun e => own_notF HO8.out H75.out (by decide) (hq.trans (congrArg some e)).symm))
          · rw [List.length_append, List.length_singleton, ← hus, List.take_add_one, hu]
            unfold Tx at htf ⊢
            rw [List.map_append, htf, Option.toList_some, List.map_append]
            simp [hul]
          · intro x hx
            rcases List.mem_append.1 hx with h | h
            · exact hsf x h
            · simp only [List.mem_singleton] at h
              rw [h]
              exact hus4
    case do2 =>
      intro V hF
      obtain ⟨hgV, Af, cf, fs, hbf, hof, htf, hsf⟩ := hF
      have hgw := hgr.trans hgV
      have f1 : V.cell? ⟨bl + 1, 0, none⟩ = some (.slice Af fs.length cf) := cell_of_row V (bl + 1) 0 _ _ (0, 0) hbf
      have f2 : V.heap[bt]? = some (.cells #[.slice At ss.length ct] 36 (0, 0)) := (hgV.block _ (by omega) (by simp)).trans hbt'
      have f3 : V.cell? ⟨bt, 0, none⟩ = some (.slice At ss.length ct) := cell_of_row V bt 0 _ _ (0, 0) f2
      have f4 : V.frozen? ⟨bt, 0, none⟩ = false := by simp [World.frozen?, f2]
      have HF2 := Lib.hid f2
      gi_wp2
      have k1 : KeepsK (XF g) Wb (V.setCell ⟨bt, 0, none⟩ (.slice Af fs.length cf)) := (KeepsK.grown hgV).trans (KeepsK.grownX (gr_set V bt 0 _) HF2.out ⟨by omega, .inr (.inl rfl)⟩)
      have hb : ∀ q, q ≠ bt → q < bl + 1 → (V.setCell ⟨bt, 0, none⟩ (.slice Af fs.length cf)).heap[q]? = Wb.heap[q]? := fun q h1 h2 => (Below.heap_setCell _ _ _ _ h1).trans (hgV.block _ (by omega) (by simp))
      refine ⟨k1, ?_, ?_, ?_, ?_, Af, cf, fs, set_one HF2.out _, ?_, ?_, hsf⟩
      · exact gr_ownF hgw (gr_set V bt 0 _) (fun q e => by cases e; omega)
      · exact (hb _ (by omega) (by omega)).trans hbx
      · exact (hb _ (by omega) (by omega)).trans hr0'
      · exact (hb _ (by omega) (by omega)).trans hr1'
      · exact own_base (own_keep hof (fun q hq => Below.heap_setCell _ _ _ _ (fun e => own_notF hof HF2.out (by decide) (hq.trans (congrArg some e)).symm))) (by omega)
      · have e3 : LL.drop (LL.length - (pre ++ [((i : Int), Value.slice Bi k ci)]).length) = L :: S := by
          rw [← hSS]
          congr 1
          simp
          omega
        rw [e3]
        have h5 : us.take (spanK 0 L).length = us := by
          refine List.take_of_length_le ?_
          rw [spanK_len, hus]
          have h2 : (foldN (S.length + 1) (L :: S) D).length = L.length := cutBy_len L _
          omega
        rw [h5, hus] at htf
        exact htf
    case st2 =>
      intro pre2 V _ hF
      gi_wp2
      exact ⟨hF.from_, hF.bad⟩
  case done =>
    intro Dm V hDm hI hK
    obtain ⟨hgr, hbx, hr0', hr1', At, ct, ss, hbt', hown, htx, hsm⟩ := hI
    have hS : LL.drop (LL.length - (back vs).length) = LL := by rw [back_len, hvl]; simp
    rw [hS] at htx
    have htl := foldN_len LL.length 1 LL D rfl hf
    have hl1 := tx_len htx
    obtain ⟨t, ht⟩ : ∃ t : T LL.length, foldN LL.length LL D = [t] := List.length_eq_one_iff.1 htl
    obtain ⟨x, hx⟩ : ∃ x, ss = [x] := List.length_eq_one_iff.1 (by omega)
    subst hx
    rw [ht] at htx
    have hxt : x.data.toList = text LL.length t := by simpa [Tx] using htx
    have hx4 : (text LL.length t).length ≤ 400 := by
      have h1 : x.size = x.data.toList.length := by rw [Array.length_toList]; rfl
      have h2 := hsm x (by simp)
      rw [← hxt]
      omega
    obtain ⟨hstr, _, _⟩ := own_strs hown
    obtain ⟨bq, off, rfl, hbq, hcq⟩ := hstr (by simp)
    have f1 : V.cell? ⟨bt, 0, none⟩ = some (.slice (some ⟨bq, off, none⟩) 1 ct) := cell_of_row V bt 0 _ _ (0, 0) hbt'
    have f2 : V.cell? ⟨bq, off, none⟩ = some (.string x) := hcq 0 x rfl
    have u1 : V.cell? ⟨g + 1, 0, none⟩ = some (.string ⟨#[]⟩) := cell_of_row V (g + 1) 0 _ _ (0, 0) hr0'
    have u2 : V.cell? ⟨g + 2, 0, none⟩ = some (.bool false) := cell_of_row V (g + 2) 0 _ _ (0, 0) hr1'
    have u3 : V.frozen? ⟨g + 1, 0, none⟩ = false := by simp [World.frozen?, hr0']
    have u4 : V.frozen? ⟨g + 2, 0, none⟩ = false := by simp [World.frozen?, hr1']
    gi_wp2
    have r1 : (V.setCell ⟨g + 1, 0, none⟩ (.string x)).heap[g + 1]? = some (.cells #[.string x] 9 (0, 0)) := set_one hr0' _
    have r2 : ((V.setCell ⟨g + 1, 0, none⟩ (.string x)).setCell ⟨g + 2, 0, none⟩ (.bool true)).heap[g + 1]? = some (.cells #[.string x] 9 (0, 0)) := (Below.heap_setCell _ _ _ _ (by simp)).trans r1
    have r3 : ((V.setCell ⟨g + 1, 0, none⟩ (.string x)).setCell ⟨g + 2, 0, none⟩ (.bool true)).heap[g + 2]? = some (.cells #[.bool true] 4 (0, 0)) := set_one ((Below.heap_setCell _ _ _ _ (by simp)).trans hr1') _
    have hdk : ((V.setCell ⟨g + 1, 0, none⟩ (.string x)).setCell ⟨g + 2, 0, none⟩ (.bool true)).heap[Dm]? = some (.deferred (some [])) := (Below.heap_setCell _ _ _ _ (by simp; omega)).trans ((Below.heap_setCell _ _ _ _ (by simp; omega)).trans hK)
    have hgf : w.grownBy ((V.setCell ⟨g + 1, 0, none⟩ (.string x)).setCell ⟨g + 2, 0, none⟩ (.bool true)) none := gr_ownF (gr_ownF hgr (gr_set V (g + 1) 0 _) (fun q e => by cases e; omega)) (gr_set _ (g + 2) 0 _) (fun q e => by cases e; omega)
    generalize (V.setCell ⟨g + 1, 0, none⟩ (.string x)).setCell ⟨g + 2, 0, none⟩ (.bool true) = V3 at r2 r3 hdk hgf ⊢
    have m1 : (V3.putObj Dm (.deferred none)).cell? ⟨g + 1, 0, none⟩ = some (.string x) := cell_of_row _ (g + 1) 0 _ _ (0, 0) ((World.putObj_heap_other (by omega)).trans r2)
    have m2 : (V3.putObj Dm (.deferred none)).cell? ⟨g + 2, 0, none⟩ = some (.bool true) := cell_of_row _ (g + 2) 0 _ _ (0, 0) ((World.putObj_heap_other (by omega)).trans r3)
    refine ⟨by simp, .inl ⟨_, _, rfl, run_takeDeferred hdk, ?_⟩⟩
    refine ⟨.tuple #[.string x, .bool true], by simp [results, Tryd.results45, go_sem, m1, m2], gr_ownF hgf (grownBy_putObj' V3 Dm _) (fun q e => by cases e; omega), x, t, ht, ?_, ?_⟩
    · rw [decide_eq_true hx4]
    · rw [if_pos hx4]; exact hxt
  case stop =>
    intro Dm pre V hDm hpre hI hK
    obtain ⟨hgr, hr0', hr1', hbad⟩ := hI
    have htl := foldN_len LL.length 1 LL D rfl hf
    obtain ⟨t, ht⟩ : ∃ t : T LL.length, foldN LL.length LL D = [t] := List.length_eq_one_iff.1 htl
    have hx4 : ¬ (text LL.length t).length ≤ 400 := by
      unfold FoldBad at hbad
      rw [ht, txs_single] at hbad
      omega
    gi_wp2
    have m1 : (V.putObj Dm (.deferred none)).cell? ⟨g + 1, 0, none⟩ = some (.string ⟨#[]⟩) := cell_of_row _ (g + 1) 0 _ _ (0, 0) ((World.putObj_heap_other (by omega)).trans hr0')
    have m2 : (V.putObj Dm (.deferred none)).cell? ⟨g + 2, 0, none⟩ = some (.bool false) := cell_of_row _ (g + 2) 0 _ _ (0, 0) ((World.putObj_heap_other (by omega)).trans hr1')
    refine ⟨by simp, .inl ⟨_, _, rfl, run_takeDeferred hK, ?_⟩⟩
    refine ⟨.tuple #[.string ⟨#[]⟩, .bool false], by simp [results, Tryd.results45, go_sem, m1, m2], gr_ownF hgr (grownBy_putObj' V Dm _) (fun q e => by cases e; omega), ⟨#[]⟩, t, ht, ?_, ?_⟩
    · rw [decide_eq_false hx4]
    · rw [if_neg hx4]
end

/- FoldM -/
section
open Go.RowKit

/-- The folder's block: the layout's two slices, and the places. -/
def Fdr (w : World) (g : Nat) (x y : Value) (at_ : List Int) : Prop := w.heap[g]? = some (.cells (x :: y :: at_.map (Value.int .i64)).toArray 109 (0, 0))
section
variable {w w' : World} {g : Nat} {x y : Value} {at_ : List Int}
theorem Fdr.lt (h : Fdr w g x y at_) : g < w.heap.size := (Array.getElem?_eq_some_iff.1 h).1
theorem Fdr.c0 (h : Fdr w g x y at_) : w.cell? ⟨g, 0, none⟩ = some x := cell_of_row w g 0 _ _ (0, 0) h
theorem Fdr.c1 (h : Fdr w g x y at_) : w.cell? ⟨g, 1, none⟩ = some y := cell_of_row w g 1 _ _ (0, 0) h
theorem Fdr.plc (h : Fdr w g x y at_) {k : Nat} {z : Int} (hk : at_[k]? = some z) : w.cell? ⟨g, 2 + k, none⟩ = some (.int .i64 z) := by
  rw [cell_of_row w g (2 + k) _ _ (0, 0) h]
  have e : 2 + k = k + 1 + 1 := by omega
  rw [e]
  simp [hk]
theorem Fdr.f (h : Fdr w g x y at_) (i : Nat) : w.frozen? ⟨g, i, none⟩ = false := by
  unfold Fdr at h
  simp [World.frozen?, h]
theorem Fdr.set (h : Fdr w g x y at_) (k : Nat) (z : Int) : Fdr (w.setCell ⟨g, 2 + k, none⟩ (.int .i64 z)) g x y (at_.set k z) := by
  unfold Fdr at h ⊢
  have e : 2 + k = k + 1 + 1 := by omega
  simp [World.setCell, Array.getElem?_modify, h, e, List.map_set]
theorem Fdr.grown {row : Option Nat} (h : Fdr w g x y at_) (hg : w.grownBy w' row) (hne : some g ≠ row) : Fdr w' g x y at_ := (hg.block g h.lt hne).trans h
theorem Fdr.far (h : Fdr w g x y at_) {k i : Nat} (hk : g ≠ k) (u : Value) : Fdr (w.setCell ⟨k, i, none⟩ u) g x y at_ := (Below.heap_setCell _ _ _ _ hk).trans h
theorem Fdr.alloc (h : Fdr w g x y at_) (o : Obj) : Fdr (w.alloc o) g x y at_ := (Below.heap_alloc w o g h.lt).trans h
end

theorem gr_drewF (w : World) (row : Option Nat) : w.grownBy w.drew row := ⟨rfl, rfl, rfl, Nat.le_refl _, fun _ _ _ => rfl⟩

/-- How next ends. -/
def NextPost (LL : List (List Int)) (D : List Int) (d k j g : Nat) (x y : Value) (at_ : List Int) (w : World) (e : Ending) (w' : World) : Prop :=
  w.grownBy w' (some g) ∧ ∃ m sv b t, e = .returned (.agg #[.int .i64 m, sv]) ∧ (∃ A k c, sv = .slice A k c) ∧ (foldN d (LL.drop k) D)[j]? = some t ∧ SNd w' (fun b => w.heap.size ≤ b) d t (m, sv) ∧ Fdr w' g x y b ∧ Step LL k j at_ b

/-- next on a level, d levels above the numbers: of a layout that lies in an older world, wherever the places stand. -/
def NextAny (w0 : World) (g c e d : Nat) (A B : Option Addr) (LL : List (List Int)) (D : List Int) : Prop :=
  ∀ (k j : Nat) (at_ : List Int) (w : World), k + d = LL.length → w0.grownBy w none → Fdr w g (.slice A LL.length c) (.slice B D.length e) at_ → at_.length = 4 → at_[k]? = some (j : Int) → (∃ q, Fits q (LL.drop k) D ∧ j < q) → Cons LL k at_ →
    Calls Tryd.prog 81 #[.pointer (some ⟨g, 0, none⟩), .int .i64 (k : Int)] w (NextPost LL D d k j g (.slice A LL.length c) (.slice B D.length e) at_ w)

set_option maxRecDepth 100000 in
set_option maxHeartbeats 2000000 in
theorem next0 (g k j m c d : Nat) (A B : Option Addr) (LL : List (List Int)) (D at_ : List Int) (w : World) (hn : LL.length = k) (hm : D.length = m) (h : Fdr w g (.slice A k c) (.slice B m d) at_) (hI : Ints w B D) (hn3 : k ≤ 3) (ha : at_.length = 4) (hj : at_[k]? = some (j : Int)) (hjm : j < m) (hm1 : m ≤ 1048576) (hok : okN 10006 D = true) (hgb : ∀ b off, B = some ⟨b, off, none⟩ → b ≠ g) :
    Calls Tryd.prog 81 #[.pointer (some ⟨g, 0, none⟩), .int .i64 (k : Int)] w (NextPost LL D 0 k j g (.slice A k c) (.slice B m d) at_ w) := by
  have HF := Lib.hid h
  have hgw := h.lt
  have HJ := Lib.hid hj
  have HN := Lib.hid hn
  have HM := Lib.hid hm
  have HB := Lib.hid (begun w)
  have HF3 := Lib.hid ((HF.out.alloc (.cells #[.int .i64 0, .slice none 0 0] 68)).alloc (.cells #[] 68) |>.alloc (.cells #[.int .i64 0, .slice (some ⟨w.heap.size + 1, 0, none⟩) 0 0] 68))
  clear h hj hn hm
  have hkb : (k : Int) < 4 := by omega
  go_enter Tryd.func81, Tryd.ntmps81
  have cp := HF3.out.plc HJ.out
  have c0 := HF3.out.c0
  have c1 := HF3.out.c1
  have fp := HF3.out.f (2 + k)
  go_wp2_with fail
  generalize ((w.alloc (.cells #[.int .i64 0, .slice none 0 0] 68)).alloc (.cells #[] 68)).alloc (.cells #[.int .i64 0, .slice (some ⟨w.heap.size + 1, 0, none⟩) 0 0] 68) = w3 at HB HF3 cp c0 c1 fp ⊢
  go_region
  have hF5 : Fdr (w3.setCell ⟨g, 2 + k, none⟩ (.int .i64 ((j : Int) + 1))).drew g (.slice A k c) (.slice B m d) (at_.set k ((j : Int) + 1)) := HF3.out.set k _
  have hR5 : Two (w3.setCell ⟨g, 2 + k, none⟩ (.int .i64 ((j : Int) + 1))).drew w.heap.size (.int .i64 0) (.slice none 0 0) := HB.out.res.far (by omega) _
  have hO5 : Two (w3.setCell ⟨g, 2 + k, none⟩ (.int .i64 ((j : Int) + 1))).drew (w.heap.size + 1 + 1) (.int .i64 0) (.slice (some ⟨w.heap.size + 1, 0, none⟩) 0 0) := HB.out.out.far (by omega) _
  have hG5 : w3.grownBy (w3.setCell ⟨g, 2 + k, none⟩ (.int .i64 ((j : Int) + 1))).drew (some g) := (gr_set w3 g (2 + k) (.int .i64 ((j : Int) + 1))).trans (gr_drewF _ _)
  generalize (w3.setCell ⟨g, 2 + k, none⟩ (.int .i64 ((j : Int) + 1))).drew = w5 at hF5 hR5 hO5 hG5 ⊢
  have HF5 := Lib.hid hF5
  have HR5 := Lib.hid hR5
  have HO5 := Lib.hid hO5
  have HG5 := Lib.hid hG5
  have hG3 : w.grownBy w5 (some g) := gr_some HB.out.gr hG5
  obtain ⟨b, off, rfl, hb, hcc⟩ := hI (by rw [HM.out]; omega)
  obtain ⟨z, hz⟩ : ∃ z, D[j]? = some z := ⟨_, List.getElem?_eq_getElem (by have := HM.out; omega)⟩
  have hzz := okN_at hz hok
  have hcell : w5.cell? ⟨b, off + j, none⟩ = some (.int .i64 z) := hG3.cell (hcc j z hz) (by have := hgb b off rfl; simpa using this)
  have HZ := Lib.hid hz
  have HG3 := Lib.hid hG3
  have o0 := hO5.c0
  have o1 := hO5.c1
  have r0 := hR5.c0
  have r1 := hR5.c1
  have f0 := hR5.f 0
  have f1 := hR5.f 1
  have f2 := hO5.f 0
  have d0 := hF5.c0
  have d1 := hF5.c1
  clear hF5 hR5 hO5 hG5 hG3 hz hcc cp c0 c1 fp
  go_wp2_with fail
  refine bodyPost_ret (v := .agg #[.int .i64 z, .slice (some ⟨w.heap.size + 1, 0, none⟩) 0 0]) (by simp [results, Tryd.results81, go_sem, r0, r1]) rfl ?_
  refine ⟨gr_set_row (gr_set_row (gr_set_row HG3.out (by omega) _) (Nat.le_refl _) _) (Nat.le_refl _) _, z, _, _, (z.toNat : Nat), rfl, ⟨_, _, _, rfl⟩, ?_, ⟨?_, ?_, _, _, _, rfl⟩, ((HF5.out.far (by omega) _).far (by omega) _).far (by omega) _, ?_, ?_, ?_, ?_⟩
  · show (D.map Int.toNat : List Nat)[j]? = some z.toNat
    rw [List.getElem?_map, HZ.out]
    rfl
  · show z = ((z.toNat : Nat) : Int)
    omega
  · show z.toNat < 10007
    omega
  · exact List.length_set
  · intro i hi
    exact List.getElem?_set_ne (by omega)
  · rw [List.getElem?_set_self (by omega)]
    simp
  · intro i L hi hL
    have := (List.getElem?_eq_some_iff.1 hL).1
    have := HN.out
    omega

theorem next_zero {w0 : World} {g c e : Nat} {A B : Option Addr} {LL : List (List Int)} {D : List Int} (hI : Ints w0 B D) (hg : w0.heap.size ≤ g) (hn3 : LL.length ≤ 3) (hm1 : D.length ≤ 1048576) : NextAny w0 g c e 0 A B LL D := fun k j at_ w hk hw hf ha hj ⟨q, hq, hjq⟩ _ => by
  obtain rfl : k = LL.length := by omega
  rw [List.drop_length] at hq
  have h1 := hq.1
  have hb : ∀ b off, B = some ⟨b, off, none⟩ → b ≠ g := fun b off hb => by
    obtain ⟨b', off', h2, h3, _⟩ := hI (by omega)
    rw [h2] at hb
    cases hb
    omega
  exact next0 g LL.length j D.length c e A B LL D at_ w rfl rfl hf (hI.grown hw (by simp)) hn3 ha hj (by omega) hm1 hq.2 hb
end

/- FoldL -/
section
open Go.RowKit

/-- What holds of the memory while next gathers parts. -/
structure FLf (g : Nat) (w wr : World) (sv : Value) (xs : List (Int × Value)) : Prop where
  gr : w.grownBy wr (some g)
  size : w.heap.size + 3 ≤ wr.heap.size
  res : Two wr w.heap.size (.int .i64 0) (.slice none 0 0)
  out : Two wr (w.heap.size + 1 + 1) (.int .i64 0) sv
  own : wr.ownsRow w.heap.size 68 2 sv xs.length (flat2 xs)
  ne0 : sv.ownBlock ≠ some w.heap.size
  ne2 : sv.ownBlock ≠ some (w.heap.size + 1 + 1)

section
variable {d g : Nat} {w wr : World} {sv : Value} {ts : List (T d)} {xs : List (Int × Value)}

theorem FLf.drewN (h : FLf g w wr sv xs) (n : Nat) : FLf g w (wr.drewN n) sv xs :=
  ⟨h.gr.trans (gr_drewN _ _ _), h.size, h.res.drewN n, h.out.drewN n, own_keep h.own (fun _ _ => rfl), h.ne0, h.ne2⟩

theorem FLf.step (h : FLf g w wr sv xs) {m : Int} {v : Value} {we w2 : World} {gg cap : Nat} {o : Obj} (hge : wr.grownBy we (some g))
    (hown : w2.ownsRow w.heap.size 68 2 (.slice (some ⟨gg, 0, none⟩) (xs.length + 1) cap) (xs.length + 1) (flat2 xs ++ [.int .i64 m, v])) (hg2 : (we.alloc o).grownBy w2 sv.ownBlock)
    (hat : sv.ownBlock = some gg ∨ gg = we.heap.size + 1) (hgw : g < w.heap.size) :
    FLf g w (w2.setCell ⟨w.heap.size + 1 + 1, 1, none⟩ (.slice (some ⟨gg, 0, none⟩) (xs.length + 1) cap)) (.slice (some ⟨gg, 0, none⟩) (xs.length + 1) cap) (xs ++ [(m, v)]) := by
  have hsz : (we.alloc o).heap.size = we.heap.size + 1 := by simp
  have hsw := h.gr.size
  have hse := hge.size
  have hs2 := hg2.size
  have hs3 := h.size
  have hlt := h.own.lt
  have hga : we.grownBy (we.alloc o) (some g) := World.grownBy_alloc _ _ _
  have hgg : gg ≠ w.heap.size ∧ gg ≠ w.heap.size + 1 + 1 ∧ w.heap.size ≤ gg := by
    rcases hat with e | e
    · exact ⟨fun e2 => h.ne0 (by rw [e, e2]), fun e2 => h.ne2 (by rw [e, e2]), (hlt gg e).1⟩
    · exact ⟨by omega, by omega, by omega⟩
  have h1 := h.gr.trans (hge.trans hga)
  have hg3 : w.grownBy w2 (some g) := ⟨hg2.os.trans h1.os, hg2.tape.trans h1.tape, hg2.output.trans h1.output, Nat.le_trans h1.size hg2.size, fun k hk hne =>
    (hg2.block k (Nat.lt_of_lt_of_le hk h1.size) (fun e => by have := (hlt k e.symm).1; omega)).trans (h1.block k hk hne)⟩
  refine ⟨gr_set_row hg3 (by omega) _, by have := (gr_set w2 (w.heap.size + 1 + 1) 1 (.slice (some ⟨gg, 0, none⟩) (xs.length + 1) cap)).size; omega, ?_, ?_, ?_, ?_, ?_⟩
  · exact (((h.res.grown hge (by simp; omega)).alloc o).grown hg2 (fun e => h.ne0 e.symm)).far (by omega) _
  · exact (((h.out.grown hge (by simp; omega)).alloc o).grown hg2 (fun e => h.ne2 e.symm)).set1 _
  · rw [flat2_snoc, List.length_append]
    exact own_keep hown (fun k hk => Below.heap_setCell _ _ _ _ (by simp [Value.ownBlock] at hk; subst hk; exact hgg.2.1))
  · simpa [Value.ownBlock] using hgg.1
  · simpa [Value.ownBlock] using hgg.2.1

theorem FLf.step_all (h : FLf g w wr sv xs) (hall : All2 (SNd wr (fun b => w.heap.size + 3 ≤ b ∧ sv.ownBlock ≠ some b) d) ts xs) {m : Int} {v : Value} {t : T d} {we w2 : World} {gg cap : Nat} {o : Obj}
    (hge : wr.grownBy we (some g)) (hnd : SNd we (fun b => wr.heap.size ≤ b) d t (m, v)) (hg2 : (we.alloc o).grownBy w2 sv.ownBlock)
    (hat : sv.ownBlock = some gg ∨ gg = we.heap.size + 1) (hgw : g < w.heap.size) :
    All2 (SNd (w2.setCell ⟨w.heap.size + 1 + 1, 1, none⟩ (.slice (some ⟨gg, 0, none⟩) (xs.length + 1) cap)) (fun b => w.heap.size + 3 ≤ b ∧ (Value.slice (some ⟨gg, 0, none⟩) (xs.length + 1) cap).ownBlock ≠ some b) d) (ts ++ [t]) (xs ++ [(m, v)]) := by
  have hsz : (we.alloc o).heap.size = we.heap.size + 1 := by simp
  have hsw := h.gr.size
  have hse := hge.size
  have hs3 := h.size
  have hlt := h.own.lt
  have hga : we.grownBy (we.alloc o) (some g) := World.grownBy_alloc _ _ _
  have hne : ∀ b, sv.ownBlock ≠ some b → b < we.heap.size → (Value.slice (some ⟨gg, 0, none⟩) (xs.length + 1) cap).ownBlock ≠ some b := by
    intro b hb hb2 e
    simp only [Value.ownBlock, Option.some.injEq] at e
    rcases hat with e2 | e2
    · exact hb (e2.trans (by rw [e]))
    · omega
  have hset : ∀ b, w.heap.size + 3 ≤ b → (w2.setCell ⟨w.heap.size + 1 + 1, 1, none⟩ (.slice (some ⟨gg, 0, none⟩) (xs.length + 1) cap)).heap[b]? = w2.heap[b]? := fun b hb => Below.heap_setCell _ _ _ _ (by show b ≠ w.heap.size + 1 + 1; omega)
  refine All2.snoc ?_ ts xs ?_
  · refine SNd.keep ?_ ?_ d t (m, v) hnd
    · intro b hb hb2
      rw [hset b (by omega), hg2.block b (by omega) (fun e => by have := (hlt b e.symm).2; omega), hga.block b (by omega) (by simp; omega)]
    · intro b hb hb2
      exact ⟨by omega, hne b (fun e => by have := (hlt b e).2; omega) hb2⟩
  · refine All2.mono (SNd.keep ?_ ?_ d) ts xs hall
    · rintro b ⟨hb1, hb2⟩ hb
      rw [hset b hb1, hg2.block b (by omega) (fun e => hb2 e.symm), hga.block b (by omega) (by simp; omega), hge.block b hb (by simp; omega)]
    · rintro b ⟨hb1, hb2⟩ hb
      exact ⟨hb1, hne b hb2 (by omega)⟩
end

/-- What holds at a round's head: q parts of the array are there. -/
structure FInv (LL : List (List Int)) (g : Nat) (x y : Value) (d k j s q : Nat) (at_ : List Int) (ts : List (T d)) (w wr : World) (sv : Value) (xs : List (Int × Value)) (b : List Int) : Prop where
  lf : FLf g w wr sv xs
  len : xs.length = q
  all : All2 (SNd wr (fun b => w.heap.size + 3 ≤ b ∧ sv.ownBlock ≠ some b) d) (ts.take q) xs
  fd : Fdr wr g x y b
  bl : b.length = 4
  low : ∀ i, i < k → b[i]? = at_[i]?
  here : b[k]? = some ((j + 1 : Nat) : Int)
  next : b[k + 1]? = some ((s + q : Nat) : Int)
  con : Cons LL (k + 1) b

section
variable {LL : List (List Int)} {D : List Int} {g : Nat} {x y : Value} {d k j s q : Nat} {at_ b : List Int} {ts : List (T d)} {w wr : World} {sv : Value} {xs : List (Int × Value)}

theorem finv_start {w3 w5 : World} {L : List Int} (hb : Begun w w3) (hG : w3.grownBy w5 (some g)) (hR : Two w5 w.heap.size (.int .i64 0) (.slice none 0 0)) (hO : Two w5 (w.heap.size + 1 + 1) (.int .i64 0) (.slice (some ⟨w.heap.size + 1, 0, none⟩) 0 0)) (hF : Fdr w5 g x y (at_.set k ((j : Int) + 1))) (hgw : g < w.heap.size)
    (ha : at_.length = 4) (hk : k < 3) (hc : Cons LL k at_) (hL : LL[k]? = some L) (hj : at_[k]? = some (j : Int)) (hs : (s : Int) = sumI (L.take j)) : FInv LL g x y d k j s 0 at_ ts w w5 (.slice (some ⟨w.heap.size + 1, 0, none⟩) 0 0) [] (at_.set k ((j : Int) + 1)) := by
  have hn1 : at_[k + 1]? = some (s : Int) := by
    obtain ⟨j', h1, h2⟩ := hc k L (Nat.le_refl _) hL
    rw [hj] at h1
    simp only [Option.some.injEq, Int.natCast_inj] at h1
    subst h1
    rw [h2, hs]
  refine ⟨⟨gr_some hb.gr hG, by have := hb.size; have := hG.size; omega, hR, hO, own_keep hb.own (fun k' hk' => ?_), by simp [Value.ownBlock], by simp [Value.ownBlock]⟩, rfl, ?_, hF, by rw [List.length_set]; exact ha, fun i hi => List.getElem?_set_ne (by omega), ?_, ?_, hc.up.set (by omega) _⟩
  · have h1 := hb.own.lt k' hk'
    exact hG.block k' h1.2 (by simp; omega)
  · rw [List.take_zero]
    trivial
  · rw [List.getElem?_set_self (by omega)]
    simp
  · rw [List.getElem?_set_ne (by omega), hn1]
    simp

theorem finv_step (h : FInv LL g x y d k j s q at_ ts w wr sv xs b) {m : Int} {v : Value} {t : T d} {we w2 : World} {gg cap : Nat} {o : Obj} {b2 : List Int} (ht : ts[q]? = some t)
    (hge : wr.grownBy we (some g)) (hnd : SNd we (fun b => wr.heap.size ≤ b) d t (m, v)) (hfd : Fdr we g x y b2) (hst : Step LL (k + 1) (s + q) b b2)
    (hown : w2.ownsRow w.heap.size 68 2 (.slice (some ⟨gg, 0, none⟩) (xs.length + 1) cap) (xs.length + 1) (flat2 xs ++ [.int .i64 m, v])) (hg2 : (we.alloc o).grownBy w2 sv.ownBlock)
    (hat : sv.ownBlock = some gg ∨ gg = we.heap.size + 1) (hgw : g < w.heap.size) :
    FInv LL g x y d k j s (q + 1) at_ ts w (w2.setCell ⟨w.heap.size + 1 + 1, 1, none⟩ (.slice (some ⟨gg, 0, none⟩) (xs.length + 1) cap)) (.slice (some ⟨gg, 0, none⟩) (xs.length + 1) cap) (xs ++ [(m, v)]) b2 := by
  obtain ⟨h1, h2, h3, h4⟩ := hst
  refine ⟨h.lf.step hge hown hg2 hat hgw, by rw [List.length_append, h.len]; rfl, ?_, ?_, h1.trans h.bl, fun i hi => (h2 i (by omega)).trans (h.low i hi), (h2 k (by omega)).trans h.here, h3, h4⟩
  · rw [List.take_add_one, ht]
    exact h.lf.step_all h.all hge hnd hg2 hat hgw
  · exact ((hfd.alloc o).grown hg2 (fun e => by have := (h.lf.own.lt g e.symm).1; omega)).far (by omega) _

theorem finv_end {L : List Int} {z : Int} (h : FInv LL g x y d k j s q at_ ts w wr sv xs b) (hq : (q : Int) = z) (hL : LL[k]? = some L) (hz : L[j]? = some z) (hok : okN 400 L = true) (hs : (s : Int) = sumI (L.take j)) (hts : ts = ((foldN d (LL.drop (k + 1)) D).drop (sumI (L.take j)).toNat).take z.toNat) (ha : at_.length = 4) (hgw : g < w.heap.size) :
    NextPost LL D (d + 1) k j g x y at_ w (.returned (.agg #[.int .i64 0, sv])) (laidOut' w wr sv) := by
  have hl := h.lf.own.lt
  have hrow : ∀ k, sv.ownBlock = some k → w.heap.size < k := fun k hk => by
    have := (hl k hk).1
    have : k ≠ w.heap.size := fun e => h.lf.ne0 (by rw [hk, e])
    omega
  have hat : (foldN (d + 1) (LL.drop k) D)[j]? = some ts := by
    rw [drop_at hL, hts]
    exact foldN_at hz hok
  have htq : ts.take q = ts := List.take_of_length_le (by rw [hts, List.length_take]; omega)
  have hall := h.all
  rw [htq] at hall
  refine ⟨gr_set_row (gr_set_row h.lf.gr (Nat.le_refl _) _) (Nat.le_refl _) _, 0, sv, b, ts, rfl, own_form h.lf.own, hat, ⟨xs, own_base (own_keep h.lf.own (fun k hk => laid_heap w wr sv k (by have := hrow k hk; omega))) (Nat.zero_le _), fun k hk => (hl k hk).1, ?_⟩, (h.fd.far (by omega) _).far (by omega) _, h.bl.trans ha.symm, h.low, h.here, ?_⟩
  · exact All2.mono (SNd.keep (fun b hb hb2 => laid_heap w wr sv b (by omega)) (fun b hb _ => by omega) d) ts xs hall
  · refine h.con.down hL h.here ?_
    rw [h.next, sumI_step hz]
    congr 1
    omega
end

theorem gr_base {w0 w w' : World} {g : Nat} (h : w0.grownBy w none) (h2 : w.grownBy w' (some g)) (hg : w0.heap.size ≤ g) : w0.grownBy w' none :=
  ⟨h2.os.trans h.os, h2.tape.trans h.tape, h2.output.trans h.output, Nat.le_trans h.size h2.size, fun k hk _ => (h2.block k (Nat.lt_of_lt_of_le hk h.size) (by simp; omega)).trans (h.block k hk (by simp))⟩
end

/- FoldS -/
section
open Go.RowKit

set_option maxRecDepth 100000 in
set_option maxHeartbeats 1000000 in
theorem next_succ {w0 : World} {g c e d : Nat} {A B : Option Addr} {LL : List (List Int)} {D : List Int} (hA : Rws w0 A LL) (hg0 : w0.heap.size ≤ g) (hn3 : LL.length ≤ 3) (hsz : ∀ M ∈ LL, M.length ≤ 1048576) (ih : NextAny w0 g c e d A B LL D) : NextAny w0 g c e (d + 1) A B LL D := fun k j at_ w hk hw hf ha hj ⟨cN, hfit, hjc⟩ hcon => by
  obtain ⟨i0, hi0, hz0, hz1, hz2⟩ := info_parts infoN
  obtain ⟨L, hL⟩ : ∃ L, LL[k]? = some L := ⟨_, List.getElem?_eq_getElem (by omega)⟩
  rw [drop_at hL] at hfit
  obtain ⟨hlen, hok, hfit2⟩ := hfit
  obtain ⟨z, hz⟩ : ∃ z, L[j]? = some z := ⟨_, List.getElem?_eq_getElem (by omega)⟩
  have hzz := okN_at hz hok
  obtain ⟨s, hs⟩ : ∃ s : Nat, (s : Int) = sumI (L.take j) := ⟨(sumI (L.take j)).toNat, by have := (sumI_bound (okN_take hok j)).1; omega⟩
  obtain ⟨ts, hts⟩ : ∃ ts : List (T d), ts = ((foldN d (LL.drop (k + 1)) D).drop (sumI (L.take j)).toNat).take z.toNat := ⟨_, rfl⟩
  have hall : (foldN d (LL.drop (k + 1)) D).length = (sumI L).toNat := foldN_len d _ _ _ (by rw [List.length_drop]; omega) hfit2
  have hsum : sumI (L.take j) + z ≤ sumI L := by
    have h1 := sumI_step hz
    have h3 := sumI_bound (okN_drop hok (j + 1))
    have e : sumI L = sumI (L.take (j + 1)) + sumI (L.drop (j + 1)) := by rw [← sumI_append, List.take_append_drop]
    omega
  have hpart : ∀ q : Nat, (q : Int) < z → ∃ t, (foldN d (LL.drop (k + 1)) D)[s + q]? = some t ∧ ts[q]? = some t ∧ s + q < (sumI L).toNat := fun q hq => by
    have hlt : s + q < (foldN d (LL.drop (k + 1)) D).length := by omega
    refine ⟨_, List.getElem?_eq_getElem hlt, ?_, by omega⟩
    rw [hts, List.getElem?_take, if_pos (by omega), List.getElem?_drop, ← hs, Int.toNat_natCast]
    exact List.getElem?_eq_getElem hlt
  obtain ⟨n, hn⟩ : ∃ n, LL.length = n := ⟨_, rfl⟩
  obtain ⟨m, hm⟩ : ∃ m, D.length = m := ⟨_, rfl⟩
  have HI := Lib.hid ih
  have HP := Lib.hid hpart
  have HF := Lib.hid hf
  have hgw := hf.lt
  have HJ := Lib.hid hj
  have HN := Lib.hid hn
  have HB := Lib.hid (begun w)
  have HEND := Lib.hid (fun (q : Nat) (wr : World) (sv : Value) (xs : List (Int × Value)) (b : List Int) (h : FInv LL g (.slice A LL.length c) (.slice B D.length e) d k j s q at_ ts w wr sv xs b) (hq : (q : Int) = z) => finv_end (D := D) h hq hL hz hok hs hts ha hgw)
  have HST := Lib.hid (fun (w3 w5 : World) (hb : Begun w w3) (hG : w3.grownBy w5 (some g)) (hR : Two w5 w.heap.size (.int .i64 0) (.slice none 0 0)) (hO : Two w5 (w.heap.size + 1 + 1) (.int .i64 0) (.slice (some ⟨w.heap.size + 1, 0, none⟩) 0 0)) (hF : Fdr w5 g (.slice A LL.length c) (.slice B D.length e) (at_.set k ((j : Int) + 1))) => finv_start (d := d) (ts := ts) hb hG hR hO hF hgw ha (by omega) hcon hL hj hs)
  have HW := Lib.hid hw
  have HFIT := Lib.hid hfit2
  have HZ := Lib.hid hz
  obtain ⟨b0, off, rfl, hbl, hcc⟩ := hA (by omega)
  obtain ⟨B2, c2, hc0, hlc, hint⟩ := hcc k L hL
  obtain ⟨b2, off2, rfl, hbl2, hcc2⟩ := hint (by omega)
  have HC0 := Lib.hid hc0
  have HC2 := Lib.hid (hcc2 j z hz)
  have hkn : k < n := by omega
  have hn4 : n ≤ 3 := by omega
  have hk1 : k + 1 + d = n := by omega
  obtain ⟨l, hl⟩ : ∃ l, L.length = l := ⟨_, rfl⟩
  have hjl : j < l := by omega
  have hl1 : l ≤ 1048576 := by rw [← hl]; exact hsz L (List.mem_of_getElem? hL)
  rw [hl] at HC0 hlc
  rw [hn, hm] at HEND HST HF ⊢
  have HF3 := Lib.hid ((HF.out.alloc (.cells #[.int .i64 0, .slice none 0 0] 68)).alloc (.cells #[] 68) |>.alloc (.cells #[.int .i64 0, .slice (some ⟨w.heap.size + 1, 0, none⟩) 0 0] 68))
  have HMM := Lib.hid hm
  clear hA hL hz hcc hcc2 hc0 hint hlen hok hfit2 hs hts hall hsum hpart hj hcon hf hw hn hm hl ih hk hsz hn3 hjc ha
  have hkb : (k : Int) < 4 := by omega
  have hne : ((k : Int) == (n : Int)) = false := by rw [beq_eq_false_iff_ne]; omega
  go_enter Tryd.func81, Tryd.ntmps81
  have cp := HF3.out.plc HJ.out
  have c0 := HF3.out.c0
  have c1 := HF3.out.c1
  have fp := HF3.out.f (2 + k)
  go_wp2_with fail
  generalize ((w.alloc (.cells #[.int .i64 0, .slice none 0 0] 68)).alloc (.cells #[] 68)).alloc (.cells #[.int .i64 0, .slice (some ⟨w.heap.size + 1, 0, none⟩) 0 0] 68) = w3 at HB HF3 cp c0 c1 fp ⊢
  go_region
  have hF5 := HF3.out.set k ((j : Int) + 1)
  have hR5 : Two (w3.setCell ⟨g, 2 + k, none⟩ (.int .i64 ((j : Int) + 1))).drew w.heap.size (.int .i64 0) (.slice none 0 0) := HB.out.res.far (by omega) _
  have hO5 : Two (w3.setCell ⟨g, 2 + k, none⟩ (.int .i64 ((j : Int) + 1))).drew (w.heap.size + 1 + 1) (.int .i64 0) (.slice (some ⟨w.heap.size + 1, 0, none⟩) 0 0) := HB.out.out.far (by omega) _
  have hG5 : w3.grownBy (w3.setCell ⟨g, 2 + k, none⟩ (.int .i64 ((j : Int) + 1))).drew (some g) := (gr_set w3 g (2 + k) (.int .i64 ((j : Int) + 1))).trans (gr_drewF _ _)
  have HS5 := Lib.hid (HST.out _ _ HB.out hG5 hR5 hO5 hF5)
  generalize (w3.setCell ⟨g, 2 + k, none⟩ (.int .i64 ((j : Int) + 1))).drew = w5 at hF5 hR5 hO5 hG5 HS5 ⊢
  have hW5 : w0.grownBy w5 none := gr_base (HW.out.trans HB.out.gr) hG5 hg0
  have d0 := HS5.out.fd.c0
  have hcell := hW5.cell HC0.out (by simp)
  have hcell2 := hW5.cell HC2.out (by simp)
  clear hF5 hR5 hO5 hG5 cp c0 c1 fp HB HF3 HST
  go_wp2_with fail
  go_loopw [54] (fun i wr => ∃ (q : Nat) (sv : Value) (xs : List (Int × Value)) (b : List Int), (q : Int) ≤ z ∧ i = .int .i64 q ∧ Hid (FInv LL g (.slice (some ⟨b0, off, none⟩) n c) (.slice B m e) d k j s q at_ ts w wr sv xs b)) (fun i _ => z.toNat - (intOf i).toNat)
  case atStart => exact ⟨0, _, _, _, by omega, rfl, HS5⟩
  case round =>
    clear HS5 d0 hcell hcell2 hW5
    obtain ⟨q, sv, xs, b, hq, rfl, hinv⟩ := hrel
    obtain ⟨A1, k1, c1, rfl⟩ := own_form hinv.out.lf.own
    have hlen := hinv.out.len
    have h3 := hinv.out.lf.size
    by_cases hlt : (q : Int) < z
    · obtain ⟨t, ht1, ht2, hsq⟩ := HP.out q hlt
      have HT1 := Lib.hid ht1
      have HT2 := Lib.hid ht2
      have HC := Lib.hid (HI.out (k + 1) (s + q) b wr.drew (by rw [HN.out]; omega) ((gr_base HW.out hinv.out.lf.gr hg0).trans (gr_drewF _ _)) (by rw [HN.out, HMM.out]; exact hinv.out.fd) hinv.out.bl hinv.out.next ⟨_, HFIT.out, hsq⟩ hinv.out.con)
      simp only [Int.natCast_add, Int.natCast_one] at HC
      rw [HN.out, HMM.out] at HC
      have v1 := hinv.out.lf.out.c1
      have wn : IntKind.i64.wrap ((k : Int) + 1) = (k : Int) + 1 := IntWalk.i64_in _ (by omega)
      clear ht1 ht2 hsq
      go_wp2_with fail
      go_region_law (first
        | (refine step_append_lies _ (by rfl) _ _ _ (by rfl) w.heap.size 68 i0 _ 2 32 Tryd.underlying66 hi0 hz0 hz1 hz2 rfl (by omega) _ xs.length (flat2 xs) (by rfl) own8 ⟨w9.heap.size, 0, none⟩ 1 1 [.int .i64 m9, .slice A9 k9 c9] (by rfl) (by rfl) (World.news_of_block (cs := #[.int .i64 m9, .slice A9 k9 c9]) (t := 68) (fr := (0, 0)) (heap_alloc_new w9 _)) (by simp [Value.oneCell']) (by omega) (by simp [maxLen]; omega) (by omega) (by simp; omega) (w9.heap.size + 1) (by simp) ?_
           intro gx cax w10 hown10 hg10 hat10 hlt10
           have t10 := ((hinv.out.lf.out.grown HG9.out (by simp; omega)).alloc (.cells #[.int .i64 m9, .slice A9 k9 c9] 68)).grown hg10 (fun e => hinv.out.lf.ne2 e.symm)
           have o10 := t10.c1
           have f10 := t10.f 1
           have HO10 := Lib.hid hown10
           have HG10 := Lib.hid hg10
           have HA10 := Lib.hid hat10
           clear hown10 hg10 hat10 hlt10 t10)
        | (go_simp
           go_at_call 81
           refine HC.out.mono ?_
           rintro e w9 ⟨hg9, m9, v9, b9, t9, rfl, ⟨A9, k9, c9, rfl⟩, ht9, hnd9, hfd9, hst9⟩
           have HG9 := Lib.hid ((gr_drewF wr _).trans hg9)
           have hb9 := HG9.out.size
           have o9 := (hinv.out.lf.out.grown HG9.out (by simp; omega)).c1
           have o9b := ((hinv.out.lf.out.grown HG9.out (by simp; omega)).alloc (.cells #[.int .i64 m9, .slice A9 k9 c9] 68)).c1
           have own8 := (own_keep hinv.out.lf.own (fun k' hk' => HG9.out.block k' (hinv.out.lf.own.lt k' hk').2 (fun e => by have := (hinv.out.lf.own.lt k' hk').1; simp at e; omega))).alloc (.cells #[.int .i64 m9, .slice A9 k9 c9] 68)
           have HT9 := Lib.hid ht9
           have HN9 := Lib.hid hnd9
           have HF9 := Lib.hid hfd9
           have HS9 := Lib.hid hst9
           clear hg9 ht9 hnd9 hfd9 hst9))
      all_goals
        obtain rfl : t = t9 := Option.some.inj (HT1.out.symm.trans HT9.out)
        have hS := finv_step hinv.out HT2.out HG9.out HN9.out HF9.out HS9.out HO10.out HG10.out HA10.out hgw
        rw [hlen] at hS
        have HS := Lib.hid hS
        clear hS HO10 HG10 HA10 v1 o9 o9b o10 f10 own8 HT9 HN9 HF9 HS9
        go_wp2_with fail
        go_roundw
        case rel => exact ⟨q + 1, _, _, _, by omega, by go_num, HS⟩
        case measure => simp [intOf]; omega
    · have hqz : (q : Int) = z := by omega
      have HE2 := Lib.hid (HEND.out _ _ _ _ _ hinv.out hqz)
      have r0 := hinv.out.lf.res.c0
      have r1 := hinv.out.lf.res.c1
      have u0 := hinv.out.lf.out.c0
      have u1 := hinv.out.lf.out.c1
      have f0 := hinv.out.lf.res.f 0
      have f1 := hinv.out.lf.res.f 1
      go_wp2_with fail
      refine bodyPost_ret (v := .agg #[.int .i64 0, .slice A1 k1 c1]) (by simp [results, Tryd.results81, go_sem, r0, r1]) rfl ?_
      exact HE2.out

theorem next_any {w0 : World} {g c e : Nat} {A B : Option Addr} {LL : List (List Int)} {D : List Int} (hA : Rws w0 A LL) (hI : Ints w0 B D) (hg : w0.heap.size ≤ g) (hn3 : LL.length ≤ 3) (hm1 : D.length ≤ 1048576) (hsz : ∀ M ∈ LL, M.length ≤ 1048576) : ∀ d, NextAny w0 g c e d A B LL D
  | 0 => next_zero hI hg hn3 hm1
  | d + 1 => next_succ hA hg hn3 hsz (next_any hA hI hg hn3 hm1 hsz d)
end

/- FoldT -/
section
open Go.RowKit

/-- How l2Fold ends. -/
def FoldPost (LL : List (List Int)) (D : List Int) (w : World) (e : Ending) (w' : World) : Prop :=
  w.grownBy w' none ∧ ∃ m sv t, e = .returned (.agg #[.int .i64 m, sv]) ∧ (∃ A k c, sv = .slice A k c) ∧ (foldN LL.length LL D)[0]? = some t ∧ SNd w' (fun b => w.heap.size ≤ b) LL.length t (m, sv)

theorem cons_zero (LL : List (List Int)) (h : LL.length ≤ 3) : Cons LL 0 [0, 0, 0, 0] := fun i L _ hL => by
  have hi := (List.getElem?_eq_some_iff.1 hL).1
  refine ⟨0, ?_, ?_⟩
  · match i, (show i < 3 by omega) with
    | 0, _ => rfl
    | 1, _ => rfl
    | 2, _ => rfl
  · match i, (show i < 3 by omega) with
    | 0, _ => rfl
    | 1, _ => rfl
    | 2, _ => rfl

set_option maxRecDepth 100000 in
set_option maxHeartbeats 1000000 in
theorem fold_any (v : Value) (LL : List (List Int)) (D : List Int) (w : World) (h : Lyt w v LL D) (hn : LL.length + totL LL + D.length ≤ 1048576) (hv : wrong LL D = -1) :
    Calls Tryd.prog 41 #[v] w (FoldPost LL D w) := by
  obtain ⟨A, c, B, e, rfl, _, _, h3, h4⟩ := h
  obtain ⟨hn3, hfit⟩ := wrong_fits hv
  have hsz : ∀ M ∈ LL, M.length ≤ 1048576 := fun M hM => by
    obtain ⟨i, hi⟩ := List.getElem?_of_mem hM
    have := totL_at hi
    omega
  have HC := Lib.hid (fun g (hg : w.heap.size ≤ g) u (hu : w.grownBy u none) (hf : Fdr u g (.slice A LL.length c) (.slice B D.length e) [0, 0, 0, 0]) => next_any (c := c) (e := e) h3 h4 hg hn3 (by omega) hsz LL.length 0 0 [0, 0, 0, 0] u (by omega) hu hf rfl rfl ⟨1, hfit, by omega⟩ (cons_zero LL hn3))
  obtain ⟨n, hnn⟩ : ∃ n, LL.length = n := ⟨_, rfl⟩
  obtain ⟨m, hm⟩ : ∃ m, D.length = m := ⟨_, rfl⟩
  have HN := Lib.hid hnn
  rw [hnn, hm, show ((0 : Nat) : Int) = 0 from rfl] at HC
  rw [hnn, hm]
  clear h3 h4 hn hv hfit hsz hnn hm
  go_enter Tryd.func41, Tryd.ntmps41
  go_wp2_with fail
  have hs2 : ((w.alloc (.cells #[.slice A n c, .slice B m e] 29)).alloc (.cells #[.int .i64 0, .slice none 0 0] 68)).heap.size = w.heap.size + 1 + 1 := by simp
  have hs1 : (w.alloc (.cells #[.slice A n c, .slice B m e] 29)).heap.size = w.heap.size + 1 := by simp
  have hT2 := (two_new (w.alloc (.cells #[.slice A n c, .slice B m e] 29)) (.int .i64 0) (.slice none 0 0) hs1).alloc (.cells #[.slice A n c, .slice B m e, .int .i64 0, .int .i64 0, .int .i64 0, .int .i64 0] 109)
  have hF : Fdr (((w.alloc (.cells #[.slice A n c, .slice B m e] 29)).alloc (.cells #[.int .i64 0, .slice none 0 0] 68)).alloc (.cells #[.slice A n c, .slice B m e, .int .i64 0, .int .i64 0, .int .i64 0, .int .i64 0] 109)) (w.heap.size + 1 + 1) (.slice A n c) (.slice B m e) [0, 0, 0, 0] := by
    have := heap_alloc_new ((w.alloc (.cells #[.slice A n c, .slice B m e] 29)).alloc (.cells #[.int .i64 0, .slice none 0 0] 68)) (.cells #[.slice A n c, .slice B m e, .int .i64 0, .int .i64 0, .int .i64 0, .int .i64 0] 109)
    rw [hs2] at this
    exact this
  have hG : w.grownBy (((w.alloc (.cells #[.slice A n c, .slice B m e] 29)).alloc (.cells #[.int .i64 0, .slice none 0 0] 68)).alloc (.cells #[.slice A n c, .slice B m e, .int .i64 0, .int .i64 0, .int .i64 0, .int .i64 0] 109)) none := (World.grownBy_alloc _ _ _).trans ((World.grownBy_alloc _ _ _).trans (World.grownBy_alloc _ _ _))
  have hS3 : (((w.alloc (.cells #[.slice A n c, .slice B m e] 29)).alloc (.cells #[.int .i64 0, .slice none 0 0] 68)).alloc (.cells #[.slice A n c, .slice B m e, .int .i64 0, .int .i64 0, .int .i64 0, .int .i64 0] 109)).heap.size = w.heap.size + 1 + 1 + 1 := by simp
  generalize ((w.alloc (.cells #[.slice A n c, .slice B m e] 29)).alloc (.cells #[.int .i64 0, .slice none 0 0] 68)).alloc (.cells #[.slice A n c, .slice B m e, .int .i64 0, .int .i64 0, .int .i64 0, .int .i64 0] 109) = w3 at hT2 hF hG hS3 ⊢
  have HT2 := Lib.hid hT2
  have HG := Lib.hid hG
  have HF := Lib.hid hF
  clear hT2 hG hF hs1 hs2
  refine (HC.out (w.heap.size + 1 + 1) (by omega) w3 HG.out HF.out).mono ?_
  rintro e9 w9 ⟨hg9, m9, v9, b9, t9, rfl, ⟨A9, k9, c9, rfl⟩, ht9, hnd9, _, _⟩
  have HG9 := Lib.hid (gr_base HG.out hg9 (by omega))
  have HT9 := Lib.hid (HT2.out.grown hg9 (by simp))
  have HN9 := Lib.hid hnd9
  have HAT := Lib.hid ht9
  have r0 := HT9.out.c0
  have r1 := HT9.out.c1
  have f0 := HT9.out.f 0
  have f1 := HT9.out.f 1
  clear hg9 hnd9 ht9
  go_wp2_with fail
  refine bodyPost_ret (v := .agg #[.int .i64 m9, .slice A9 k9 c9]) (by simp [results, Tryd.results41, go_sem, r0, r1]) rfl ?_
  have e1 : ∀ b, w.heap.size + 1 + 1 + 1 ≤ b → ((w9.setCell ⟨w.heap.size + 1, 0, none⟩ (.int .i64 m9)).setCell ⟨w.heap.size + 1, 1, none⟩ (.slice A9 k9 c9)).heap[b]? = w9.heap[b]? := fun b hb => by
    rw [Below.heap_setCell _ _ _ _ (by show b ≠ w.heap.size + 1; omega), Below.heap_setCell _ _ _ _ (by show b ≠ w.heap.size + 1; omega)]
  have e2 : w.grownBy ((w9.setCell ⟨w.heap.size + 1, 0, none⟩ (.int .i64 m9)).setCell ⟨w.heap.size + 1, 1, none⟩ (.slice A9 k9 c9)) none := by
    refine ⟨HG9.out.os, HG9.out.tape, HG9.out.output, Nat.le_trans HG9.out.size (Nat.le_trans (gr_set w9 (w.heap.size + 1) 0 (.int .i64 m9)).size (gr_set _ (w.heap.size + 1) 1 (.slice A9 k9 c9)).size), fun b hb hne => ?_⟩
    rw [Below.heap_setCell _ _ _ _ (by show b ≠ w.heap.size + 1; omega), Below.heap_setCell _ _ _ _ (by show b ≠ w.heap.size + 1; omega)]
    exact HG9.out.block b hb hne
  obtain rfl : n = LL.length := HN.out.symm
  refine ⟨e2, m9, _, t9, rfl, ⟨_, _, _, rfl⟩, ?_, ?_⟩
  · exact HAT.out
  · exact SNd.keep (fun b hb _ => e1 b (by omega)) (fun b hb _ => by omega) _ _ _ HN9.out
end

/- Told -/
section
open Go.RowKit

/-- How l1Told ends. -/
def ToldPost (l : List UInt8) (w : World) (e : Ending) (w' : World) : Prop := w.grownBy w' none ∧ ∃ u : ByteArray, e = .returned (.tuple #[.string u, .bool (decide (l.length ≤ 400))]) ∧ u.data.toList = if l.length ≤ 400 then l else []

set_option maxHeartbeats 400000 in
theorem told_any (S : Nat → Prop) (d : Nat) (n : Int) (t : T d) (m : Int) (A : Option Addr) (k c : Nat) (w : World) (hn : n = d) (hd : d ≤ 1000) (h : SNd w S d t (m, .slice A k c)) (ht : (text d t).length ≤ 1000000000) :
    Calls Tryd.prog 40 #[.agg #[.int .i64 m, .slice A k c], .int .i64 n] w (ToldPost (text d t) w) := by
  have h1 : SNd (w.alloc (.cells #[.int .i64 m, .slice A k c] 68)) S d t (m, .slice A k c) := SNd.keep (fun b _ hb => Below.heap_alloc w _ b hb) (fun b hb _ => hb) d t _ h
  have HT := Lib.hid (stext_any S d n t m A k c _ hn hd h1 ht)
  have HL := Lib.hid ht
  clear h h1 hn hd ht
  go_enter Tryd.func40, Tryd.ntmps40
  go_wp2_with fail
  refine HT.out.mono ?_
  rintro e w1 ⟨⟨s, rfl, hs⟩, hg⟩
  have HG := Lib.hid ((World.grownBy_alloc w (.cells #[.int .i64 m, .slice A k c] 68) none).trans hg)
  have hsz : s.size = (text d t).length := by rw [← hs, Array.length_toList]; rfl
  have HS := Lib.hid hs
  have HSZ := Lib.hid hsz
  clear hs hg hsz
  by_cases hb : 400 < s.size
  · have hd2 : decide (400 < (s.size : Int)) = true := decide_eq_true (by omega)
    go_wp2_with fail
    go_ret2
    have h2 := HSZ.out
    refine ⟨HG.out, ⟨#[]⟩, ?_, ?_⟩
    · rw [decide_eq_false (by omega)]; rfl
    · rw [if_neg (by omega)]
  · have hd2 : decide (400 < (s.size : Int)) = false := decide_eq_false (by omega)
    go_wp2_with fail
    go_ret2
    have h2 := HSZ.out
    refine ⟨HG.out, s, ?_, ?_⟩
    · rw [decide_eq_true (by omega)]; rfl
    · rw [if_pos (by omega)]; exact HS.out
end

/- SFold -/
section
open Go.RowKit

/-- How FoldUp ends. -/
def FUPost (o : Option (List UInt8)) (w : World) (e : Ending) (w' : World) : Prop := (∃ u : ByteArray, e = .returned (.tuple #[.string u, .bool o.isSome]) ∧ u.data.toList = o.getD []) ∧ w.grownBy w' none

theorem cnt_tot : ∀ (LL : List (List Int)), cnt LL = totL LL
  | [] => rfl
  | L :: LL => by simp only [cnt, totL, cnt_tot LL]

theorem foldText_yes {LL : List (List Int)} {D : List Int} {t : T LL.length} (hv : wrong LL D = -1) (ht : (foldN LL.length LL D)[0]? = some t) : foldText LL D = if (text LL.length t).length ≤ 400 then some (text LL.length t) else none := by
  rw [foldText, if_pos hv, ht]
theorem foldText_no {LL : List (List Int)} {D : List Int} (hv : wrong LL D ≠ -1) : foldText LL D = none := if_neg hv

set_option maxRecDepth 100000 in
set_option maxHeartbeats 1000000 in
theorem sfold_any (v : Value) (LL : List (List Int)) (D : List Int) (w : World) (h : Lyt w v LL D) (hn : LL.length + totL LL + D.length ≤ 1048576) :
    Calls Tryd.prog 9 #[v] w (FUPost (foldText LL D) w) := by
  have H := Lib.hid h
  obtain ⟨A, c, B, d, rfl, _⟩ := h
  have HV := Lib.hid (fun u (hg : w.grownBy u none) => slayok_any _ LL D u (H.out.grown hg) hn)
  have HFD := Lib.hid (fun (hv : wrong LL D = -1) u (hg : w.grownBy u none) => fold_any _ LL D u (H.out.grown hg) hn hv)
  obtain ⟨n, hnn⟩ : ∃ n, LL.length = n := ⟨_, rfl⟩
  obtain ⟨m, hm⟩ : ∃ m, D.length = m := ⟨_, rfl⟩
  have HTL := Lib.hid (fun (hv : wrong LL D = -1) (S : Nat → Prop) (t : T LL.length) (m : Int) (A : Option Addr) (k c : Nat) (u : World) (hat : (foldN LL.length LL D)[0]? = some t) (hs : SNd u S LL.length t (m, .slice A k c)) => told_any S LL.length (n : Int) t m A k c u (by rw [hnn]) (by have := (wrong_fits hv).1; omega) hs (by
    have h1 := txs_fold LL.length 1 LL D rfl (wrong_fits hv).2
    have h2 := txs_mem LL.length hat
    have h3 := cnt_tot LL
    omega))
  have HN := Lib.hid hnn
  have HM := Lib.hid hm
  have HTX := Lib.hid (fun (t : T LL.length) hv ht => foldText_yes (LL := LL) (D := D) (t := t) hv ht)
  have HTN := Lib.hid (fun hv => foldText_no (LL := LL) (D := D) hv)
  rw [hnn, hm] at HV HFD H
  rw [hnn, hm]
  clear hn hnn hm
  go_enter Tryd.func9, Tryd.ntmps9
  go_wp2_with fail
  have HG0 := Lib.hid (World.grownBy_alloc w (.cells #[.slice A n c, .slice B m d] 29) none)
  have HP0 := Lib.hid (Pr.new w 29 (.slice A n c) (.slice B m d))
  refine (HV.out _ HG0.out).mono ?_
  rintro e w1 ⟨rfl, hg1⟩
  have HG1 := Lib.hid (HG0.out.trans hg1)
  have HP1 := Lib.hid (HP0.out.grown hg1 (by simp))
  clear hg1
  by_cases hv : wrong LL D = -1
  · have hd : decide (wrong LL D = -1) = true := decide_eq_true hv
    have HVV := Lib.hid hv
    have p0 := HP1.out.c0
    have p1 := HP1.out.c1
    clear hv
    go_wp2_with fail
    go_region_law (first
      | (go_simp
         go_at_call 41
         refine (HFD.out HVV.out _ (HG1.out.trans (gr_drewN w1 _ none))).mono ?_
         rintro e w7 ⟨hg7, m7, v7, t7, rfl, ⟨A7, k7, c7, rfl⟩, ht7, hn7⟩
         have HG7 := Lib.hid (HG1.out.trans ((gr_drewN w1 _ none).trans hg7))
         have q0 := ((HP1.out.grown (gr_drewN w1 _ none) (by simp)).grown hg7 (by simp)).c0
         have HTO := HTL.out HVV.out _ t7 m7 A7 k7 c7 w7 ht7 hn7
         have HAT := Lib.hid ht7
         have HT7 := Lib.hid HTO
         clear hg7 hn7 ht7 HTO)
      | (go_simp
         go_at_call 40
         refine HT7.out.mono ?_
         rintro e w8 ⟨hg8, u8, rfl, hu8⟩
         have HG8 := Lib.hid (HG7.out.trans hg8)
         have HU8 := Lib.hid hu8
         clear hg8 hu8))
    all_goals
      have HX := Lib.hid (HTX.out t7 HVV.out HAT.out)
      go_wp2_with fail
      go_ret2
      refine ⟨⟨u8, ?_, ?_⟩, HG8.out⟩
      · rw [HX.out]
        by_cases h4 : (text LL.length t7).length ≤ 400
        · rw [if_pos h4, decide_eq_true h4]; rfl
        · rw [if_neg h4, decide_eq_false h4]; rfl
      · rw [HX.out, HU8.out]
        by_cases h4 : (text LL.length t7).length ≤ 400
        · rw [if_pos h4, if_pos h4]; rfl
        · rw [if_neg h4, if_neg h4]; rfl
  · have hd : decide (wrong LL D = -1) = false := decide_eq_false hv
    have HVV := Lib.hid hv
    clear hv
    go_wp2_with fail
    go_ret2
    exact ⟨⟨⟨#[]⟩, by rw [HTN.out HVV.out]; rfl, by rw [HTN.out HVV.out]; rfl⟩, HG1.out⟩
end

/- FoldUp -/
section
open Go.RowKit

set_option maxRecDepth 100000 in
set_option maxHeartbeats 2000000 in
theorem foldup_impl (v : Value) (LL : List (List Int)) (D : List Int) (w : World) (h : Lyt w v LL D) (hn : LL.length + totL LL + D.length ≤ 1048576) (htab : Lib.TabIs Tryd.prog w "internal/strconv.uint64pow10" .u64 Lib.pow10Tab) :
    Calls Tryd.prog 11 #[v] w (FUPost (foldText LL D) w) := by
  have H := Lib.hid h
  obtain ⟨A, c, B, d, rfl, h1, h2, h3, h4⟩ := h
  have HV := Lib.hid (fun u (hg : w.grownBy u none) => layok_any _ LL D u (H.out.grown hg) hn)
  have HFO := Lib.hid (fun (hv : wrong LL D = -1) u (hg : w.grownBy u none) => fold_impl A B c d LL D u (h3.grown hg) (h4.grown hg (by simp)) (wrong_fits hv).2 (wrong_fits hv).1 (fun M hM => by
    obtain ⟨i, hi⟩ := List.getElem?_of_mem hM
    have := totL_at hi
    omega) (by omega) (Lib.tabBelow_of_tabIs htab _ (below_of hg)))
  have HYES := Lib.hid (fun (t : T LL.length) (hv : wrong LL D = -1) (ht : foldN LL.length LL D = [t]) => foldText_yes hv (show (foldN LL.length LL D)[0]? = some t by rw [ht]; rfl))
  have HNO := Lib.hid (fun (hv : wrong LL D ≠ -1) => foldText_no hv)
  obtain ⟨n, hnn⟩ : ∃ n, LL.length = n := ⟨_, rfl⟩
  obtain ⟨m, hm⟩ : ∃ m, D.length = m := ⟨_, rfl⟩
  have HN := Lib.hid hnn
  rw [hnn, hm] at HV H
  rw [hnn, hm]
  have HFL := Lib.hid (fun u => flatof_any A B n c m d u)
  obtain ⟨R, hR⟩ : ∃ R, foldText LL D = R := ⟨_, rfl⟩
  rw [hR]
  have HR := Lib.hid hR
  have HM := Lib.hid hm
  clear hn hnn hm h1 h2 h3 h4 htab hR
  have HG0 := Lib.hid (World.grownBy_alloc w (.cells #[.slice A n c, .slice B m d] 29) none)
  have HP0 := Lib.hid (Pr.new w 29 (.slice A n c) (.slice B m d))
  by_cases hv : wrong LL D = -1
  · have hd : decide (wrong LL D = -1) = true := decide_eq_true hv
    have HVV := Lib.hid hv
    rw [hd] at HV
    have HFF := Lib.hid (HFO.out hv)
    clear hv hd HFO
    go_enter Tryd.func11, Tryd.ntmps11
    have p0 := HP0.out.c0
    have p1 := HP0.out.c1
    go_wp2_with fail
    generalize w.alloc (.cells #[.slice A n c, .slice B m d] 29) = w1 at HG0 HP0 p0 p1 ⊢
    refine (HV.out w1 HG0.out).mono ?_
    rintro e w2 ⟨rfl, hg2⟩
    have HG2 := Lib.hid (HG0.out.trans hg2)
    have P2 := HP0.out.grown hg2 (by simp)
    clear p0 p1
    have p0 := P2.c0
    have p1 := P2.c1
    clear hg2 P2
    go_wp2_with fail
    refine (HFL.out w2).mono ?_
    rintro e w3 ⟨rfl, hg3⟩
    have HG3 := Lib.hid (HG2.out.trans hg3)
    have HC := Lib.hid (HFF.out w3 HG3.out)
    rw [HN.out, HM.out] at HC
    clear hg3 p0 p1
    go_wp2_with fail
    refine HC.out.mono ?_
    rintro e w4 ⟨hg4, u, t, ht, rfl, hu⟩
    have HG4 := Lib.hid (HG3.out.trans hg4)
    have hy := HYES.out t HVV.out ht
    rw [HR.out] at hy
    have HY := Lib.hid hy
    have HU := Lib.hid hu
    obtain ⟨bb, hbb⟩ : ∃ bb, decide ((text LL.length t).length ≤ 400) = bb := ⟨_, rfl⟩
    rw [hbb]
    have HB := Lib.hid hbb
    clear hg4 ht hu hy hbb
    go_wp2_with fail
    refine bodyPost_ret (v := .tuple #[.string u, .bool bb]) (by simp [results, Tryd.results11, go_sem]) rfl ?_
    refine ⟨⟨u, ?_, ?_⟩, HG4.out⟩
    · rw [HY.out, ← HB.out]
      by_cases h4 : (text LL.length t).length ≤ 400
      · rw [if_pos h4, decide_eq_true h4]; rfl
      · rw [if_neg h4, decide_eq_false h4]; rfl
    · rw [HY.out, HU.out]
      by_cases h4 : (text LL.length t).length ≤ 400
      · rw [if_pos h4, if_pos h4]; rfl
      · rw [if_neg h4, if_neg h4]; rfl
  · have hd : decide (wrong LL D = -1) = false := decide_eq_false hv
    have HX := Lib.hid (HNO.out hv)
    rw [hd] at HV
    clear hv hd HFO
    go_enter Tryd.func11, Tryd.ntmps11
    have p0 := HP0.out.c0
    have p1 := HP0.out.c1
    go_wp2_with fail
    generalize w.alloc (.cells #[.slice A n c, .slice B m d] 29) = w1 at HG0 HP0 p0 p1 ⊢
    refine (HV.out w1 HG0.out).mono ?_
    rintro e w2 ⟨rfl, hg2⟩
    have HG2 := Lib.hid (HG0.out.trans hg2)
    clear hg2 p0 p1
    go_wp2_with fail
    go_ret2
    have hr := HX.out
    rw [HR.out] at hr
    subst hr
    exact ⟨⟨⟨#[]⟩, rfl, rfl⟩, HG2.out⟩
end

end Go.Proofs.YtdfanconjiiceabDoor
