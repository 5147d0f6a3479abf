/- The iterator of strings.SplitSeq: its contract. -/
import Derived.Test.YtdfanconjiiceaaDoorSeqS
import Derived.Test.YtdfanconjiiceaaDoorCutP
import Derived.Test.YtdfanconjiiceaaDoorSgn
namespace Go.Proofs.YtdfanconjiiceaaDoor
section
open Go.RowKit

/-- **An iterator's contract**, one that keeps its state in a box of its own: these things come, one by one, or a round has said 'no more'. -/
def SeqOwnB {α : Type} (vs : α → Array Value) (X : Nat → TypeId → Prop) (P : Program) (g : Nat) (lb : Array Value) (zs : List α) (b0 : Nat) (tb : TypeId) (w : World) : Prop :=
  ∀ (n l : Nat) (J Jx : List α → World → Prop) (W : World), KeepsK X w W → OwnFrom W.heap.size J → OwnFrom W.heap.size Jx → (∀ pre A u v, A.heap[b0]? = some (.cells #[u] tb (0, 0)) → J pre A → J pre (A.setCell ⟨b0, 0, none⟩ v)) →
    (∀ m pre x W1, J pre W1 → pre ++ [x] <+: zs → YieldAt Fence.wide m P l (vs x) W1 fun e W' =>
      (e = .returned (.bool true) ∧ J (pre ++ [x]) W' ∧ KeepsK X W1 W') ∨ (e = .returned (.bool false) ∧ Jx (pre ++ [x]) W' ∧ KeepsFrom W.heap.size W1 W')) →
    J [] W →
    CallsIn Fence.wide n P g (#[.func (.yield l) #[] #[]] ++ lb) W fun e W' => (∃ v, e = .returned v) ∧ (J zs W' ∨ ∃ pre, pre <+: zs ∧ Jx pre W')

theorem range_ownB {α : Type} (vs : α → Array Value) {P : Program} {g : Operand} {ps : Array Tmp} {assign body : Code} {Q : Exit → Act → World → Prop} {a : Act} {w : World} {n : Nat} {X : Nat → TypeId → Prop}
    {gf : Nat} {lb : Array Value} (hg : a.eval g = .func (.func gf) #[] lb) (eg : ∀ args w, (callFunc gf args).run P w = .ok (.enter gf args) w)
    {zs : List α} {b0 : Nat} {tb : TypeId} (hb0 : b0 < w.heap.size) (hseq : SeqOwnB vs X P gf lb zs b0 tb w) (I Ix : List α → World → Prop) (hI : OwnFrom w.heap.size I) (hIx : OwnFrom w.heap.size Ix) (hIb : ∀ pre A u v, A.heap[b0]? = some (.cells #[u] tb (0, 0)) → I pre A → I pre (A.setCell ⟨b0, 0, none⟩ v)) (h0 : I [] w) (hsz : ∀ x, (vs x).size = ps.size) (a₁ : α → Act)
    (hassign : ∀ (l m : Nat) (x : α) (W : World) (K : Act → World → Prop), K (a₁ x) W →
      assign.wpIn (Fence.wide.inRound l) m P (Exit.then K (fun _ _ _ => False)) { tmps := (ps.zip (vs x)).foldl (fun t (q, v) => t.setIfInBounds q v) a.tmps, defers := [] } W)
    (hbody : ∀ (l m : Nat) (pre : List α) (x : α) (W : World), w.heap.size ≤ l → (∃ r, W.heap[l]? = some (.loop r)) → I pre W → pre ++ [x] <+: zs → body.wpIn (Fence.wide.inRound l) m P (rangeEndK X w.heap.size I Ix (pre ++ [x]) W) (a₁ x) W)
    (hdone : ∀ (D : Nat) (W : World), w.heap.size ≤ D → I zs W → W.heap[D]? = some (.deferred (some [])) → Q .normal { a with defers := mark D :: a.defers } W)
    (hstop : ∀ (D : Nat) (pre : List α) (W : World), w.heap.size ≤ D → pre <+: zs → Ix pre W → W.heap[D]? = some (.deferred (some [])) → Code.ret.wpIn Fence.wide n P Q { a with defers := mark D :: a.defers } W) :
    (Code.rangeFunc g ps assign body).wpIn Fence.wide n P Q a w := by
  refine wpIn_rangeFunc ?_
  intro fn hfn
  obtain ⟨R, hR⟩ : ∃ R : LoopState → Option Code → Loop, R = fun st pe => { state := st, pending := pe, fn, tmps := a.tmps, params := ps, assign, body, defers := w.heap.size } := ⟨_, rfl⟩
  obtain ⟨V, hV⟩ : ∃ V, (w.alloc (.deferred (some []))).alloc (.loop (R .ready none)) = V := ⟨_, rfl⟩
  have vsz : V.heap.size = w.heap.size + 2 := by rw [← hV]; simp
  have vg : w.grownBy V none := by rw [← hV]; exact (World.grownBy_alloc _ _ _).trans (World.grownBy_alloc _ _ _)
  have vl : V.heap[w.heap.size + 1]? = some (.loop (R .ready none)) := by
    have h1 := World.alloc_heap_new (w.alloc (.deferred (some []))) (.loop (R .ready none))
    rw [World.size_alloc] at h1
    rw [← hV]; exact h1
  have vd : V.heap[w.heap.size]? = some (.deferred (some [])) := by
    rw [← hV]; exact (Below.heap_alloc _ _ _ (by simp)).trans (World.alloc_heap_new w _)
  refine ⟨w.heap.size + 1, [mark w.heap.size], V, { target := .fn (.func gf) lb, args := #[.func (.yield (w.heap.size + 1)) #[] #[]] }, V, gf, #[.func (.yield (w.heap.size + 1)) #[] #[]] ++ lb, V, ?_, ?_, ?_, ?_, ?_, ?_⟩
  · rw [← hV, hR]; exact run_enterLoop_outer _ _ _ _ _
  · simp only [resolve, hg]
    simp [go_sem]
  · intro _ _; trivial
  · simp [invoke, go_sem, eg]
  · intro h; cases h
  · -- what stands beside the invariant: the loop's record and the block of its mark
    have side : ∀ (st : LoopState) (pe : Option Code) (A B : World) (row : Option Nat), A.grownBy B row → (∀ r, row = some r → V.heap.size ≤ r ∧ ∃ o : Obj, A.heap[r]? = some o ∧ o.isCells = false) →
        A.heap[w.heap.size + 1]? = some (.loop (R st pe)) ∧ A.heap[w.heap.size]? = some (.deferred (some [])) → B.heap[w.heap.size + 1]? = some (.loop (R st pe)) ∧ B.heap[w.heap.size]? = some (.deferred (some [])) := fun st pe A B row hg' hr hs =>
      ⟨(hg'.block _ (Array.getElem?_eq_some_iff.1 hs.1).1 (fun e => by have := (hr _ e.symm).1; omega)).trans hs.1,
       (hg'.block _ (Array.getElem?_eq_some_iff.1 hs.2).1 (fun e => by have := (hr _ e.symm).1; omega)).trans hs.2⟩
    have hI2 : OwnFrom V.heap.size (fun pre W => I pre W ∧ W.heap[w.heap.size + 1]? = some (.loop (R .ready none)) ∧ W.heap[w.heap.size]? = some (.deferred (some []))) := fun s A B row hs hg' hr =>
      ⟨hI s A B row hs.1 hg' (fun r e => ⟨by have := (hr r e).1; omega, (hr r e).2⟩), side _ _ A B row hg' hr hs.2⟩
    have hIx2 : OwnFrom V.heap.size (fun pre W => Ix pre W ∧ W.heap[w.heap.size + 1]? = some (.loop (R .done (some .ret))) ∧ W.heap[w.heap.size]? = some (.deferred (some []))) := fun s A B row hs hg' hr =>
      ⟨hIx s A B row hs.1 hg' (fun r e => ⟨by have := (hr r e).1; omega, (hr r e).2⟩), side _ _ A B row hg' hr hs.2⟩
    refine (hseq _ (w.heap.size + 1) _ _ V (KeepsK.grown vg) hI2 hIx2 (fun pre A u v hA h => ⟨hIb pre A u v hA h.1, (Below.heap_setCell _ _ _ _ (by simp; omega)).trans h.2.1, (Below.heap_setCell _ _ _ _ (by simp; omega)).trans h.2.2⟩) ?_ ⟨hI [] w V none h0 vg (fun r e => by cases e), vl, vd⟩).mono ?_
    · rintro m pre x W ⟨hi, hl, hk⟩ hlen
      have hlt : w.heap.size + 1 < W.heap.size := (Array.getElem?_eq_some_iff.1 hl).1
      have hy := run_yield (P := P) (args := (vs x)) hl (by rw [hR]; exact hsz x)
      rw [hR] at hy
      refine ⟨fn, _, assign, body, hy, roundIn_of_wpIn hfn ?_⟩
      refine hassign _ _ x W _ ⟨_, run_beginRound hl (by rw [hR]), ?_⟩
      obtain ⟨Wb, hWb⟩ : ∃ Wb, W.putObj (w.heap.size + 1) (.loop { R .ready none with state := .busy }) = Wb := ⟨_, rfl⟩
      have hlb : Wb.heap[w.heap.size + 1]? = some (.loop { R .ready none with state := .busy }) := by rw [← hWb]; exact World.putObj_heap_same hlt
      have hkb : Wb.heap[w.heap.size]? = some (.deferred (some [])) := by rw [← hWb]; exact (World.putObj_heap_other (by omega)).trans hk
      have hib : I pre Wb := by rw [← hWb]; exact hI.putObj _ hi (by omega) hl rfl
      rw [hWb]
      refine wpIn_mono (hbody _ _ pre x Wb (by omega) ⟨_, hlb⟩ hib hlen) ?_
      have last : ∀ (jump : Option Code) (W3 : World), KeepsFrom w.heap.size Wb W3 →
          (Instr.endRound (w.heap.size + 1) jump).run P W3 = .ok (.bool jump.isNone) (W3.putObj (w.heap.size + 1) (.loop (R (if jump.isNone then .ready else .done) jump))) ∧
          W3.heap[w.heap.size + 1]? = some (.loop { R .ready none with state := .busy }) ∧ W3.heap[w.heap.size]? = some (.deferred (some [])) := fun jump W3 hk3 => by
        have h3 := hk3.same _ _ (by omega) hlb rfl
        have h4 := run_endRound (P := P) jump h3
        refine ⟨?_, h3, hk3.same _ _ (Nat.le_refl _) hkb rfl⟩
        rw [h4, hR]
      rintro e a3 W3 hp
      cases e with
      | normal =>
        obtain ⟨hk3, hi3⟩ := hp
        obtain ⟨hr, hl3, hd3⟩ := last none W3 (hk3.from _)
        have hlt3 := (Array.getElem?_eq_some_iff.1 hl3).1
        refine ⟨_, _, hr, .inl ⟨rfl, ⟨hI.putObj _ hi3 (by omega) hl3 rfl, World.putObj_heap_same hlt3, (World.putObj_heap_other (by omega)).trans hd3⟩, ?_⟩⟩
        rw [← hWb] at hk3
        exact KeepsK.round hl hk3
      | ret =>
        obtain ⟨hk3, hi3⟩ := hp
        obtain ⟨hr, hl3, hd3⟩ := last (some .ret) W3 hk3
        have hlt3 := (Array.getElem?_eq_some_iff.1 hl3).1
        refine ⟨_, _, hr, .inr ⟨rfl, ⟨hIx.putObj _ hi3 (by omega) hl3 rfl, World.putObj_heap_same hlt3, (World.putObj_heap_other (by omega)).trans hd3⟩, ?_⟩⟩
        refine ⟨?_, fun k o hk ho hc => ?_⟩
        · have := hk3.size
          rw [← hWb] at this
          simpa using this
        · rw [World.putObj_heap_other (by omega)]
          refine hk3.same k o (by omega) ?_ hc
          rw [← hWb, World.putObj_heap_other (by omega)]
          exact ho
      | exit id => exact hp.elim
      | goto t => exact hp.elim
      | panic ch => exact hp.elim
      | outgrown => exact hp.elim
    · rintro e W2 ⟨⟨v, rfl⟩, (⟨hi, hl, hk⟩ | ⟨pre, hpre, hi, hl, hk⟩)⟩
      · have h5 := run_endLoop (P := P) hl (by rw [hR]; simp)
        refine ⟨none, _, by rw [h5, hR], hdone _ _ (Nat.le_refl _) (hI.putObj _ hi (by omega) hl rfl) ((World.putObj_heap_other (by omega)).trans hk)⟩
      · have h5 := run_endLoop (P := P) hl (by rw [hR]; simp)
        refine ⟨some .ret, _, by rw [h5, hR], hstop _ pre _ (Nat.le_refl _) hpre (hIx.putObj _ hi (by omega) hl rfl) ((World.putObj_heap_other (by omega)).trans hk)⟩
end

section
open Go.RowKit Go.Shelf

def spc : ByteArray := ⟨#[32]⟩

set_option maxRecDepth 100000 in
set_option maxHeartbeats 1000000 in
theorem sidx_any (s : ByteArray) (w : World) :
    Calls Tryd.prog 64 #[.string s, .string { data := #[32] }] w fun e w' => e = .returned (.int .i64 (Lib.indexByte s.data.toList 32)) ∧ w' = w := by
  have HI := Lib.hid (fun w => slidx_any s 32 w)
  cases hs : (([32] : List UInt8) == s.toList)
  · go_enter Tryd.func64, Tryd.ntmps64
    go_wp2_with fail
    refine (HI.out w).mono ?_
    rintro e w' ⟨rfl, rfl⟩
    go_wp2_with fail
    go_ret
    exact ⟨rfl, rfl⟩
  · have hz : Lib.indexByte s.data.toList 32 = 0 := by
      have h1 : s.toList = [32] := (eq_of_beq hs).symm
      rw [Lib.toList_data] at h1
      rw [h1]; rfl
    rw [hz]
    clear HI
    go_enter Tryd.func64, Tryd.ntmps64
    go_wp2_with fail
    go_ret
    exact ⟨rfl, rfl⟩

theorem stri_any (s : ByteArray) (w : World) :
    Calls Tryd.prog 57 #[.string s, .string { data := #[32] }] w fun e w' => e = .returned (.int .i64 (Lib.indexByte s.data.toList 32)) ∧ w' = w := by
  go_enter Tryd.func57, Tryd.ntmps57
  go_wp2_with fail
  refine (sidx_any s w).mono ?_
  rintro e w' ⟨rfl, rfl⟩
  go_wp2_with fail
  go_ret
  exact ⟨rfl, rfl⟩

/-- The iterator's three boxes: the separator, the text, how much of the separator is kept. -/
structure Spl (w : World) (b : Nat) (s : ByteArray) : Prop where
  t : w.heap[b]? = some (.cells #[.string s] 9 (0, 0))
  e : w.heap[b + 1]? = some (.cells #[.string ⟨#[32]⟩] 9 (0, 0))
  k : w.heap[b + 2]? = some (.cells #[.int .i64 0] 3 (0, 0))

set_option maxRecDepth 100000 in
set_option maxHeartbeats 1000000 in
theorem split_call (s : ByteArray) (w : World) :
    Calls Tryd.prog 28 #[.string s, .string { data := #[32] }] w fun e w' => e = .returned (.func (.func 55) #[] #[.pointer (some ⟨w.heap.size + 1, 0, none⟩), .pointer (some ⟨w.heap.size, 0, none⟩), .pointer (some ⟨w.heap.size + 2, 0, none⟩)]) ∧ w.grownBy w' none ∧ Spl w' w.heap.size s := by
  have hmf : ∀ (fn : Fn) (first cap : Array Value) (w : World), (Instr.makeFunc fn first cap).run Tryd.prog w = .ok (.func fn first cap) w := fun _ _ _ _ => rfl
  have H : Calls Tryd.prog 43 #[.string s, .string { data := #[32] }, .int .i64 0] w fun e w' => e = .returned (.func (.func 55) #[] #[.pointer (some ⟨w.heap.size + 1, 0, none⟩), .pointer (some ⟨w.heap.size, 0, none⟩), .pointer (some ⟨w.heap.size + 2, 0, none⟩)]) ∧ w.grownBy w' none ∧ Spl w' w.heap.size s := by
    go_enter Tryd.func43, Tryd.ntmps43
    go_wp2_with fail
    go_ret
    refine ⟨rfl, (World.grownBy_alloc _ _ _).trans ((World.grownBy_alloc _ _ _).trans (World.grownBy_alloc _ _ _)), ?_, ?_, ?_⟩
    · rw [Below.heap_alloc _ _ _ (by simp; omega), Below.heap_alloc _ _ _ (by simp)]
      exact heap_alloc_new _ _
    · rw [Below.heap_alloc _ _ _ (by simp)]
      have h := heap_alloc_new (w.alloc (.cells #[.string s] 9)) (.cells #[.string ⟨#[32]⟩] 9)
      rw [World.size_alloc] at h
      exact h
    · have h := heap_alloc_new ((w.alloc (.cells #[.string s] 9)).alloc (.cells #[.string ⟨#[32]⟩] 9)) (.cells #[.int .i64 0] 3)
      rw [World.size_alloc, World.size_alloc] at h
      exact h
  go_enter Tryd.func28, Tryd.ntmps28
  go_wp2_with fail
  refine H.mono ?_
  rintro e w' ⟨rfl, hg, hs⟩
  go_wp2_with fail
  go_ret
  exact ⟨rfl, hg, hs⟩
end

section
open Go.RowKit Go.Shelf
attribute [local go_sem] Oper.semAt_some

def strK (x : ByteArray) : Array Value := #[.string x]

/-- How much of the text is left. -/
def leftS (w : World) (b : Nat) : Nat := match w.cell? ⟨b, 0, none⟩ with
  | some (.string x) => x.size
  | _ => 0
theorem leftS_of {w : World} {b : Nat} {x : ByteArray} (h : w.cell? ⟨b, 0, none⟩ = some (.string x)) : leftS w b = x.size := by unfold leftS; rw [h]

theorem Spl.keep {w w' : World} {b : Nat} {s : ByteArray} {X : Nat → TypeId → Prop} (h : Spl w b s) (hk : KeepsK X w w') (h0 : ¬ X b 9) (h1 : ¬ X (b + 1) 9) (h2 : ¬ X (b + 2) 3) : Spl w' b s :=
  ⟨hk.row h.t h0, hk.row h.e h1, hk.row h.k h2⟩
theorem Spl.c0 {w : World} {b : Nat} {s : ByteArray} (h : Spl w b s) : w.cell? ⟨b, 0, none⟩ = some (.string s) := cell_of_row w b 0 _ _ (0, 0) h.t
theorem Spl.c1 {w : World} {b : Nat} {s : ByteArray} (h : Spl w b s) : w.cell? ⟨b + 1, 0, none⟩ = some (.string ⟨#[32]⟩) := cell_of_row w (b + 1) 0 _ _ (0, 0) h.e
theorem Spl.c2 {w : World} {b : Nat} {s : ByteArray} (h : Spl w b s) : w.cell? ⟨b + 2, 0, none⟩ = some (.int .i64 0) := cell_of_row w (b + 2) 0 _ _ (0, 0) h.k
theorem Spl.f0 {w : World} {b : Nat} {s : ByteArray} (h : Spl w b s) : w.frozen? ⟨b, 0, none⟩ = false := by have := h.t; simp [World.frozen?, this]
theorem Spl.set {w : World} {b : Nat} {s : ByteArray} (h : Spl w b s) (x : ByteArray) : Spl (w.setCell ⟨b, 0, none⟩ (.string x)) b x := by
  have h0 := h.t
  refine ⟨by simp [World.setCell, Array.getElem?_modify, h0], (Below.heap_setCell _ _ _ _ (by simp)).trans h.e, (Below.heap_setCell _ _ _ _ (by simp)).trans h.k⟩

set_option maxRecDepth 100000 in
set_option maxHeartbeats 2000000 in
theorem split_iter (X : Nat → TypeId → Prop) (b : Nat) (s : ByteArray) (w : World) (hs : Spl w b s) (hsz : s.size ≤ 1000000) (hX0 : ¬ X b 9) (hX1 : ¬ X (b + 1) 9) (hX2 : ¬ X (b + 2) 3) :
    SeqOwnB strK X Tryd.prog 55 #[.pointer (some ⟨b + 1, 0, none⟩), .pointer (some ⟨b, 0, none⟩), .pointer (some ⟨b + 2, 0, none⟩)] (cutB s) b 9 w := by
  intro n l J Jx W hW hJ hJx hJb hY h0
  have h1 := hs.keep hW hX0 hX1 hX2
  have HS := Lib.hid h1
  have e1 := h1.c1
  have HY := Lib.hid hY
  have HJB := Lib.hid hJb
  have HXX := Lib.hid (And.intro hX0 (And.intro hX1 hX2))
  obtain ⟨zs, hzs⟩ : ∃ zs, cutB s = zs := ⟨_, rfl⟩
  have HZ := Lib.hid hzs
  rw [hzs] at HY ⊢
  clear hs h1 hY hW hJb hzs hX0 hX1 hX2
  show CallsIn Fence.wide n Tryd.prog 55 #[.func (.yield l) #[] #[], .pointer (some ⟨b + 1, 0, none⟩), .pointer (some ⟨b, 0, none⟩), .pointer (some ⟨b + 2, 0, none⟩)] W _
  refine callsIn_of_wp Tryd.func55 rfl trivial ?_ rfl
  simp only [Tryd.ntmps55, List.size_toArray, List.length_cons, List.length_nil, Nat.reduceAdd, Nat.reduceSub, Array.replicate_succ, Array.replicate_zero, List.push_toArray, List.append_toArray, List.nil_append, List.cons_append]
  gi_wp2
  gi_loopw [7, 8] (fun u v wr => ∃ (p : Nat) (pre : List ByteArray), p ≤ s.size ∧ Hid (pre ++ cutF s (s.size + 1 - p) p p = zs) ∧ Hid (J pre wr) ∧ Hid (Spl wr b (rest s p))) (fun _ _ wr => leftS wr b)
  case atStart => exact ⟨0, [], Nat.zero_le _, Lib.hid (by rw [← HZ.out]; rfl), Lib.hid h0, Lib.hid (by rw [rest_zero]; exact HS.out)⟩
  case round =>
    obtain ⟨p, pre, hp, hpre, hjj, hspl⟩ := hrel
    have c0 := hspl.out.c0
    have c1 := hspl.out.c1
    have c2 := hspl.out.c2
    have f0 := hspl.out.f0
    have hge := Lib.indexByte_ge (rest s p).data.toList 32
    have HI := Lib.hid (stri_any (rest s p) wr)
    rcases Int.lt_or_le (Lib.indexByte (rest s p).data.toList 32) 0 with hneg | hpos
    · have hk : Lib.indexByte (rest s p).data.toList 32 = -1 := by omega
      have HL := Lib.hid (cutF_last hp hk)
      rw [hk] at HI
      clear hge hneg hk
      have hyz : pre ++ [rest s p] = zs := by rw [← hpre.out, HL.out]
      have HYZ := Lib.hid hyz
      obtain ⟨fn, tmps, assign, body, hy, hR⟩ := HY.out (n - 1) pre (rest s p) wr hjj.out (by rw [hyz]; exact List.prefix_refl _)
      simp only [strK] at hy
      clear hyz
      gi_wp2_with (first
        | (refine ⟨trivial, fun h => (by cases h), ?_⟩; refine (callsIn_wide.2 HI.out).mono ?_; clear HI; rintro e w' ⟨rfl, rfl⟩)
        | (refine ⟨fun h => (by cases h), ?_⟩; refine hR.mono ?_; clear hR; rintro e W' (⟨rfl, hJ', hk⟩ | ⟨rfl, hJx', hk⟩)))
      · go_end0
        refine ⟨⟨_, rfl⟩, .inl ?_⟩
        rw [← HYZ.out]; exact hJ'
      · go_end0
        refine ⟨⟨_, rfl⟩, .inr ⟨zs, List.prefix_refl _, ?_⟩⟩
        rw [← HYZ.out]; exact hJx'
    · obtain ⟨i, hi⟩ : ∃ i : Nat, Lib.indexByte (rest s p).data.toList 32 = (i : Int) := ⟨_, (Int.toNat_of_nonneg hpos).symm⟩
      obtain ⟨q1, q2, q3, q4⟩ := cutF_next hp hi
      rw [hi] at HI
      have hyz : pre ++ [s.extract p (p + i)] ++ cutF s (s.size + 1 - (p + i + 1)) (p + i + 1) (p + i + 1) = zs := by rw [← hpre.out, q4]; simp
      have HYZ := Lib.hid hyz
      obtain ⟨fn, tmps, assign, body, hy, hR⟩ := HY.out (n - 1) pre (s.extract p (p + i)) wr hjj.out (by rw [← hyz]; exact List.prefix_append _ _)
      simp only [strK] at hy
      have hrz := rest_size s p
      rw [rest_size] at q3
      clear hyz hge hpos hi q4
      gi_wp2_with (first
        | (refine ⟨trivial, fun h => (by cases h), ?_⟩; refine (callsIn_wide.2 HI.out).mono ?_; clear HI; rintro e w' ⟨rfl, rfl⟩)
        | (refine ⟨fun h => (by cases h), ?_⟩; refine hR.mono ?_; clear hR; rintro e W' h; rcases h with ⟨rfl, hJ', hk⟩ | ⟨rfl, hJx', hk⟩
           all_goals (try (have hs' := hspl.out.keep hk HXX.out.1 HXX.out.2.1 HXX.out.2.2; have d0 := hs'.c0; have d1 := hs'.c1; have df := hs'.f0; have HS' := Lib.hid hs'; clear hs'))))
      · have hs2 := HS'.out.set (rest s (p + i + 1))
        have hj2 := HJB.out _ _ _ (.string (rest s (p + i + 1))) HS'.out.t hJ'
        have HJ2 := Lib.hid hj2
        have HS2 := Lib.hid hs2
        have hm1 := leftS_of hspl.out.c0
        have hm2 := leftS_of hs2.c0
        clear hj2 hs2
        go_roundw
        case rel => exact ⟨p + i + 1, pre ++ [s.extract p (p + i)], q1, HYZ, HJ2, HS2⟩
        case measure => rw [hm1, hm2, rest_size, rest_size]; omega
      · refine bodyPost_ret (results_none rfl _ _ _) rfl ⟨⟨_, rfl⟩, .inr ⟨pre ++ [s.extract p (p + i)], ?_, hJx'⟩⟩
        rw [← HYZ.out]; exact List.prefix_append _ _
end

end Go.Proofs.YtdfanconjiiceaaDoor
