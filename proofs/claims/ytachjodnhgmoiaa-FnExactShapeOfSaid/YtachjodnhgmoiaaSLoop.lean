/- The model's loop over the parts of an array: what holds at each round's head, and how a round goes on. No walk. -/
import Derived.Test.YtachjodnhgmoiaaSNode
import Derived.Test.YtachjodnhgmoiaaLoop
namespace Go.Proofs.Ytachjodnhgmoiaa
open Go.RowKit

/-- What holds of the memory while node gathers parts. -/
structure SLf (s : ByteArray) (g : Nat) (w wr : World) (sv : Value) (xs : List (Int × Value)) (q : Nat) (bad : Bool) : Prop where
  rdr : SRdr wr g s q bad
  gr : w.grownBy wr (some g)
  size : w.heap.size + 3 ≤ wr.heap.size
  res : Two wr w.heap.size (.int .i64 0) (.slice none 0 0)
  out : Two wr (w.heap.size + 1 + 1) (.int .i64 0) sv
  own : wr.ownsRow w.heap.size 52 2 sv xs.length (flat2 xs)
  ne0 : sv.ownBlock ≠ some w.heap.size
  ne2 : sv.ownBlock ≠ some (w.heap.size + 1 + 1)

/-- Nothing is wrong so far. -/
structure SLg (s : ByteArray) (d p g : Nat) (w wr : World) (sv : Value) (ts : List (T d)) (xs : List (Int × Value)) (f q : Nat) : Prop where
  lf : SLf s g w wr sv xs q false
  le : q ≤ s.size
  fuel : s.size < f + q
  com : parts s (node s d) p = cons' ts (more s (node s d) f q)
  len : xs.length ≤ q
  all : All2 (SNd wr (fun b => w.heap.size + 3 ≤ b ∧ sv.ownBlock ≠ some b) d) ts xs

def SLoop (s : ByteArray) (d p g : Nat) (w wr : World) (sv : Value) (xs : List (Int × Value)) (q : Nat) (bad : Bool) : Prop :=
  SLf s g w wr sv xs q bad ∧ ((bad = false ∧ ∃ ts f, SLg s d p g w wr sv ts xs f q) ∨ (bad = true ∧ parts s (node s d) p = none))

/-- A loop's measure, out of the world. -/
def mS (N : Nat) (w : World) (g : Nat) : Nat := match w.cell? ⟨g, 2, none⟩ with
  | some (.bool true) => 0
  | _ => N + 1 - plcS w g
theorem mS_bad {N : Nat} {w : World} {g p : Nat} {s : ByteArray} (h : SRdr w g s p true) : mS N w g = 0 := by unfold mS; rw [h.c2]
theorem mS_good {N : Nat} {w : World} {g p : Nat} {s : ByteArray} (h : SRdr w g s p false) : mS N w g = N + 1 - p := by unfold mS; rw [h.c2, plc_eqS h]

section
variable {s : ByteArray} {d p g : Nat} {w wr : World} {sv : Value} {ts : List (T d)} {xs : List (Int × Value)} {f q : Nat} {bad : Bool}

theorem SLf.drewN (h : SLf s g w wr sv xs q bad) (n : Nat) : SLf s g w (wr.drewN n) sv xs q bad :=
  ⟨h.rdr.drewN n, h.gr.trans (gr_drewN _ _ _), h.size, h.res.drewN n, h.out.drewN n, own_keep h.own (fun _ _ => rfl), h.ne0, h.ne2⟩
/-- The reader alone has gone on. -/
theorem SLf.reader (h : SLf s g w wr sv xs q bad) {w2 : World} {q2 : Nat} {b2 : Bool} (hg : wr.grownBy w2 (some g)) (hr : SRdr w2 g s q2 b2) (hgw : g < w.heap.size) : SLf s g w w2 sv xs q2 b2 := by
  have hb : ∀ b, w.heap.size ≤ b → b < wr.heap.size → w2.heap[b]? = wr.heap[b]? := fun b hb hb2 => hg.block b hb2 (by simp; omega)
  have hl := h.own.lt
  have hsz := hg.size
  have := h.size
  exact ⟨hr, h.gr.trans hg, by omega, h.res.grown hg (by simp; omega), h.out.grown hg (by simp; omega), own_keep h.own (fun k hk => hb k (hl k hk).1 (hl k hk).2), h.ne0, h.ne2⟩

/-- A part more: the element was read (world we), laid in a box, appended (world w2), and the variable written. -/
theorem SLf.step (h : SLf s g w wr sv xs q false) {m : Int} {v : Value} {we w2 : World} {q2 : Nat} {b2 : Bool} {gg cap : Nat} {o : Obj}
    (hge : wr.grownBy we (some g)) (hrd : SRdr we g s q2 b2)
    (hown : w2.ownsRow w.heap.size 52 2 (.slice (some ⟨gg, 0, none⟩) (xs.length + 1) cap) (xs.length + 1) (flat2 xs ++ [.int .i64 m, v])) (hg2 : (we.alloc o).grownBy w2 sv.ownBlock)
    (hat : sv.ownBlock = some gg ∨ gg = we.heap.size + 1) (hgw : g < w.heap.size) :
    SLf s g w (w2.setCell ⟨w.heap.size + 1 + 1, 1, none⟩ (.slice (some ⟨gg, 0, none⟩) (xs.length + 1) cap)) (.slice (some ⟨gg, 0, none⟩) (xs.length + 1) cap) (xs ++ [(m, v)]) q2 b2 := by
  have hsz : (we.alloc o).heap.size = we.heap.size + 1 := by simp
  have hsw := h.gr.size
  have hse := hge.size
  have hs2 := hg2.size
  have hs3 := h.size
  have hlt := h.own.lt
  have hga : we.grownBy (we.alloc o) (some g) := World.grownBy_alloc _ _ _
  have hgg : gg ≠ w.heap.size ∧ gg ≠ w.heap.size + 1 + 1 ∧ w.heap.size ≤ gg := by
    rcases hat with e | e
    · exact ⟨fun e2 => h.ne0 (by rw [e, e2]), fun e2 => h.ne2 (by rw [e, e2]), (hlt gg e).1⟩
    · exact ⟨by omega, by omega, by omega⟩
  have h1 := h.gr.trans (hge.trans hga)
  have hg3 : w.grownBy w2 (some g) := ⟨hg2.os.trans h1.os, hg2.tape.trans h1.tape, hg2.output.trans h1.output, Nat.le_trans h1.size hg2.size, fun k hk hne =>
    (hg2.block k (Nat.lt_of_lt_of_le hk h1.size) (fun e => by have := (hlt k e.symm).1; omega)).trans (h1.block k hk hne)⟩
  refine ⟨?_, gr_set_row hg3 (by omega) _, by have := (gr_set w2 (w.heap.size + 1 + 1) 1 (.slice (some ⟨gg, 0, none⟩) (xs.length + 1) cap)).size; omega, ?_, ?_, ?_, ?_, ?_⟩
  · exact ((hrd.alloc o).grown hg2 (fun e => by have := (hlt g e.symm).1; omega)).far (by omega) _
  · exact (((h.res.grown hge (by simp; omega)).alloc o).grown hg2 (fun e => h.ne0 e.symm)).far (by omega) _
  · exact (((h.out.grown hge (by simp; omega)).alloc o).grown hg2 (fun e => h.ne2 e.symm)).set1 _
  · rw [flat2_snoc, List.length_append]
    exact own_keep hown (fun k hk => Below.heap_setCell _ _ _ _ (by simp [Value.ownBlock] at hk; subst hk; exact hgg.2.1))
  · simpa [Value.ownBlock] using hgg.1
  · simpa [Value.ownBlock] using hgg.2.1

theorem SLf.step_all (h : SLf s g w wr sv xs q false) (hall : All2 (SNd wr (fun b => w.heap.size + 3 ≤ b ∧ sv.ownBlock ≠ some b) d) ts xs) {m : Int} {v : Value} {t : T d} {we w2 : World} {gg cap : Nat} {o : Obj}
    (hge : wr.grownBy we (some g)) (hnd : SNd we (fun b => wr.heap.size ≤ b) d t (m, v)) (hg2 : (we.alloc o).grownBy w2 sv.ownBlock)
    (hat : sv.ownBlock = some gg ∨ gg = we.heap.size + 1) (hgw : g < w.heap.size) :
    All2 (SNd (w2.setCell ⟨w.heap.size + 1 + 1, 1, none⟩ (.slice (some ⟨gg, 0, none⟩) (xs.length + 1) cap)) (fun b => w.heap.size + 3 ≤ b ∧ (Value.slice (some ⟨gg, 0, none⟩) (xs.length + 1) cap).ownBlock ≠ some b) d) (ts ++ [t]) (xs ++ [(m, v)]) := by
  have hsz : (we.alloc o).heap.size = we.heap.size + 1 := by simp
  have hsw := h.gr.size
  have hse := hge.size
  have hs3 := h.size
  have hlt := h.own.lt
  have hga : we.grownBy (we.alloc o) (some g) := World.grownBy_alloc _ _ _
  have hne : ∀ b, sv.ownBlock ≠ some b → b < we.heap.size → (Value.slice (some ⟨gg, 0, none⟩) (xs.length + 1) cap).ownBlock ≠ some b := by
    intro b hb hb2 e
    simp only [Value.ownBlock, Option.some.injEq] at e
    rcases hat with e2 | e2
    · exact hb (e2.trans (by rw [e]))
    · omega
  have hset : ∀ b, w.heap.size + 3 ≤ b → (w2.setCell ⟨w.heap.size + 1 + 1, 1, none⟩ (.slice (some ⟨gg, 0, none⟩) (xs.length + 1) cap)).heap[b]? = w2.heap[b]? := fun b hb => Below.heap_setCell _ _ _ _ (by show b ≠ w.heap.size + 1 + 1; omega)
  refine All2.snoc ?_ ts xs ?_
  · refine SNd.keep ?_ ?_ d t (m, v) hnd
    · intro b hb hb2
      rw [hset b (by omega), hg2.block b (by omega) (fun e => by have := (hlt b e.symm).2; omega), hga.block b (by omega) (by simp; omega)]
    · intro b hb hb2
      exact ⟨by omega, hne b (fun e => by have := (hlt b e).2; omega) hb2⟩
  · refine All2.mono (SNd.keep ?_ ?_ d) ts xs hall
    · rintro b ⟨hb1, hb2⟩ hb
      rw [hset b hb1, hg2.block b (by omega) (fun e => hb2 e.symm), hga.block b (by omega) (by simp; omega), hge.block b hb (by simp; omega)]
    · rintro b ⟨hb1, hb2⟩ hb
      exact ⟨hb1, hne b hb2 (by omega)⟩

/-- Behind a part that was read and appended: the next head, good or bad. com: what the parts come to if the part is there; bad: if not. -/
theorem sloop_step (h : SLf s g w wr sv xs q false) (hall : All2 (SNd wr (fun b => w.heap.size + 3 ≤ b ∧ sv.ownBlock ≠ some b) d) ts xs) {pe : Nat} {m : Int} {v : Value} {we w2 : World} {gg cap : Nat} {o : Obj}
    (hlen : xs.length < pe)
    (hgood : ∀ t q2, node s d pe = some (t, q2) → ∃ f', s.size < f' + q2 ∧ parts s (node s d) p = cons' (ts ++ [t]) (more s (node s d) f' q2)) (hbad : node s d pe = none → parts s (node s d) p = none)
    (hge : wr.grownBy we (some g)) (hcase : (∃ t q2, node s d pe = some (t, q2) ∧ SRdr we g s q2 false ∧ SNd we (fun b => wr.heap.size ≤ b) d t (m, v)) ∨ (node s d pe = none ∧ ∃ q2, SRdr we g s q2 true))
    (hown : w2.ownsRow w.heap.size 52 2 (.slice (some ⟨gg, 0, none⟩) (xs.length + 1) cap) (xs.length + 1) (flat2 xs ++ [.int .i64 m, v])) (hg2 : (we.alloc o).grownBy w2 sv.ownBlock)
    (hat : sv.ownBlock = some gg ∨ gg = we.heap.size + 1) (hgw : g < w.heap.size) :
    ∃ q2 b2, SLoop s d p g w (w2.setCell ⟨w.heap.size + 1 + 1, 1, none⟩ (.slice (some ⟨gg, 0, none⟩) (xs.length + 1) cap)) (.slice (some ⟨gg, 0, none⟩) (xs.length + 1) cap) (xs ++ [(m, v)]) q2 b2 ∧ (b2 = false → pe < q2 ∧ q2 ≤ s.size) := by
  rcases hcase with ⟨t, q2, hn, hr, hnd⟩ | ⟨hn, q2, hr⟩
  · obtain ⟨f', hf, hcom⟩ := hgood t q2 hn
    have hq := node_ge s d _ _ _ hn
    have hl := h.step hge hr hown hg2 hat hgw
    exact ⟨q2, false, ⟨hl, .inl ⟨rfl, ts ++ [t], f', ⟨hl, hq.2, hf, hcom, by rw [List.length_append]; simp; omega, h.step_all hall hge hnd hg2 hat hgw⟩⟩⟩, fun _ => hq⟩
  · exact ⟨q2, true, ⟨h.step hge hr hown hg2 hat hgw, .inr ⟨rfl, hbad hn⟩⟩, fun e => by cases e⟩
theorem SLf.laid (h : SLf s g w wr sv xs q bad) {w2 : World} {q2 : Nat} {b2 : Bool} (hg : wr.grownBy w2 (some g)) (hr : SRdr w2 g s q2 b2) (hgw : g < w.heap.size) :
    w.grownBy (laidOut' w w2 sv) (some g) ∧ SRdr (laidOut' w w2 sv) g s q2 b2 :=
  ⟨gr_set_row (gr_set_row (h.gr.trans hg) (Nat.le_refl _) _) (Nat.le_refl _) _, (hr.far (by omega) _).far (by omega) _⟩
theorem SLf.end_bad (h : SLf s g w wr sv xs q bad) (hn : parts s (node s d) p = none) {w2 : World} {q2 : Nat} (hg : wr.grownBy w2 (some g)) (hr : SRdr w2 g s q2 true) (hgw : g < w.heap.size) :
    SArrPost s (d + 1) p g w (.returned (.agg #[.int .i64 0, sv])) (laidOut' w w2 sv) := by
  obtain ⟨h1, h2⟩ := h.laid hg hr hgw
  exact ⟨h1, 0, sv, rfl, own_form h.own, .inr ⟨hn, q2, h2⟩⟩
theorem SLg.end_good (h : SLg s d p g w wr sv ts xs f q) (hc : ba s q = 93) {w2 : World} (hg : wr.grownBy w2 (some g)) (hr : SRdr w2 g s (q + 1) false) (hgw : g < w.heap.size) :
    SArrPost s (d + 1) p g w (.returned (.agg #[.int .i64 0, sv])) (laidOut' w w2 sv) := by
  obtain ⟨h1, h2⟩ := h.lf.laid hg hr hgw
  have hcom : parts s (node s d) p = some (ts, q + 1) := by
    obtain ⟨f', rfl⟩ : ∃ f', f = f' + 1 := ⟨f - 1, by have := h.fuel; have := h.le; omega⟩
    rw [h.com, more, if_pos hc]
    simp [cons']
  have hl := h.lf.own.lt
  have hsz := hg.size
  have hkeep : ∀ b, w.heap.size < b → b < wr.heap.size → (laidOut' w w2 sv).heap[b]? = wr.heap[b]? := fun b hb hb2 =>
    (laid_heap w w2 sv b (by omega)).trans (hg.block b hb2 (by simp; omega))
  have hrow : ∀ k, sv.ownBlock = some k → w.heap.size < k := fun k hk => by
    have := (hl k hk).1
    have : k ≠ w.heap.size := fun e => h.lf.ne0 (by rw [hk, e])
    omega
  refine ⟨h1, 0, sv, rfl, own_form h.lf.own, .inl ⟨ts, q + 1, hcom, h2, xs, own_base (own_keep h.lf.own (fun k hk => hkeep k (hrow k hk) (hl k hk).2)) (Nat.zero_le _), fun k hk => (hl k hk).1, ?_⟩⟩
  exact All2.mono (SNd.keep (fun b hb hb2 => hkeep b (by omega) hb2) (fun b hb _ => by omega) d) ts xs h.all
theorem SLg.stop (h : SLg s d p g w wr sv ts xs f q) (hc : ba s q ≠ 93) (h2 : ba s q ≠ 44) : parts s (node s d) p = none := by
  obtain ⟨f', rfl⟩ : ∃ f', f = f' + 1 := ⟨f - 1, by have := h.fuel; have := h.le; omega⟩
  rw [h.com, more, if_neg hc, if_neg h2]
  rfl
theorem SLg.goes (h : SLg s d p g w wr sv ts xs f q) (h2 : ba s q = 44) :
    (∀ t q2, node s d (q + 1) = some (t, q2) → ∃ f', s.size < f' + q2 ∧ parts s (node s d) p = cons' (ts ++ [t]) (more s (node s d) f' q2)) ∧ (node s d (q + 1) = none → parts s (node s d) p = none) := by
  obtain ⟨f', rfl⟩ : ∃ f', f = f' + 1 := ⟨f - 1, by have := h.fuel; have := h.le; omega⟩
  constructor
  · intro t q2 hn
    have hg := node_ge s d _ _ _ hn
    have := h.fuel
    refine ⟨f', by omega, ?_⟩
    rw [h.com, more, if_neg (by omega), if_pos h2, hn]
    simp only
    cases hm : more s (node s d) f' q2 with
    | none => rfl
    | some r => simp [cons']
  · intro hn
    rw [h.com, more, if_neg (by omega), if_pos h2, hn]
    rfl
end

end Go.Proofs.Ytachjodnhgmoiaa
