/- The loop over the parts of an array that is read: what holds at each round's head, and how a round goes on. No walk. -/
import Derived.Test.YtachjodnhgmoiaaRep
namespace Go.Proofs.Ytachjodnhgmoiaa
open Go.RowKit

/-- How readParts ends. -/
def PartsPost (s : ByteArray) (d p g : Nat) (w : World) (e : Ending) (w' : World) : Prop :=
  w.grownBy w' (some g) ∧ ((∃ ts q sv xs, parts s (node s d) p = some (ts, q) ∧ e = .returned sv ∧ Rdr w' g s q ∧
    w'.ownsRow w.heap.size (elT d) 1 sv xs.length xs ∧ All2 (Nd w' (fun b => w.heap.size ≤ b) d) ts xs) ∨ (parts s (node s d) p = none ∧ Fell e))

/-- How a part's reading ends. -/
def ElPost (s : ByteArray) (d p g : Nat) (w : World) (e : Ending) (w' : World) : Prop :=
  w.grownBy w' (some g) ∧ ((∃ t q v, node s d p = some (t, q) ∧ e = .returned v ∧ Rdr w' g s q ∧ Nd w' (fun b => w.heap.size ≤ b) d t v) ∨ (node s d p = none ∧ Fell e))

def cons' {α : Type} (ts : List α) : Option (List α × Nat) → Option (List α × Nat)
  | none => none
  | some (xs, r) => some (ts ++ xs, r)

/-- The place of the reader, out of the world: a loop's measure. -/
def plc (w : World) (g : Nat) : Nat := match w.cell? ⟨g, 1, none⟩ with
  | some v => (intOf v).toNat
  | none => 0
theorem plc_eq {w : World} {g p : Nat} {s : ByteArray} (h : Rdr w g s p) : plc w g = p := by
  unfold plc; rw [h.c1]; simp [intOf]
theorem plc_drewN (w : World) (g n : Nat) : plc (w.drewN n) g = plc w g := rfl

/-- What holds at the head of each round. -/
structure Lf (s : ByteArray) (d g : Nat) (w wr : World) (sv : Value) (ts : List (T d)) (xs : List Value) (q : Nat) : Prop where
  le : q ≤ s.size
  rdr : Rdr wr g s q
  gr : w.grownBy wr (some g)
  own : wr.ownsRow w.heap.size (elT d) 1 sv xs.length xs
  len : xs.length ≤ q
  all : All2 (Nd wr (fun b => w.heap.size ≤ b ∧ sv.ownBlock ≠ some b) d) ts xs

structure Lp (s : ByteArray) (d p g : Nat) (w wr : World) (sv : Value) (ts : List (T d)) (xs : List Value) (f q : Nat) : Prop where
  fuel : s.size < f + q
  com : parts s (node s d) p = cons' ts (more s (node s d) f q)
  lf : Lf s d g w wr sv ts xs q

section
variable {s : ByteArray} {d p g : Nat} {w wr : World} {sv : Value} {ts : List (T d)} {xs : List Value} {f q : Nat}

theorem Lp.pos (h : Lp s d p g w wr sv ts xs f q) : ∃ f', f = f' + 1 := by
  have := h.fuel; have := h.lf.le
  exact ⟨f - 1, by omega⟩

theorem Lp.exit (h : Lp s d p g w wr sv ts xs f q) (hc : ba s q = 93) : parts s (node s d) p = some (ts, q + 1) := by
  obtain ⟨f', rfl⟩ := h.pos
  rw [h.com, more, if_pos hc]
  simp [cons']
theorem Lp.stop1 (h : Lp s d p g w wr sv ts xs f q) (hc : ba s q ≠ 93) (h2 : ba s q ≠ 44) : parts s (node s d) p = none := by
  obtain ⟨f', rfl⟩ := h.pos
  rw [h.com, more, if_neg hc, if_neg h2]
  rfl
theorem Lp.stop2 (h : Lp s d p g w wr sv ts xs f q) (hc : ba s q ≠ 93) (h2 : ba s q = 44) (h3 : node s d (q + 1) = none) : parts s (node s d) p = none := by
  obtain ⟨f', rfl⟩ := h.pos
  rw [h.com, more, if_neg hc, if_pos h2, h3]
  rfl
theorem Lp.next (h : Lp s d p g w wr sv ts xs f q) (hc : ba s q ≠ 93) (h2 : ba s q = 44) {t : T d} {q2 : Nat} (h3 : node s d (q + 1) = some (t, q2)) :
    ∃ f', s.size < f' + q2 ∧ q2 ≤ s.size ∧ q + 1 < q2 ∧ parts s (node s d) p = cons' (ts ++ [t]) (more s (node s d) f' q2) := by
  obtain ⟨f', rfl⟩ := h.pos
  have hg := node_ge s d _ _ _ h3
  have := h.fuel
  refine ⟨f', by omega, hg.2, hg.1, ?_⟩
  rw [h.com, more, if_neg hc, if_pos h2, h3]
  simp only
  cases hm : more s (node s d) f' q2 with
  | none => rfl
  | some r => simp [cons']

/-- A part more: the element was read (world we), laid in a box of its own, and appended (world w2). -/
theorem Lf.step (h : Lf s d g w wr sv ts xs q) {t : T d} {v : Value} {we w2 : World} {q2 : Nat} {sv2 : Value} {o : Obj}
    (hq : q < q2) (hle : q2 ≤ s.size)
    (hge : wr.grownBy we (some g)) (hrd : Rdr we g s q2) (hnd : Nd we (fun b => wr.heap.size ≤ b) d t v)
    (hown : w2.ownsRow w.heap.size (elT d) 1 sv2 (xs.length + 1) (xs ++ [v])) (hg2 : (we.alloc o).grownBy w2 sv.ownBlock)
    (hat : sv2.ownBlock = sv.ownBlock ∨ sv2.ownBlock = some (we.heap.size + 1)) (hgw : g < w.heap.size) :
    Lf s d g w w2 sv2 (ts ++ [t]) (xs ++ [v]) q2 := by
  have hsz : (we.alloc o).heap.size = we.heap.size + 1 := by simp
  have hsw := h.gr.size
  have hse := hge.size
  have hlt := h.own.lt
  have hga : we.grownBy (we.alloc o) (some g) := World.grownBy_alloc _ _ _
  have hsv : ∀ k, sv.ownBlock = some k → w.heap.size ≤ k ∧ k < wr.heap.size := hlt
  refine ⟨hle, ?_, ?_, ?_, ?_, ?_⟩
  · refine (hrd.alloc o).grown hg2 ?_
    intro e
    have := hsv g e.symm
    omega
  · have h1 := h.gr.trans (hge.trans hga)
    refine ⟨hg2.os.trans h1.os, hg2.tape.trans h1.tape, hg2.output.trans h1.output, Nat.le_trans h1.size hg2.size, fun k hk hne => ?_⟩
    exact (hg2.block k (Nat.lt_of_lt_of_le hk h1.size) (fun e => by have := hsv k e.symm; omega)).trans (h1.block k hk hne)
  · simpa using hown
  · simp; have := h.len; omega
  · have hkeep : ∀ b, (w.heap.size ≤ b ∧ sv.ownBlock ≠ some b) → b < wr.heap.size → w2.heap[b]? = wr.heap[b]? := by
      rintro b ⟨hb1, hb2⟩ hb
      rw [hg2.block b (by omega) (fun e => hb2 e.symm), hga.block b (by omega) (by simp; omega), hge.block b hb (by simp; omega)]
    have hne : ∀ b, w.heap.size ≤ b → sv.ownBlock ≠ some b → b < we.heap.size → sv2.ownBlock ≠ some b := by
      intro b hb hb2 hb3 e
      rcases hat with e2 | e2
      · exact hb2 (e2 ▸ e)
      · rw [e2] at e
        simp only [Option.some.injEq] at e
        omega
    refine All2.snoc ?_ ts xs ?_
    · refine Nd.keep ?_ ?_ d t v hnd
      · intro b hb hb2
        rw [hg2.block b (by omega) (fun e => by have := hsv b e.symm; omega), hga.block b (by omega) (by simp; omega)]
      · intro b hb hb2
        exact ⟨by omega, hne b (by omega) (fun e => by have := hsv b e; omega) hb2⟩
    · exact All2.mono (Nd.keep hkeep (fun b hb hb2 => ⟨hb.1, hne b hb.1 hb.2 (by omega)⟩) d) ts xs h.all

theorem Lf.drewN (h : Lf s d g w wr sv ts xs q) (n : Nat) : Lf s d g w (wr.drewN n) sv ts xs q :=
  ⟨h.le, h.rdr.drewN n, h.gr.trans (gr_drewN _ _ _), own_keep h.own (fun _ _ => rfl), h.len, All2.mono (Nd.keep (w := wr) (w' := wr.drewN n) (fun _ _ _ => rfl) (fun _ hb _ => hb) d) ts xs h.all⟩
/-- The reader alone has gone on. -/
theorem Lf.reader (h : Lf s d g w wr sv ts xs q) {w2 : World} {q2 : Nat} (hg : wr.grownBy w2 (some g)) (hr : Rdr w2 g s q2) (hq : q ≤ q2) (hle : q2 ≤ s.size) (hgw : g < w.heap.size) : Lf s d g w w2 sv ts xs q2 := by
  have hb : ∀ b, w.heap.size ≤ b → b < wr.heap.size → w2.heap[b]? = wr.heap[b]? := fun b hb hb2 => hg.block b hb2 (by simp; omega)
  have hl := h.own.lt
  exact ⟨hle, hr, h.gr.trans hg, own_keep h.own (fun k hk => hb k (hl k hk).1 (hl k hk).2), by have := h.len; omega,
    All2.mono (Nd.keep (fun b hb1 hb2 => hb b hb1.1 hb2) (fun _ hb _ => hb) d) ts xs h.all⟩
/-- The row with its parts, when all are read. -/
theorem Lf.done (h : Lf s d g w wr sv ts xs q) : wr.ownsRow w.heap.size (elT d) 1 sv xs.length xs ∧ All2 (Nd wr (fun b => w.heap.size ≤ b) d) ts xs :=
  ⟨h.own, All2.mono (Nd.keep (fun _ _ _ => rfl) (fun _ hb _ => hb.1) d) ts xs h.all⟩
theorem Lf.start {w wa : World} (hr : Rdr wa g s q) (hg : w.grownBy wa (some g)) (hq : q ≤ s.size) : Lf s d g w wa (.slice none 0 0) [] [] q :=
  ⟨hq, hr, hg, World.ownsRow_nil _ _ _ _, Nat.zero_le _, trivial⟩
end

end Go.Proofs.Ytachjodnhgmoiaa
