/- How the machine that reads code lies in memory: a row of terms, a row of loops that have begun, and what is kept while some blocks are written. -/
import Derived.Test.YtdfanconjiiceaaDoorCode
import Derived.Test.YtdfanconjiiceaaDoorTmM
namespace Go.Proofs.YtdfanconjiiceaaDoor
open Go.RowKit

/-- A change of the memory that writes none but some blocks among those that lay there. -/
structure Chg (wr : Nat → Prop) (w w' : World) : Prop where
  os : w'.os = w.os
  tape : w'.tape = w.tape
  output : w'.output = w.output
  size : w.heap.size ≤ w'.heap.size
  same : ∀ k, k < w.heap.size → ¬ wr k → w'.heap[k]? = w.heap[k]?

theorem Chg.refl (wr : Nat → Prop) (w : World) : Chg wr w w := ⟨rfl, rfl, rfl, Nat.le_refl _, fun _ _ _ => rfl⟩
theorem Chg.grown {wr : Nat → Prop} {w w' : World} (h : w.grownBy w' none) : Chg wr w w' := ⟨h.os, h.tape, h.output, h.size, fun k hk _ => h.block k hk (by simp)⟩
theorem Chg.row {wr : Nat → Prop} {w w' : World} {row : Option Nat} (h : w.grownBy w' row) (hr : ∀ k, row = some k → wr k) : Chg wr w w' :=
  ⟨h.os, h.tape, h.output, h.size, fun k hk hn => h.block k hk (fun e => hn (hr k e.symm))⟩
theorem Chg.trans {wr wr1 wr2 : Nat → Prop} {a b c : World} (h : Chg wr1 a b) (k : Chg wr2 b c) (h1 : ∀ i, i < a.heap.size → wr1 i → wr i) (h2 : ∀ i, i < a.heap.size → wr2 i → wr i) : Chg wr a c :=
  ⟨k.os.trans h.os, k.tape.trans h.tape, k.output.trans h.output, Nat.le_trans h.size k.size, fun i hi hn =>
    (k.same i (Nat.lt_of_lt_of_le hi h.size) (fun e => hn (h2 i hi e))).trans (h.same i hi (fun e => hn (h1 i hi e)))⟩
theorem Chg.mono {wr wr1 : Nat → Prop} {a b : World} (h : Chg wr1 a b) (h1 : ∀ i, i < a.heap.size → wr1 i → wr i) : Chg wr a b := ⟨h.os, h.tape, h.output, h.size, fun i hi hn => h.same i hi (fun e => hn (h1 i hi e))⟩
theorem Chg.none {wr : Nat → Prop} {a b : World} (h : Chg wr a b) (h1 : ∀ i, i < a.heap.size → ¬ wr i) : a.grownBy b none := ⟨h.os, h.tape, h.output, h.size, fun i hi _ => h.same i hi (h1 i hi)⟩
theorem Chg.own {wr : Nat → Prop} {w w' : World} {base n size : Nat} {e : TypeId} {v : Value} {xs : List Value} (h : Chg wr w w') (ho : w.ownsRow base e size v n xs) (hn : ∀ g, v.ownBlock = some g → ¬ wr g) : w'.ownsRow base e size v n xs :=
  own_keep ho (fun g hg => h.same g (ho.lt g hg).2 (hn g hg))

/-- The types of the program's nodes of terms. -/
def NT (T : TypeId) : Prop := T = 98 ∨ T = 122 ∨ T = 105

theorem PT.keepT {w w' : World} {S S' : Nat → Prop} (hk : ∀ b xs T fr, S b → NT T → w.heap[b]? = some (.cells xs T fr) → w'.heap[b]? = some (.cells xs T fr)) (hs : ∀ b, S b → b < w.heap.size → S' b) : ∀ (t : Tm) (v : Value), PT w S t v → PT w' S' t v
  | .dig _, _, h => h
  | .var _, _, h => h
  | .pre _ s, _, ⟨b, x, hv, hb, hh, h1⟩ => ⟨b, x, hv, hs b hb (blk_lt hh), hk b _ _ _ hb (.inl rfl) hh, PT.keepT hk hs s x h1⟩
  | .two _ s t, _, ⟨b, x, y, hv, hb, hh, h1, h2⟩ => ⟨b, x, y, hv, hs b hb (blk_lt hh), hk b _ _ _ hb (.inr (.inl rfl)) hh, PT.keepT hk hs s x h1, PT.keepT hk hs t y h2⟩
  | .loop _ _ s t, _, ⟨b, x, y, hv, hb, hh, h1, h2⟩ => ⟨b, x, y, hv, hs b hb (blk_lt hh), hk b _ _ _ hb (.inr (.inr rfl)) hh, PT.keepT hk hs s x h1, PT.keepT hk hs t y h2⟩

/-- A loop that has begun: its block, what it is over, the row of the terms outside. -/
structure Pnd where
  blk : Nat
  x : Value
  lv : Value
  us : List Value
def Pnd.cells (p : Pnd) : List Value := [.pointer (some ⟨p.blk, 0, none⟩), p.lv]
def flatP : List Pnd → List Value
  | [] => []
  | p :: ps => flatP ps ++ p.cells
theorem flatP_length : ∀ ps, (flatP ps).length = ps.length * 2
  | [] => rfl
  | p :: ps => by simp [flatP, Pnd.cells, flatP_length ps]; omega

/-- The terms in a row (the last one first), in blocks that are none of some. -/
def TS (w : World) (n0 : Nat) (L : List Nat) (ts : List Tm) (v : Value) (vs : List Value) : Prop :=
  w.ownsRow n0 40 1 v vs.length vs ∧ All2 (PT w (fun k => k ∉ L)) ts.reverse vs

structure PndOk (w : World) (n0 : Nat) (L : List Nat) (o : Out) (p : Pnd) : Prop where
  base : n0 ≤ p.blk
  heap : w.heap[p.blk]? = some (.cells #[.int .u8 o.c, .int .u8 o.v, p.x, .nilIface] 105 (0, 0))
  over : PT w (fun k => k ∉ L) o.over p.x
  row : TS w n0 L o.low p.lv p.us

def OS (w : World) (n0 : Nat) (L : List Nat) : List Out → List Pnd → Prop
  | [], [] => True
  | o :: os, p :: ps => PndOk w n0 L o p ∧ OS w n0 L os ps
  | _, _ => False
theorem OS.len {w : World} {n0 : Nat} {L : List Nat} : ∀ {os ps}, OS w n0 L os ps → os.length = ps.length
  | [], [], _ => rfl
  | _ :: _, _ :: _, h => by simp [OS.len h.2]
  | [], _ :: _, h => h.elim
  | _ :: _, [], h => h.elim

/-- No two of the rows are one. -/
def Apart (a b : Value) : Prop := ∀ g, a.ownBlock = some g → b.ownBlock ≠ some g
theorem Apart.symm {a b : Value} (h : Apart a b) : Apart b a := fun g hg e => h g e hg

/-- The machine in memory: the reader's block b, its two rows. -/
structure RS (w : World) (n0 b : Nat) (m : MS) (v0 v1 : Value) (vs : List Value) (ps : List Pnd) : Prop where
  base : n0 ≤ b
  box : w.heap[b]? = some (.cells #[v0, v1] 85 (0, 0))
  cur : TS w n0 (ps.map Pnd.blk) m.1 v0 vs
  row : w.ownsRow n0 117 2 v1 ps.length (flatP ps)
  outs : OS w n0 (ps.map Pnd.blk) m.2 ps
  nodup : (ps.map Pnd.blk).Nodup
  apart : (v0 :: ps.map Pnd.lv).Pairwise Apart

/-- An own block lies there with its element's type. -/
theorem own_heap {w : World} {base n size : Nat} {e : TypeId} {v : Value} {xs : List Value} (h : w.ownsRow base e size v n xs) {g : Nat} (hg : v.ownBlock = some g) : ∃ cs, w.heap[g]? = some (.cells cs e (0, 0)) := by
  rcases h.2 with ⟨rfl, _⟩ | ⟨b, cap, cur, rfl, _, hb, _⟩
  · simp [Value.ownBlock] at hg
  · simp only [Value.ownBlock, Option.some.injEq] at hg
    subst hg
    exact ⟨_, hb⟩
theorem own_not {w : World} {base n size : Nat} {e T : TypeId} {v : Value} {xs : List Value} {cs : Array Value} {fr : Nat × Nat} {k : Nat} (h : w.ownsRow base e size v n xs) (hk : w.heap[k]? = some (.cells cs T fr)) (ht : T ≠ e) : v.ownBlock ≠ some k := fun e' => by
  obtain ⟨cs', h'⟩ := own_heap h e'
  rw [hk] at h'
  cases h'
  exact ht rfl

/-- A row, cut short at its end: the same block. -/
theorem own_short {w : World} {base size n m c : Nat} {e : TypeId} {A : Option Addr} {xs ys : List Value} (h : w.ownsRow base e size (.slice A n c) n (xs ++ ys)) (hm : m ≤ n) (hl : xs.length = m * size) : w.ownsRow base e size (.slice A m c) m xs := by
  refine ⟨hl, ?_⟩
  rcases h.2 with ⟨hv, hn⟩ | ⟨g, cap, cur, hv, hb, hg, hnc, hcm, hcs, htake⟩
  · cases hv
    exact .inl ⟨by rw [show m = 0 by omega], by omega⟩
  · cases hv
    refine .inr ⟨g, c, cur, rfl, hb, hg, by omega, hcm, hcs, ?_⟩
    have h1 : (cur.toList.take (n * size)).take (m * size) = xs := by rw [htake, ← hl, List.take_left]
    rwa [List.take_take, Nat.min_eq_left (Nat.mul_le_mul_right _ hm)] at h1

theorem TS.chg {w w' : World} {n0 : Nat} {L L' : List Nat} {ts : List Tm} {v : Value} {vs : List Value} {wr : Nat → Prop} (h : TS w n0 L ts v vs) (hc : Chg wr w w') (hv : ∀ g, v.ownBlock = some g → ¬ wr g)
    (hk : ∀ b xs T fr, b ∉ L → NT T → w.heap[b]? = some (.cells xs T fr) → ¬ wr b) (hL : ∀ b, b ∉ L → b < w.heap.size → b ∉ L') : TS w' n0 L' ts v vs :=
  ⟨hc.own h.1 hv, All2.mono (fun t v ht => PT.keepT (fun b xs T fr hb hT hh => (hc.same b (blk_lt hh) (hk b xs T fr hb hT hh)).trans hh) hL t v ht) _ _ h.2⟩

theorem OS.chg {w w' : World} {n0 : Nat} {L L' : List Nat} {wr : Nat → Prop} (hc : Chg wr w w') (hk : ∀ b xs T fr, b ∉ L → NT T → w.heap[b]? = some (.cells xs T fr) → ¬ wr b) (hL : ∀ b, b ∉ L → b < w.heap.size → b ∉ L') :
    ∀ {os : List Out} {ps : List Pnd}, OS w n0 L os ps → (∀ p ∈ ps, ¬ wr p.blk ∧ ∀ g, p.lv.ownBlock = some g → ¬ wr g) → OS w' n0 L' os ps
  | [], [], _, _ => trivial
  | o :: os, p :: ps, ⟨h1, h2⟩, hp => by
    simp only [List.mem_cons, forall_eq_or_imp] at hp
    exact ⟨⟨h1.base, (hc.same _ (blk_lt h1.heap) hp.1.1).trans h1.heap, PT.keepT (fun b xs T fr hb hT hh => (hc.same b (blk_lt hh) (hk b xs T fr hb hT hh)).trans hh) hL _ _ h1.over, h1.row.chg hc hp.1.2 hk hL⟩,
      OS.chg hc hk hL h2 hp.2⟩
  | [], _ :: _, h, _ => h.elim
  | _ :: _, [], h, _ => h.elim

theorem OS.mem {w : World} {n0 : Nat} {L : List Nat} : ∀ {os : List Out} {ps : List Pnd}, OS w n0 L os ps → ∀ p ∈ ps, ∃ o, PndOk w n0 L o p
  | [], [], _, _, h => by cases h
  | o :: os, p :: ps, ⟨h1, h2⟩, q, hq => by
    rcases List.mem_cons.1 hq with rfl | hq
    · exact ⟨o, h1⟩
    · exact OS.mem h2 q hq
  | [], _ :: _, h, _, _ => h.elim
  | _ :: _, [], h, _, _ => h.elim

/-- The machine stays while other blocks are written. -/
theorem RS.chg {w w' : World} {n0 b : Nat} {m : MS} {v0 v1 : Value} {vs : List Value} {ps : List Pnd} {wr : Nat → Prop} (h : RS w n0 b m v0 v1 vs ps) (hc : Chg wr w w') (hw : ∀ k, n0 ≤ k → k < w.heap.size → ¬ wr k)
    (hk : ∀ b xs T fr, b ∉ ps.map Pnd.blk → NT T → w.heap[b]? = some (.cells xs T fr) → ¬ wr b) : RS w' n0 b m v0 v1 vs ps := by
  have hlt := blk_lt h.box
  refine ⟨h.base, (hc.same b hlt (hw b h.base hlt)).trans h.box, h.cur.chg hc (fun g hg => hw g (h.cur.1.lt g hg).1 (h.cur.1.lt g hg).2) hk (fun _ hb _ => hb), hc.own h.row (fun g hg => hw g (h.row.lt g hg).1 (h.row.lt g hg).2),
    h.outs.chg hc hk (fun _ hb _ => hb) (fun p hp => ?_), h.nodup, h.apart⟩
  obtain ⟨o, ho⟩ := h.outs.mem p hp
  exact ⟨hw _ ho.base (blk_lt ho.heap), fun g hg => hw g (ho.row.1.lt g hg).1 (ho.row.1.lt g hg).2⟩
theorem RS.grown {w w' : World} {n0 b : Nat} {m : MS} {v0 v1 : Value} {vs : List Value} {ps : List Pnd} (h : RS w n0 b m v0 v1 vs ps) (hg : w.grownBy w' none) : RS w' n0 b m v0 v1 vs ps :=
  h.chg (wr := fun _ => False) (Chg.grown hg) (fun _ _ _ => id) (fun _ _ _ _ _ _ _ => id)

end Go.Proofs.YtdfanconjiiceaaDoor
