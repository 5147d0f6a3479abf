/- The machine that reads code, in memory: behind a term that is taken, one that is put, a loop that begins, one that ends. -/
import Derived.Test.YtdfanconjiiceaaDoorStk3
import Derived.Test.YtdfanconjiiceaaDoorTSignF
namespace Go.Proofs.YtdfanconjiiceaaDoor
open Go.RowKit

theorem All2.unsnoc {α β : Type} {R : α → β → Prop} : ∀ {l : List α} {a : α} {m : List β}, All2 R (l ++ [a]) m → ∃ m' b, m = m' ++ [b] ∧ All2 R l m' ∧ R a b
  | [], a, [b], ⟨h, _⟩ => ⟨[], b, rfl, trivial, h⟩
  | [], a, [], h => h.elim
  | [], a, _ :: _ :: _, ⟨_, h⟩ => h.elim
  | x :: l, a, [], h => h.elim
  | x :: l, a, y :: m, ⟨h1, h2⟩ => by
    obtain ⟨m', b, rfl, h3, h4⟩ := All2.unsnoc (l := l) h2
    exact ⟨y :: m', b, rfl, ⟨h1, h3⟩, h4⟩

/-- The blocks that a step may write: the reader's, rows of terms and of loops, loops. -/
def XT (T : TypeId) : Prop := T = 40 ∨ T = 117 ∨ T = 85 ∨ T = 105
def WX (n0 : Nat) (w : World) (k : Nat) : Prop := n0 ≤ k ∧ ∃ cs T fr, w.heap[k]? = some (.cells cs T fr) ∧ XT T
theorem chgX_trans {n0 : Nat} {a b c : World} (h : Chg (WX n0 a) a b) (k : Chg (WX n0 b) b c) : Chg (WX n0 a) a c :=
  ⟨k.os.trans h.os, k.tape.trans h.tape, k.output.trans h.output, Nat.le_trans h.size k.size, fun i hi hn => by
    have h1 := h.same i hi hn
    refine (k.same i (Nat.lt_of_lt_of_le hi h.size) (fun ⟨e1, cs, T, fr, e2, e3⟩ => hn ⟨e1, cs, T, fr, ?_, e3⟩)).trans h1
    rw [← h1]; exact e2⟩
theorem chgX_of {n0 : Nat} {wr : Nat → Prop} {a b : World} (h : Chg wr a b) (hw : ∀ k, k < a.heap.size → wr k → WX n0 a k) : Chg (WX n0 a) a b := h.mono hw
theorem chgX_grown {n0 : Nat} {a b : World} (h : a.grownBy b none) : Chg (WX n0 a) a b := Chg.grown h

theorem rs_not {w : World} {b : Nat} {v0 v1 : Value} (h : CR w b v0 v1) {L : List Nat} : ∀ k xs T fr, k ∉ L → NT T → w.heap[k]? = some (.cells xs T fr) → ¬ k = b := by
  intro k xs T fr _ hT hk e
  subst e
  unfold CR at h
  rw [h] at hk
  cases hk
  rcases hT with e | e | e <;> exact absurd e (by decide)
theorem row_not {w : World} {n0 n : Nat} {v : Value} {xs' : List Value} (h : w.ownsRow n0 40 1 v n xs') {k : Nat} {xs : Array Value} {T : TypeId} {fr : Nat × Nat} (hT : NT T) (hk : w.heap[k]? = some (.cells xs T fr)) : v.ownBlock ≠ some k :=
  own_not h hk (by rcases hT with e | e | e <;> rw [e] <;> decide)

/-- What the rows and loops outside of the innermost loop are: not the reader's block, not its row. -/
theorem outs_not {w : World} {n0 b : Nat} {m : MS} {v0 v1 : Value} {vs : List Value} {ps : List Pnd} (h : RS w n0 b m v0 v1 vs ps) : ∀ p ∈ ps, ¬ (p.blk = b ∨ v0.ownBlock = some p.blk) ∧ ∀ g, p.lv.ownBlock = some g → ¬ (g = b ∨ v0.ownBlock = some g) := by
  intro p hp
  obtain ⟨o, ho⟩ := h.outs.mem p hp
  refine ⟨?_, fun g hg => ?_⟩
  · rintro (e | e)
    · have h1 := ho.heap
      rw [e, h.box] at h1
      cases h1
    · exact row_not h.cur.1 (.inr (.inr rfl)) ho.heap e
  · rintro (e | e)
    · exact own_not ho.row.1 h.box (by decide) (e ▸ hg)
    · have := (List.pairwise_cons.1 h.apart).1 p.lv (List.mem_map.2 ⟨p, hp, rfl⟩)
      exact this g e hg

/-- A term is taken. -/
theorem rs_pop {w : World} {n0 b n c : Nat} {x : Tm} {ts : List Tm} {os : List Out} {A : Option Addr} {v1 : Value} {vs : List Value} {ps : List Pnd} (h : RS w n0 b (x :: ts, os) (.slice A (n + 1) c) v1 vs ps) :
    ∃ vs' xv, vs = vs' ++ [xv] ∧ vs'.length = n ∧ PT w (fun k => k ∉ ps.map Pnd.blk) x xv ∧ RS (w.setCell ⟨b, 0, none⟩ (.slice A n c)) n0 b (ts, os) (.slice A n c) v1 vs' ps := by
  have hall := h.cur.2
  rw [show ((x :: ts, os) : MS).1.reverse = ts.reverse ++ [x] by simp] at hall
  obtain ⟨vs', xv, rfl, h1, h2⟩ := hall.unsnoc
  have hlen : (vs' ++ [xv]).length = n + 1 := (own_len h.cur.1).symm
  have hl : vs'.length = n := by simpa using hlen
  have ho := h.cur.1
  rw [hlen] at ho
  have hcr : CR w b (.slice A (n + 1) c) v1 := h.box
  obtain ⟨q1, q2⟩ := popped hcr ho
  have hch : Chg (fun k => k = b) w (w.setCell ⟨b, 0, none⟩ (.slice A n c)) := Chg.row (gr_set w b 0 _) (fun k hk => by cases hk; rfl)
  have hnt := fun k xs T fr hk hT hh => rs_not hcr (L := ps.map Pnd.blk) k xs T fr hk hT hh
  refine ⟨vs', xv, rfl, hl, h2, h.base, q1, ⟨by rw [hl]; exact q2, ?_⟩, hch.own h.row (fun g hg e => own_not h.row h.box (by decide) (e ▸ hg)), OS.chg hch hnt (fun _ hb _ => hb) h.outs (fun p hp => ?_), h.nodup, ?_⟩
  · exact All2.mono (fun t v ht => PT.keepT (fun b' xs T fr hb hT hh => (hch.same b' (blk_lt hh) (hnt b' xs T fr hb hT hh)).trans hh) (fun _ hb _ => hb) t v ht) _ _ h1
  · have := outs_not h p hp
    exact ⟨fun e => this.1 (.inl e), fun g hg e => this.2 g hg (.inl e)⟩
  · have ha := h.apart
    rw [List.pairwise_cons] at ha ⊢
    exact ⟨fun v hv g hg => ha.1 v hv g (by cases A <;> exact hg), ha.2⟩

/-- A term is put. -/
theorem rs_push {w w' : World} {n0 b : Nat} {t : Tm} {ts : List Tm} {os : List Out} {v0 v1 u x : Value} {vs : List Value} {ps : List Pnd} (h : RS w n0 b (ts, os) v0 v1 vs ps) (ht : PT w (fun k => k ∉ ps.map Pnd.blk) t x)
    (hc : CR w' b u v1) (ho : w'.ownsRow n0 40 1 u (vs ++ [x]).length (vs ++ [x])) (hch : Chg (fun k => k = b ∨ v0.ownBlock = some k) w w') (hu : ∀ g, u.ownBlock = some g → v0.ownBlock = some g ∨ w.heap.size ≤ g) :
    RS w' n0 b (t :: ts, os) u v1 (vs ++ [x]) ps := by
  have hcr : CR w b v0 v1 := h.box
  have hnt : ∀ k xs T fr, k ∉ ps.map Pnd.blk → NT T → w.heap[k]? = some (.cells xs T fr) → ¬ (k = b ∨ v0.ownBlock = some k) := fun k xs T fr hk hT hh e =>
    e.elim (rs_not hcr k xs T fr hk hT hh) (row_not h.cur.1 hT hh)
  have hkp : ∀ t v, PT w (fun k => k ∉ ps.map Pnd.blk) t v → PT w' (fun k => k ∉ ps.map Pnd.blk) t v := fun t v ht => PT.keepT (fun b' xs T fr hb hT hh => (hch.same b' (blk_lt hh) (hnt b' xs T fr hb hT hh)).trans hh) (fun _ hb _ => hb) t v ht
  refine ⟨h.base, hc, ⟨ho, ?_⟩, hch.own h.row (fun g hg e => ?_), OS.chg hch hnt (fun _ hb _ => hb) h.outs (outs_not h), h.nodup, ?_⟩
  · show All2 _ (t :: ts).reverse _
    rw [List.reverse_cons]
    exact All2.snoc (hkp t x ht) _ _ (All2.mono hkp _ _ h.cur.2)
  · rcases e with e | e
    · exact own_not h.row h.box (by decide) (e ▸ hg)
    · obtain ⟨cs, hcs⟩ := own_heap h.row hg
      exact own_not h.cur.1 hcs (by decide) e
  · have ha := h.apart
    rw [List.pairwise_cons] at ha ⊢
    refine ⟨fun v hv g hg => ?_, ha.2⟩
    rcases hu g hg with e | e
    · exact ha.1 v hv g e
    · intro e2
      obtain ⟨p, hp, rfl⟩ := List.mem_map.1 hv
      obtain ⟨o, hoo⟩ := h.outs.mem p hp
      have := (hoo.row.1.lt g e2).2
      omega

end Go.Proofs.YtdfanconjiiceaaDoor
