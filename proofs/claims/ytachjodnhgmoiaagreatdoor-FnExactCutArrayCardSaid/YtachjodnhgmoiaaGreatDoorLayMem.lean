/- Levels and numbers that a call makes row by row: what one more number in a row does. -/
import Derived.Test.YtachjodnhgmoiaaGreatDoorFam
import Derived.Test.YtachjodnhgmoiaaGreatDoorLevels
namespace Go.Proofs.YtachjodnhgmoiaaGreatDoor
open Go.RowKit

/-- Rows of ints in blocks of their own. -/
def LRows (w : World) (base : Nat) (vs : List Value) (LL : List (List Int)) : Prop :=
  vs.length = LL.length ∧ (∀ (i : Nat) (v : Value) (L : List Int), vs[i]? = some v → LL[i]? = some L → w.ownsRow base 3 1 v L.length (L.map (Value.int .i64))) ∧
  (∀ (i j : Nat) (v u : Value) (g : Nat), i ≠ j → vs[i]? = some v → vs[j]? = some u → v.ownBlock = some g → u.ownBlock ≠ some g)

theorem LRows.step {w w1 : World} {base i : Nat} {vs : List Value} {LL : List (List Int)} {v v' : Value} {L' : List Int} (h : LRows w base vs LL) (hv : vs[i]? = some v) (hg : w.grownBy w1 v.ownBlock)
    (ho : w1.ownsRow base 3 1 v' L'.length (L'.map (Value.int .i64))) (hat : ∀ g, v'.ownBlock = some g → v.ownBlock = some g ∨ w.heap.size ≤ g) : LRows w1 base (vs.set i v') (LL.set i L') := by
  obtain ⟨h1, h2, h3⟩ := h
  have hi : i < vs.length := (List.getElem?_eq_some_iff.1 hv).1
  have hlt : ∀ (j : Nat) (u : Value) (g : Nat), vs[j]? = some u → u.ownBlock = some g → g < w.heap.size := fun j u g hu hb => by
    have hj : j < LL.length := by have := (List.getElem?_eq_some_iff.1 hu).1; omega
    exact ((h2 j u _ hu (List.getElem?_eq_getElem hj)).lt g hb).2
  refine ⟨by simpa using h1, fun j u M hu hM => ?_, fun j j' u u' g hne hu hu' hb => ?_⟩
  · rw [List.getElem?_set] at hu hM
    by_cases e : i = j
    · subst e
      rw [if_pos rfl, if_pos hi] at hu
      rw [if_pos rfl, if_pos (by omega)] at hM
      cases hu
      cases hM
      exact ho
    · rw [if_neg e] at hu hM
      refine own_keep (h2 j u M hu hM) (fun g hb => hg.block g (hlt j u g hu hb) ?_)
      intro e2
      exact h3 i j v u g e hv hu e2.symm hb
  · rw [List.getElem?_set] at hu hu'
    by_cases e : i = j
    · subst e
      rw [if_pos rfl, if_pos hi] at hu
      cases hu
      rw [if_neg hne] at hu'
      intro hb'
      rcases hat g hb with h4 | h4
      · exact h3 i j' v u' g hne hv hu' h4 hb'
      · have := hlt j' u' g hu' hb'; omega
    · rw [if_neg e] at hu
      by_cases e' : i = j'
      · subst e'
        rw [if_pos rfl, if_pos hi] at hu'
        cases hu'
        intro hb'
        rcases hat g hb' with h4 | h4
        · exact h3 i j v u g e hv hu h4 hb
        · have := hlt j u g hu hb; omega
      · rw [if_neg e'] at hu'
        exact h3 j j' u u' g hne hu hu' hb
theorem LRows.kept {w w' : World} {base : Nat} {vs : List Value} {LL : List (List Int)} (h : LRows w base vs LL) (hk : ∀ (i : Nat) (v : Value) (L : List Int) (g : Nat), vs[i]? = some v → LL[i]? = some L → w.ownsRow base 3 1 v L.length (L.map (Value.int .i64)) → v.ownBlock = some g → w'.heap[g]? = w.heap[g]?) : LRows w' base vs LL :=
  ⟨h.1, fun i v L hv hL => own_keep (h.2.1 i v L hv hL) (fun g hg => hk i v L g hv hL (h.2.1 i v L hv hL) hg), h.2.2⟩
theorem LRows.grown {w w' : World} {base : Nat} {vs : List Value} {LL : List (List Int)} (h : LRows w base vs LL) (hg : w.grownBy w' none) : LRows w' base vs LL :=
  h.kept (fun _ _ _ g _ _ ho hb => hg.block g (ho.lt g hb).2 (by simp))
/-- What is written in a block of another type leaves rows of ints as they are. -/
theorem LRows.other {w w' : World} {base g0 : Nat} {vs : List Value} {LL : List (List Int)} {cs : Array Value} {t : TypeId} (h : LRows w base vs LL) (hb : w.heap[g0]? = some (.cells cs t (0, 0))) (ht : t ≠ 3) (hg : w.grownBy w' (some g0)) : LRows w' base vs LL :=
  h.kept (fun i v L g _ _ ho hv => hg.block g (ho.lt g hv).2 (fun e => by
    cases e
    rcases ho.2 with ⟨rfl, _⟩ | ⟨b, cap, cur, rfl, _, hbb, _⟩
    · simp [Value.ownBlock] at hv
    · simp only [Value.ownBlock, Option.some.injEq] at hv
      subst hv
      rw [hb] at hbb
      cases hbb
      exact ht rfl))

/-- The levels' rows behind a row of slices, and the numbers' row. -/
def LaidAt (w : World) (base g : Nat) (c : Nat) (d : Value) (LL : List (List Int)) (D : List Int) : Prop :=
  ∃ vs, w.ownsRow base 25 1 (.slice (some ⟨g, 0, none⟩) LL.length c) LL.length vs ∧ LRows w base (vs ++ [d]) (LL ++ [D])

theorem gr_any {w w' : World} (h : w.grownBy w' none) (row : Option Nat) : w.grownBy w' row := ⟨h.os, h.tape, h.output, h.size, fun k hk _ => h.block k hk (by simp)⟩
theorem own_cells {w : World} {base e g n c : Nat} {xs : List Value} (h : w.ownsRow base e 1 (.slice (some ⟨g, 0, none⟩) n c) n xs) : ∃ cs, w.heap[g]? = some (.cells cs e (0, 0)) := by
  rcases h.2 with ⟨hv, _⟩ | ⟨b, cap, cur, hv, _, hb, _⟩
  · cases hv
  · cases hv
    exact ⟨_, hb⟩

/-- A number more at a level. -/
theorem LaidAt.level {w : World} {base g c i : Nat} {d : Value} {LL : List (List Int)} {D L : List Int} {z : Int} (h : LaidAt w base g c d LL D) (hL : LL[i]? = some L) :
    ∃ v, w.cell? ⟨g, i, none⟩ = some v ∧ w.frozen? ⟨g, i, none⟩ = false ∧ w.ownsRow base 3 1 v L.length (L.map (Value.int .i64)) ∧ ∀ (w1 : World) (v' : Value), (w.grownBy w1 v.ownBlock → w1.ownsRow base 3 1 v' (L.length + 1) (L.map (Value.int .i64) ++ [.int .i64 z]) → (∀ b, v'.ownBlock = some b → v.ownBlock = some b ∨ w.heap.size ≤ b) →
      (∃ y, w1.cell? ⟨g, i, none⟩ = some y) ∧ w1.frozen? ⟨g, i, none⟩ = false ∧ LaidAt (w1.setCell ⟨g, i, none⟩ v') base g c d (LL.set i (L ++ [z])) D) := by
  obtain ⟨vs, ho, hr⟩ := h
  have hi : i < LL.length := (List.getElem?_eq_some_iff.1 hL).1
  have hlen : vs.length = LL.length := by have := ho.1; omega
  have hiv : i < vs.length := by omega
  have hcell := (ho.cellAt i (by omega)).trans (List.getElem?_eq_getElem hiv)
  have hvs : vs[i]? = some vs[i] := List.getElem?_eq_getElem hiv
  have hrow := hr.2.1 i vs[i] L (by rw [List.getElem?_append_left hiv]; exact hvs) (by rw [List.getElem?_append_left hi]; exact hL)
  refine ⟨vs[i], hcell, ho.frozenAt i, hrow, fun w1 v' hg hw hat => ?_⟩
  have hne : some g ≠ (vs[i]).ownBlock := fun e => by
    rcases hrow.2 with ⟨hv, _⟩ | ⟨b, cap, cur, hv, _, hb, _⟩
    · rw [hv] at e; cases e
    · rw [hv] at e
      simp only [Value.ownBlock, Option.some.injEq] at e
      subst e
      obtain ⟨cs, hcs⟩ := own_cells ho
      rw [hb] at hcs
      cases hcs
  have ho1 : w1.ownsRow base 25 1 (.slice (some ⟨g, 0, none⟩) LL.length c) LL.length vs := own_keep ho (fun b hb => by cases hb; exact hg.block g (ho.lt g rfl).2 hne)
  have hst := ho1.stored i v'
  obtain ⟨cs1, hcs1⟩ := own_cells ho1
  have hr1 := (hr.step (i := i) (L' := L ++ [z]) (by rw [List.getElem?_append_left hiv]; exact hvs) hg (by rw [List.map_append, List.length_append]; exact hw) hat).other hcs1 (by decide) hst.2
  rw [List.set_append_left _ _ hiv, List.set_append_left _ _ hi] at hr1
  exact ⟨⟨_, hg.cell hcell hne⟩, ho1.frozenAt i, vs.set i v', by rw [List.length_set]; exact hst.1, hr1⟩

/-- A number more behind all numbers. -/
theorem LaidAt.data {w : World} {base g c : Nat} {d : Value} {LL : List (List Int)} {D : List Int} {z : Int} (h : LaidAt w base g c d LL D) :
    w.ownsRow base 3 1 d D.length (D.map (Value.int .i64)) ∧ ∀ (w1 : World) (d' : Value), (w.grownBy w1 d.ownBlock → w1.ownsRow base 3 1 d' (D.length + 1) (D.map (Value.int .i64) ++ [.int .i64 z]) → (∀ b, d'.ownBlock = some b → d.ownBlock = some b ∨ w.heap.size ≤ b) → LaidAt w1 base g c d' LL (D ++ [z])) := by
  obtain ⟨vs, ho, hr⟩ := h
  have hlen : vs.length = LL.length := by have := ho.1; omega
  have hd : (vs ++ [d])[vs.length]? = some d := by simp
  have hD : (LL ++ [D])[vs.length]? = some D := by rw [hlen]; simp
  have hrow := hr.2.1 vs.length d D hd hD
  refine ⟨hrow, fun w1 d' hg hw hat => ⟨vs, own_keep ho (fun b hb => by
    cases hb
    refine hg.block g (ho.lt g rfl).2 (fun e => ?_)
    rcases hrow.2 with ⟨hv, _⟩ | ⟨b, cap, cur, hv, _, hb, _⟩
    · rw [hv] at e; cases e
    · rw [hv] at e
      simp only [Value.ownBlock, Option.some.injEq] at e
      subst e
      obtain ⟨cs, hcs⟩ := own_cells ho
      rw [hb] at hcs
      cases hcs), ?_⟩⟩
  have hr1 := hr.step (i := vs.length) (L' := D ++ [z]) hd hg (by rw [List.map_append, List.length_append]; exact hw) hat
  rw [List.set_append_right _ _ (Nat.le_refl _), List.set_append_right _ _ (by omega)] at hr1
  simpa [hlen] using hr1
theorem LaidAt.grown {w w' : World} {base g c : Nat} {d : Value} {LL : List (List Int)} {D : List Int} (h : LaidAt w base g c d LL D) (hg : w.grownBy w' none) : LaidAt w' base g c d LL D := by
  obtain ⟨vs, ho, hr⟩ := h
  exact ⟨vs, own_keep ho (fun b hb => hg.block b (ho.lt b hb).2 (by simp)), hr.grown hg⟩
/-- What is written in a struct's block leaves levels and numbers as they are. -/
theorem LaidAt.other {w w' : World} {base g c g0 : Nat} {d : Value} {LL : List (List Int)} {D : List Int} {cs : Array Value} {t : TypeId} (h : LaidAt w base g c d LL D) (hb : w.heap[g0]? = some (.cells cs t (0, 0))) (ht : t ≠ 3) (ht2 : t ≠ 25) (hg : w.grownBy w' (some g0)) : LaidAt w' base g c d LL D := by
  obtain ⟨vs, ho, hr⟩ := h
  refine ⟨vs, own_keep ho (fun b hbb => hg.block b (ho.lt b hbb).2 (fun e => ?_)), hr.other hb ht hg⟩
  cases e
  cases hbb
  obtain ⟨cs', hcs⟩ := own_cells ho
  rw [hb] at hcs
  cases hcs
  exact ht2 rfl
/-- Rows' blocks are no struct's block. -/
theorem LaidAt.box {w w1 : World} {base g c g0 i : Nat} {d x y : Value} {LL : List (List Int)} {D L : List Int} {v : Value} {t : TypeId} (_h : LaidAt w base g c d LL D) (ho : w.ownsRow base 3 1 v L.length (L.map (Value.int .i64))) (hp : Pr w g0 t x y) (ht : t ≠ 3) (hg : w.grownBy w1 v.ownBlock) (_hi : i = i) : Pr w1 g0 t x y :=
  hp.grown hg (fun e => by
    rcases ho.2 with ⟨rfl, _⟩ | ⟨b, cap, cur, rfl, _, hb, _⟩
    · cases e
    · simp only [Value.ownBlock, Option.some.injEq] at e
      subst e
      unfold Pr at hp
      rw [hb] at hp
      cases hp
      exact ht rfl)

end Go.Proofs.YtachjodnhgmoiaaGreatDoor
