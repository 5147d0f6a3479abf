/- 9 texts in one: LayMem PutB PutM LayRd Put PutS LayImpl RowIns RawLay. -/
import Derived.Test.YtbideeajdhejoaaFam
import Derived.Test.YtbideeajdhejoaaLevels
import Derived.Test.YtbideeajdhejoaaAside
import Derived.Maps.AppendAt
import Derived.Deep.RegionLaw
import Derived.Deep.AppendLies
import Derived.Deep.CutRange
import Derived.Test.YtbideeajdhejoaaSNd
import Derived.Test.YtbideeajdhejoaaLvText
import Derived.Test.YtbideeajdhejoaaZRD
import Derived.Test.YtbideeajdhejoaaClone
import Derived.Test.YtbideeajdhejoaaFod
import Derived.Test.YtbideeajdhejoaaZSR
import Derived.Test.YtbideeajdhejoaaRawM
namespace Go.Proofs.Ytbideeajdhejoaa
/- LayMem -/
section
open Go.RowKit

/-- Rows of ints in blocks of their own. -/
def LRows (w : World) (base : Nat) (vs : List Value) (LL : List (List Int)) : Prop :=
  vs.length = LL.length ∧ (∀ (i : Nat) (v : Value) (L : List Int), vs[i]? = some v → LL[i]? = some L → w.ownsRow base 3 1 v L.length (L.map (Value.int .i64))) ∧
  (∀ (i j : Nat) (v u : Value) (g : Nat), i ≠ j → vs[i]? = some v → vs[j]? = some u → v.ownBlock = some g → u.ownBlock ≠ some g)

theorem LRows.step {w w1 : World} {base i : Nat} {vs : List Value} {LL : List (List Int)} {v v' : Value} {L' : List Int} (h : LRows w base vs LL) (hv : vs[i]? = some v) (hg : w.grownBy w1 v.ownBlock)
    (ho : w1.ownsRow base 3 1 v' L'.length (L'.map (Value.int .i64))) (hat : ∀ g, v'.ownBlock = some g → v.ownBlock = some g ∨ w.heap.size ≤ g) : LRows w1 base (vs.set i v') (LL.set i L') := by
  obtain ⟨h1, h2, h3⟩ := h
  have hi : i < vs.length := (List.getElem?_eq_some_iff.1 hv).1
  have hlt : ∀ (j : Nat) (u : Value) (g : Nat), vs[j]? = some u → u.ownBlock = some g → g < w.heap.size := fun j u g hu hb => by
    have hj : j < LL.length := by have := (List.getElem?_eq_some_iff.1 hu).1; omega
    exact ((h2 j u _ hu (List.getElem?_eq_getElem hj)).lt g hb).2
  refine ⟨by simpa using h1, fun j u M hu hM => ?_, fun j j' u u' g hne hu hu' hb => ?_⟩
  · rw [List.getElem?_set] at hu hM
    by_cases e : i = j
    · subst e
      rw [if_pos rfl, if_pos hi] at hu
      rw [if_pos rfl, if_pos (by omega)] at hM
      cases hu
      cases hM
      exact ho
    · rw [if_neg e] at hu hM
      refine own_keep (h2 j u M hu hM) (fun g hb => hg.block g (hlt j u g hu hb) ?_)
      intro e2
      exact h3 i j v u g e hv hu e2.symm hb
  · rw [List.getElem?_set] at hu hu'
    by_cases e : i = j
    · subst e
      rw [if_pos rfl, if_pos hi] at hu
      cases hu
      rw [if_neg hne] at hu'
      intro hb'
      rcases hat g hb with h4 | h4
      · exact h3 i j' v u' g hne hv hu' h4 hb'
      · have := hlt j' u' g hu' hb'; omega
    · rw [if_neg e] at hu
      by_cases e' : i = j'
      · subst e'
        rw [if_pos rfl, if_pos hi] at hu'
        cases hu'
        intro hb'
        rcases hat g hb' with h4 | h4
        · exact h3 i j v u g e hv hu h4 hb
        · have := hlt j u g hu hb; omega
      · rw [if_neg e'] at hu'
        exact h3 j j' u u' g hne hu hu' hb
theorem LRows.kept {w w' : World} {base : Nat} {vs : List Value} {LL : List (List Int)} (h : LRows w base vs LL) (hk : ∀ (i : Nat) (v : Value) (L : List Int) (g : Nat), vs[i]? = some v → LL[i]? = some L → w.ownsRow base 3 1 v L.length (L.map (Value.int .i64)) → v.ownBlock = some g → w'.heap[g]? = w.heap[g]?) : LRows w' base vs LL :=
  ⟨h.1, fun i v L hv hL => own_keep (h.2.1 i v L hv hL) (fun g hg => hk i v L g hv hL (h.2.1 i v L hv hL) hg), h.2.2⟩
theorem LRows.grown {w w' : World} {base : Nat} {vs : List Value} {LL : List (List Int)} (h : LRows w base vs LL) (hg : w.grownBy w' none) : LRows w' base vs LL :=
  h.kept (fun _ _ _ g _ _ ho hb => hg.block g (ho.lt g hb).2 (by simp))
/-- What is written in a block of another type leaves rows of ints as they are. -/
theorem LRows.other {w w' : World} {base g0 : Nat} {vs : List Value} {LL : List (List Int)} {cs : Array Value} {t : TypeId} (h : LRows w base vs LL) (hb : w.heap[g0]? = some (.cells cs t (0, 0))) (ht : t ≠ 3) (hg : w.grownBy w' (some g0)) : LRows w' base vs LL :=
  h.kept (fun i v L g _ _ ho hv => hg.block g (ho.lt g hv).2 (fun e => by
    cases e
    rcases ho.2 with ⟨rfl, _⟩ | ⟨b, cap, cur, rfl, _, hbb, _⟩
    · simp [Value.ownBlock] at hv
    · simp only [Value.ownBlock, Option.some.injEq] at hv
      subst hv
      rw [hb] at hbb
      cases hbb
      exact ht rfl))

/-- The levels' rows behind a row of slices, and the numbers' row. -/
def LaidAt (w : World) (base g : Nat) (c : Nat) (d : Value) (LL : List (List Int)) (D : List Int) : Prop :=
  ∃ vs, w.ownsRow base 23 1 (.slice (some ⟨g, 0, none⟩) LL.length c) LL.length vs ∧ LRows w base (vs ++ [d]) (LL ++ [D])

theorem gr_any {w w' : World} (h : w.grownBy w' none) (row : Option Nat) : w.grownBy w' row := ⟨h.os, h.tape, h.output, h.size, fun k hk _ => h.block k hk (by simp)⟩
theorem own_cells {w : World} {base e g n c : Nat} {xs : List Value} (h : w.ownsRow base e 1 (.slice (some ⟨g, 0, none⟩) n c) n xs) : ∃ cs, w.heap[g]? = some (.cells cs e (0, 0)) := by
  rcases h.2 with ⟨hv, _⟩ | ⟨b, cap, cur, hv, _, hb, _⟩
  · cases hv
  · cases hv
    exact ⟨_, hb⟩

/-- A number more at a level. -/
theorem LaidAt.level {w : World} {base g c i : Nat} {d : Value} {LL : List (List Int)} {D L : List Int} {z : Int} (h : LaidAt w base g c d LL D) (hL : LL[i]? = some L) :
    ∃ v, w.cell? ⟨g, i, none⟩ = some v ∧ w.frozen? ⟨g, i, none⟩ = false ∧ w.ownsRow base 3 1 v L.length (L.map (Value.int .i64)) ∧ ∀ (w1 : World) (v' : Value), (w.grownBy w1 v.ownBlock → w1.ownsRow base 3 1 v' (L.length + 1) (L.map (Value.int .i64) ++ [.int .i64 z]) → (∀ b, v'.ownBlock = some b → v.ownBlock = some b ∨ w.heap.size ≤ b) →
      (∃ y, w1.cell? ⟨g, i, none⟩ = some y) ∧ w1.frozen? ⟨g, i, none⟩ = false ∧ LaidAt (w1.setCell ⟨g, i, none⟩ v') base g c d (LL.set i (L ++ [z])) D) := by
  obtain ⟨vs, ho, hr⟩ := h
  have hi : i < LL.length := (List.getElem?_eq_some_iff.1 hL).1
  have hlen : vs.length = LL.length := by have := ho.1; omega
  have hiv : i < vs.length := by omega
  have hcell := (ho.cellAt i (by omega)).trans (List.getElem?_eq_getElem hiv)
  have hvs : vs[i]? = some vs[i] := List.getElem?_eq_getElem hiv
  have hrow := hr.2.1 i vs[i] L (by rw [List.getElem?_append_left hiv]; exact hvs) (by rw [List.getElem?_append_left hi]; exact hL)
  refine ⟨vs[i], hcell, ho.frozenAt i, hrow, fun w1 v' hg hw hat => ?_⟩
  have hne : some g ≠ (vs[i]).ownBlock := fun e => by
    rcases hrow.2 with ⟨hv, _⟩ | ⟨b, cap, cur, hv, _, hb, _⟩
    · rw [hv] at e; cases e
    · rw [hv] at e
      simp only [Value.ownBlock, Option.some.injEq] at e
      subst e
      obtain ⟨cs, hcs⟩ := own_cells ho
      rw [hb] at hcs
      cases hcs
  have ho1 : w1.ownsRow base 23 1 (.slice (some ⟨g, 0, none⟩) LL.length c) LL.length vs := own_keep ho (fun b hb => by cases hb; exact hg.block g (ho.lt g rfl).2 hne)
  have hst := ho1.stored i v'
  obtain ⟨cs1, hcs1⟩ := own_cells ho1
  have hr1 := (hr.step (i := i) (L' := L ++ [z]) (by rw [List.getElem?_append_left hiv]; exact hvs) hg (by rw [List.map_append, List.length_append]; exact hw) hat).other hcs1 (by decide) hst.2
  rw [List.set_append_left _ _ hiv, List.set_append_left _ _ hi] at hr1
  exact ⟨⟨_, hg.cell hcell hne⟩, ho1.frozenAt i, vs.set i v', by rw [List.length_set]; exact hst.1, hr1⟩

/-- A number more behind all numbers. -/
theorem LaidAt.data {w : World} {base g c : Nat} {d : Value} {LL : List (List Int)} {D : List Int} {z : Int} (h : LaidAt w base g c d LL D) :
    w.ownsRow base 3 1 d D.length (D.map (Value.int .i64)) ∧ ∀ (w1 : World) (d' : Value), (w.grownBy w1 d.ownBlock → w1.ownsRow base 3 1 d' (D.length + 1) (D.map (Value.int .i64) ++ [.int .i64 z]) → (∀ b, d'.ownBlock = some b → d.ownBlock = some b ∨ w.heap.size ≤ b) → LaidAt w1 base g c d' LL (D ++ [z])) := by
  obtain ⟨vs, ho, hr⟩ := h
  have hlen : vs.length = LL.length := by have := ho.1; omega
  have hd : (vs ++ [d])[vs.length]? = some d := by simp
  have hD : (LL ++ [D])[vs.length]? = some D := by rw [hlen]; simp
  have hrow := hr.2.1 vs.length d D hd hD
  refine ⟨hrow, fun w1 d' hg hw hat => ⟨vs, own_keep ho (fun b hb => by
    cases hb
    refine hg.block g (ho.lt g rfl).2 (fun e => ?_)
    rcases hrow.2 with ⟨hv, _⟩ | ⟨b, cap, cur, hv, _, hb, _⟩
    · rw [hv] at e; cases e
    · rw [hv] at e
      simp only [Value.ownBlock, Option.some.injEq] at e
      subst e
      obtain ⟨cs, hcs⟩ := own_cells ho
      rw [hb] at hcs
      cases hcs), ?_⟩⟩
  have hr1 := hr.step (i := vs.length) (L' := D ++ [z]) hd hg (by rw [List.map_append, List.length_append]; exact hw) hat
  rw [List.set_append_right _ _ (Nat.le_refl _), List.set_append_right _ _ (by omega)] at hr1
  simpa [hlen] using hr1
theorem LaidAt.grown {w w' : World} {base g c : Nat} {d : Value} {LL : List (List Int)} {D : List Int} (h : LaidAt w base g c d LL D) (hg : w.grownBy w' none) : LaidAt w' base g c d LL D := by
  obtain ⟨vs, ho, hr⟩ := h
  exact ⟨vs, own_keep ho (fun b hb => hg.block b (ho.lt b hb).2 (by simp)), hr.grown hg⟩
/-- What is written in a struct's block leaves levels and numbers as they are. -/
theorem LaidAt.other {w w' : World} {base g c g0 : Nat} {d : Value} {LL : List (List Int)} {D : List Int} {cs : Array Value} {t : TypeId} (h : LaidAt w base g c d LL D) (hb : w.heap[g0]? = some (.cells cs t (0, 0))) (ht : t ≠ 3) (ht2 : t ≠ 23) (hg : w.grownBy w' (some g0)) : LaidAt w' base g c d LL D := by
  obtain ⟨vs, ho, hr⟩ := h
  refine ⟨vs, own_keep ho (fun b hbb => hg.block b (ho.lt b hbb).2 (fun e => ?_)), hr.other hb ht hg⟩
  cases e
  cases hbb
  obtain ⟨cs', hcs⟩ := own_cells ho
  rw [hb] at hcs
  cases hcs
  exact ht2 rfl
/-- Rows' blocks are no struct's block. -/
theorem LaidAt.box {w w1 : World} {base g c g0 i : Nat} {d x y : Value} {LL : List (List Int)} {D L : List Int} {v : Value} {t : TypeId} (_h : LaidAt w base g c d LL D) (ho : w.ownsRow base 3 1 v L.length (L.map (Value.int .i64))) (hp : Pr w g0 t x y) (ht : t ≠ 3) (hg : w.grownBy w1 v.ownBlock) (_hi : i = i) : Pr w1 g0 t x y :=
  hp.grown hg (fun e => by
    rcases ho.2 with ⟨rfl, _⟩ | ⟨b, cap, cur, rfl, _, hb, _⟩
    · cases e
    · simp only [Value.ownBlock, Option.some.injEq] at e
      subst e
      unfold Pr at hp
      rw [hb] at hp
      cases hp
      exact ht rfl)
end

/- PutB -/
section
open Go.RowKit

theorem gr_drew (w : World) (row : Option Nat) : w.grownBy w.drew row := ⟨rfl, rfl, rfl, Nat.le_refl _, fun _ _ _ => rfl⟩
theorem Pr.row {w w1 : World} {base g0 n : Nat} {x y v : Value} {xs : List Value} {t : TypeId} (hp : Pr w g0 t x y) (ho : w.ownsRow base 3 1 v n xs) (ht : t ≠ 3) (hg : w.grownBy w1 v.ownBlock) : Pr w1 g0 t x y :=
  hp.grown hg (fun e => by
    rcases ho.2 with ⟨rfl, _⟩ | ⟨b, cap, cur, rfl, _, hb, _⟩
    · cases e
    · simp only [Value.ownBlock, Option.some.injEq] at e
      subst e
      unfold Pr at hp
      rw [hb] at hp
      cases hp
      exact ht rfl)
theorem below_row {w w1 : World} {base n : Nat} {v : Value} {xs : List Value} {e : TypeId} (ho : w.ownsRow base e 1 v n xs) (hb : base ≤ w.heap.size) (hg : w.grownBy w1 v.ownBlock) : Below base w w1 :=
  ⟨hg.os, hg.tape, hg.output, hg.size, fun k hk => hg.block k (Nat.lt_of_lt_of_le hk hb) (fun e => by have := (ho.lt k e.symm).1; omega)⟩
theorem below_set {w : World} {base g i : Nat} {u : Value} (h : base ≤ g) : Below base w (w.setCell ⟨g, i, none⟩ u) :=
  ⟨rfl, rfl, rfl, by simp [World.setCell], fun k hk => Below.heap_setCell _ _ _ _ (by simp; omega)⟩
theorem All2.nth {α β : Type} {R : α → β → Prop} : ∀ {l : List α} {m : List β} {j : Nat}, All2 R l m → j < m.length → ∃ a b, l[j]? = some a ∧ m[j]? = some b ∧ R a b
  | a :: l, b :: m, 0, ⟨h, _⟩, _ => ⟨a, b, rfl, rfl, h⟩
  | _ :: l, _ :: m, j + 1, ⟨_, h⟩, hj => by
    obtain ⟨a, b, h1, h2, h3⟩ := All2.nth (j := j) h (by simpa using hj)
    exact ⟨a, b, by simpa using h1, by simpa using h2, h3⟩
  | [], [], _, _, hj => by simp at hj
  | [], _ :: _, _, h, _ => h.elim
  | _ :: _, [], _, h, _ => h.elim
theorem own_below {w w' : World} {base b0 e n : Nat} {v : Value} {xs : List Value} (h : w.ownsRow b0 e 1 v n xs) (hS : ∀ g, v.ownBlock = some g → g < base) (hb : Below base w w') : w'.ownsRow b0 e 1 v n xs := own_keep h (fun g hg => hb.block g (hS g hg))
theorem Short.level {k : Nat} {LL : List (List Int)} {L : List Int} (h : Short LL) (hL : LL[k]? = some L) : L.length ≤ 1000000 := h k L hL
theorem parts_le {k d : Nat} {LL : List (List Int)} {ts : List (T (d + 1))} (hlen : LL.length = k + (d + 1)) (hs : Short (behind k LL (lv (d + 1) ts))) : ts.length ≤ 1000000 := by
  obtain ⟨L, hL⟩ : ∃ L, LL[k]? = some L := ⟨_, List.getElem?_eq_getElem (by omega)⟩
  have h1 : (LL.take k).length = k := by rw [List.length_take]; omega
  have h2 := hs k (L ++ ts.map fun t => ((prt t).length : Int)) (by
    rw [behind, drop_at hL, List.getElem?_append_right (by omega), h1]
    simp [lv, addL])
  rw [List.length_append, List.length_map] at h2
  omega
end

/- PutM -/
section
open Go.RowKit

/-- The model's struct of levels and numbers. -/
def FlatM (w : World) (base gf : Nat) (d : Value) (LL : List (List Int)) (D : List Int) : Prop :=
  ∃ g c, Pr w gf 28 (.slice (some ⟨g, 0, none⟩) LL.length c) d ∧ LaidAt w base g c d LL D ∧ base ≤ w.heap.size ∧ base ≤ gf
theorem FlatM.grown {w w' : World} {base gf : Nat} {d : Value} {LL : List (List Int)} {D : List Int} (h : FlatM w base gf d LL D) (hg : w.grownBy w' none) : FlatM w' base gf d LL D := by
  obtain ⟨g, c, hp, hl, hb, hgf⟩ := h
  exact ⟨g, c, hp.grown hg (by simp), hl.grown hg, Nat.le_trans hb hg.size, hgf⟩

/-- The first statement's facts: the level's row, and what the store does. -/
theorem len_stepM {w : World} {base gf k : Nat} {z : Int} {d : Value} {LL : List (List Int)} {D L : List Int} (h : FlatM w base gf d LL D) (hL : LL[k]? = some L) :
    ∃ g c A e, Pr w gf 28 (.slice (some ⟨g, 0, none⟩) LL.length c) d ∧ k < LL.length ∧ w.cell? ⟨g, k, none⟩ = some (.slice A L.length e) ∧ w.frozen? ⟨g, k, none⟩ = false ∧ base ≤ w.heap.size ∧
      w.ownsRow base 3 1 (.slice A L.length e) L.length (L.map (Value.int .i64)) ∧
      ∀ (w1 : World) (gg cap : Nat), w.grownBy w1 (Value.slice A L.length e).ownBlock → w1.ownsRow base 3 1 (.slice (some ⟨gg, 0, none⟩) (L.length + 1) cap) (L.length + 1) (L.map (Value.int .i64) ++ [.int .i64 z]) → ((Value.slice A L.length e).ownBlock = some gg ∨ w.heap.size ≤ gg) →
        (∃ cs, w1.heap[g]? = some (.cells cs 23 (0, 0))) ∧ (∃ y, w1.cell? ⟨g, k, none⟩ = some y) ∧ w1.frozen? ⟨g, k, none⟩ = false ∧ Pr w1 gf 28 (.slice (some ⟨g, 0, none⟩) LL.length c) d ∧
        Below base w (w1.setCell ⟨g, k, none⟩ (.slice (some ⟨gg, 0, none⟩) (L.length + 1) cap)) ∧ FlatM (w1.setCell ⟨g, k, none⟩ (.slice (some ⟨gg, 0, none⟩) (L.length + 1) cap)) base gf d (LL.set k (L ++ [z])) D := by
  obtain ⟨g, c, hp, h, hb, hgf⟩ := h
  obtain ⟨v, hc, hf, ho, hnx⟩ := h.level (z := z) hL
  have hk : k < LL.length := (List.getElem?_eq_some_iff.1 hL).1
  obtain ⟨A, m, e, rfl⟩ := own_form ho
  obtain rfl : m = L.length := own_len2 ho
  refine ⟨g, c, A, e, hp, hk, hc, hf, hb, ho, fun w1 gg cap hg hw hat => ?_⟩
  obtain ⟨hy, hf1, hl⟩ := hnx w1 (.slice (some ⟨gg, 0, none⟩) (L.length + 1) cap) hg hw (fun b hb => by cases hb; exact hat)
  have hp1 := hp.row ho (by decide) hg
  obtain ⟨vs, hov, _⟩ := h
  have hgb := (hov.lt g rfl).1
  have hs := gr_set w1 g k (.slice (some ⟨gg, 0, none⟩) (L.length + 1) cap)
  have hne : some gf ≠ some g := fun e2 => by
    cases e2
    obtain ⟨cs, hcs⟩ := own_cells hov
    unfold Pr at hp
    rw [hp] at hcs
    cases hcs
  obtain ⟨cs, hcs⟩ := own_cells hov
  have hgv : some g ≠ (Value.slice A L.length e).ownBlock := fun e2 => absurd (own_typ hov ho rfl e2.symm) (by decide)
  refine ⟨⟨cs, (hg.block g (hov.lt g rfl).2 hgv).trans hcs⟩, hy, hf1, hp1, (below_row ho hb hg).trans (below_set hgb), g, c, ?_, hl, Nat.le_trans hb (Nat.le_trans hg.size hs.size), hgf⟩
  have := hp1.grown hs hne
  rwa [List.length_set]

theorem flatM_at : ∀ (l : List (Int × Value)) (j : Nat) (x : Int × Value), l[j]? = some x → (flat2 l)[j * 2]? = some (.int .i64 x.1) ∧ (flat2 l)[j * 2 + 1]? = some x.2
  | [], j, x, h => by simp at h
  | (m, sv) :: l, 0, x, h => by simp at h; subst h; exact ⟨rfl, rfl⟩
  | (m, sv) :: l, j + 1, x, h => by
    have := flatM_at l j x (by simpa using h)
    have e1 : (j + 1) * 2 = j * 2 + 1 + 1 := by omega
    rw [e1]
    exact this
theorem srowM {w : World} {A : Option Addr} {k c : Nat} {xs : List (Int × Value)} (h : w.ownsRow 0 123 2 (.slice A k c) xs.length (flat2 xs)) :
    k = xs.length ∧ k ≤ c ∧ (0 < k → ∃ g, A = some ⟨g, 0, none⟩ ∧ ∀ (j : Nat) (x : Int × Value), xs[j]? = some x → w.cell? ⟨g, j * 2, none⟩ = some (.int .i64 x.1) ∧ w.cell? ⟨g, j * 2 + 1, none⟩ = some x.2) := by
  rcases h.2 with ⟨hv, hn⟩ | ⟨g, cap, cur, hv, _, hg, hnc, hcm, hcs, htake⟩
  · cases hv
    exact ⟨by omega, by omega, fun h => by omega⟩
  · cases hv
    refine ⟨rfl, hnc, fun _ => ⟨g, rfl, fun j x hj => ?_⟩⟩
    have hjl := (List.getElem?_eq_some_iff.1 hj).1
    have hf := flatM_at xs j x hj
    have hc : ∀ i, i < xs.length * 2 → w.cell? ⟨g, i, none⟩ = (flat2 xs)[i]? := fun i hi => by
      rw [cell_of_row w g i _ _ (0, 0) hg, ← htake, List.getElem?_take, if_pos hi]
      simp
    exact ⟨(hc _ (by omega)).trans hf.1, (hc _ (by omega)).trans hf.2⟩

/-- What l2Put does with an array of a depth. -/
def LayM (d : Nat) : Prop := ∀ (t : T d) (gf base k : Nat) (S : Nat → Prop) (m : Int) (A : Option Addr) (kk cc : Nat) (d0 : Value) (LL : List (List Int)) (D : List Int) (w : World), FlatM w base gf d0 LL D → SNd w S d t (m, .slice A kk cc) → (∀ b, S b → b < base) → LL.length = k + d → k + d ≤ 10 → Short (behind k LL (lv d [t])) → (D ++ dat d [t]).length ≤ 1000000 →
  Calls Try.prog 115 #[.pointer (some ⟨gf, 0, none⟩), .agg #[.int .i64 m, .slice A kk cc], .int .i64 k] w fun e w' => e = .returned (.tuple #[]) ∧ Below base w w' ∧ ∃ d', FlatM w' base gf d' (behind k LL (lv d [t])) (D ++ dat d [t])

/-- A number more behind all numbers, in the model's struct. -/
theorem data_stepM {w : World} {base gf : Nat} {z : Int} {d : Value} {LL : List (List Int)} {D : List Int} (h : FlatM w base gf d LL D) :
    ∃ g c A e, d = .slice A D.length e ∧ Pr w gf 28 (.slice (some ⟨g, 0, none⟩) LL.length c) (.slice A D.length e) ∧ base ≤ w.heap.size ∧ w.ownsRow base 3 1 (.slice A D.length e) D.length (D.map (Value.int .i64)) ∧
      ∀ (w1 : World) (gg cap : Nat), w.grownBy w1 (Value.slice A D.length e).ownBlock → w1.ownsRow base 3 1 (.slice (some ⟨gg, 0, none⟩) (D.length + 1) cap) (D.length + 1) (D.map (Value.int .i64) ++ [.int .i64 z]) → ((Value.slice A D.length e).ownBlock = some gg ∨ w.heap.size ≤ gg) →
        Pr w1 gf 28 (.slice (some ⟨g, 0, none⟩) LL.length c) (.slice A D.length e) ∧ Below base w (w1.setCell ⟨gf, 1, none⟩ (.slice (some ⟨gg, 0, none⟩) (D.length + 1) cap)) ∧ ∃ d', FlatM (w1.setCell ⟨gf, 1, none⟩ (.slice (some ⟨gg, 0, none⟩) (D.length + 1) cap)) base gf d' LL (D ++ [z]) := by
  obtain ⟨g, c, hp, h, hb, hgf⟩ := h
  obtain ⟨ho, hnx⟩ := h.data (z := z)
  obtain ⟨A, m, e, rfl⟩ := own_form ho
  have hm := own_len2 ho
  subst hm
  refine ⟨g, c, A, e, rfl, hp, hb, ho, fun w1 gg cap hg hw hat => ?_⟩
  have hl := hnx w1 (.slice (some ⟨gg, 0, none⟩) (D.length + 1) cap) hg hw (fun b hb => by cases hb; exact hat)
  have hp1 := hp.row ho (by decide) hg
  have hs := gr_set w1 gf 1 (.slice (some ⟨gg, 0, none⟩) (D.length + 1) cap)
  exact ⟨hp1, (below_row ho hb hg).trans (below_set hgf), _, g, c, hp1.set1 _, hl.other hp1 (by decide) (by decide) hs, Nat.le_trans hb (Nat.le_trans hg.size hs.size), hgf⟩

set_option maxRecDepth 100000 in
set_option maxHeartbeats 4000000 in
theorem laym0 : LayM 0 := by
  intro t gf base k S m A kk cc d0 LL D w h hr hS hlen hk hsh hdl
  have hz := hr.1
  have hll : LL.length = k := by omega
  have e1 : behind k LL (lv 0 [t]) = LL := by
    rw [behind, List.take_of_length_le (by omega), List.drop_of_length_le (by omega)]
    simp [addL]
  have e2 : dat 0 [t] = [m] := by simp only at hz; rw [hz]; rfl
  rw [e2, List.length_append] at hdl
  rw [e1, e2]
  have hg0 := World.grownBy_alloc w (.cells #[.int .i64 m, .slice A kk cc] 123) none
  have hN := Pr.new w 123 (.int .i64 m) (.slice A kk cc)
  have hB0 : Below base w (w.alloc (.cells #[.int .i64 m, .slice A kk cc] 123)) := by
    obtain ⟨_, _, _, _, hb, _⟩ := h
    exact ⟨hg0.os, hg0.tape, hg0.output, hg0.size, fun b hbb => hg0.block b (by omega) (by simp)⟩
  obtain ⟨g, c, A2, e, rfl, hp, hb, ho, hnx⟩ := data_stepM (z := m) (h.grown hg0)
  obtain ⟨i0, hi0, hz0, hz1, hz2⟩ := info_parts infoJ
  go_enter Try.func115, Try.ntmps115
  go_upto_region 1 with fail
  obtain ⟨u, hu⟩ : ∃ u, w.alloc (.cells #[.int .i64 m, .slice A kk cc] 123) = u := ⟨_, rfl⟩
  rw [hu] at hg0 hN hB0 hp hb ho hnx
  rw [hu]
  obtain ⟨q, hq⟩ : ∃ q, D.length = q := ⟨_, rfl⟩
  rw [hll] at hp hnx
  rw [hq] at hp ho hnx hdl
  have HNX := Lib.hid hnx
  have HO := Lib.hid ho
  have HB0 := Lib.hid hB0
  have HU := Lib.hid hu
  have hql : q ≤ 1000000 := by omega
  have own7 := HO.out.alloc (.cells #[.int .i64 m] 3)
  have own8 := own7.kept (gr_drew _ none) (by cases hv : (Value.slice A2 q e).ownBlock <;> simp)
  have c0 := hp.c0
  have c1 := hp.c1
  have n0 := hN.c0
  have c2 := (hp.alloc (.cells #[.int .i64 m] 3)).c1
  have c3 : ((u.alloc (.cells #[.int .i64 m] 3)).drew).cell? ⟨gf, 1, none⟩ = _ := c2
  have n1 := (hN.alloc (.cells #[.int .i64 m] 3)).c0
  have n2 : ((u.alloc (.cells #[.int .i64 m] 3)).drew).cell? ⟨w.heap.size, 0, none⟩ = _ := n1
  have n3 : (u.drew).cell? ⟨w.heap.size, 0, none⟩ = _ := n0
  have c4 : (u.drew).cell? ⟨gf, 1, none⟩ = _ := c1
  have hkk : ((k : Int) == (k : Int)) = true := by simp
  clear h hr hS hlen hsh hdl hz e1 e2 hg0 hN hB0 hp ho hnx hu hq hll
  go_upto_region 2 with fail
  go_region_law (first
    | (refine step_append_lies _ (by rfl) _ _ _ (by rfl) base 3 i0 _ 1 8 Try.underlying23 hi0 hz0 hz1 hz2 rfl (by omega) (.slice A2 q e) q (D.map (Value.int .i64)) (by rfl) own8 ⟨u.heap.size, 0, none⟩ 1 1 [.int .i64 m] (by rfl) (by rfl) (World.news_of_block (cs := #[.int .i64 m]) (t := 3) (fr := (0, 0)) (heap_alloc_new _ _)) (by simp [Value.oneCell']) (by omega) (by simp only [maxLen]; omega) (by omega) (by simp; omega) (u.heap.size + 1) (by simp) ?_
       intro gg cap w8 hown8 hg8 hat8 _
       have hgu : u.grownBy w8 (Value.slice A2 q e).ownBlock := World.grownBy.trans (by first | exact (World.grownBy_alloc u (.cells #[.int .i64 m] 3) _).trans (gr_drew _ _) | exact World.grownBy_alloc u (.cells #[.int .i64 m] 3) _) hg8
       obtain ⟨hp8, hb8, d8, hF8⟩ := HNX.out w8 gg cap hgu hown8 (by rcases hat8 with h | h; exact .inl h; right; omega)
       have x0 := hp8.c1
       have x1 := hp8.f 1
       have HB8 := Lib.hid hb8
       have HF8 := Lib.hid hF8
       clear hown8 hg8 hat8 hb8 hF8 hgu hp8)
    | (refine step_append_lies _ (by rfl) _ _ _ (by rfl) base 3 i0 _ 1 8 Try.underlying23 hi0 hz0 hz1 hz2 rfl (by omega) (.slice A2 q e) q (D.map (Value.int .i64)) (by rfl) own7 ⟨u.heap.size, 0, none⟩ 1 1 [.int .i64 m] (by rfl) (by rfl) (World.news_of_block (cs := #[.int .i64 m]) (t := 3) (fr := (0, 0)) (heap_alloc_new _ _)) (by simp [Value.oneCell']) (by omega) (by simp only [maxLen]; omega) (by omega) (by simp; omega) (u.heap.size + 1) (by simp) ?_
       intro gg cap w8 hown8 hg8 hat8 _
       have hgu : u.grownBy w8 (Value.slice A2 q e).ownBlock := World.grownBy.trans (by first | exact (World.grownBy_alloc u (.cells #[.int .i64 m] 3) _).trans (gr_drew _ _) | exact World.grownBy_alloc u (.cells #[.int .i64 m] 3) _) hg8
       obtain ⟨hp8, hb8, d8, hF8⟩ := HNX.out w8 gg cap hgu hown8 (by rcases hat8 with h | h; exact .inl h; right; omega)
       have x0 := hp8.c1
       have x1 := hp8.f 1
       have HB8 := Lib.hid hb8
       have HF8 := Lib.hid hF8
       clear hown8 hg8 hat8 hb8 hF8 hgu hp8))
  all_goals
    go_wp2_with fail
    refine bodyPost_ret (results_none rfl _ _ _) rfl ?_
    exact ⟨rfl, HB0.out.trans HB8.out, d8, HF8.out⟩

theorem pr_ne {w : World} {g0 g : Nat} {x y : Value} {cs : Array Value} (hp : Pr w g0 123 x y) (hcs : w.heap[g]? = some (.cells cs 23 (0, 0))) : some g0 ≠ some g := fun e => by
  cases e
  unfold Pr at hp
  rw [hp] at hcs
  cases hcs
theorem box_int {w w' : World} {base n g0 : Nat} {v x y : Value} {xs : List Value} (hp : Pr w g0 123 x y) (h : w.ownsRow base 3 1 v n xs) (hg : w.grownBy w' v.ownBlock) : Pr w' g0 123 x y :=
  hp.row h (by decide) hg

set_option maxRecDepth 100000 in
set_option maxHeartbeats 4000000 in
theorem laymS (d : Nat) (ih : LayM d) (hcnt : ∀ (ts : List (T d)) (k : Nat) (LL : List (List Int)) (D : List Int), LL.length = k + 1 + d → Short (behind (k + 1) LL (lv d ts)) → (D ++ dat d ts).length ≤ 1000000 → ts.length ≤ 1000000) : LayM (d + 1) := by
  intro t gf base k S m A kk cc d0 LL D w h hr hS hlen hk hsh hdl
  obtain ⟨xs, hox, hxs, ha⟩ := hr
  obtain ⟨L, hL⟩ : ∃ L, LL[k]? = some L := ⟨_, List.getElem?_eq_getElem (by omega)⟩
  have hl : L.length ≤ 1000000 := (hsh.of_behind hlen (lv_len _ _)).level hL
  obtain ⟨hkx, _, _⟩ := srowM hox
  have hmt : (prt t).length = kk := by rw [hkx]; exact All2.length _ _ ha
  clear hkx
  have hn1 : (LL.set k (L ++ [(kk : Int)])).length = k + 1 + d := by rw [List.length_set]; omega
  have hbe : behind k LL (lv (d + 1) [t]) = behind (k + 1) (LL.set k (L ++ [(kk : Int)])) (lv d (prt t)) := by
    rw [← hmt]; exact behind_node _ hlen hL
  have hde : dat (d + 1) [t] = dat d (prt t) := dat_one d _
  rw [hbe] at hsh
  rw [hde] at hdl
  rw [hbe, hde]
  have hkk6 : kk ≤ 1000000 := by rw [← hmt]; exact hcnt _ k _ D hn1 hsh hdl
  have HSH := Lib.hid hsh
  have HDL := Lib.hid hdl
  have HN1 := Lib.hid hn1
  have HMT := Lib.hid hmt
  have HA := Lib.hid ha
  have HSS := Lib.hid hS
  have HI := Lib.hid ih
  have HXL := Lib.hid (All2.length _ _ ha)
  have HX := Lib.hid (fun (w' : World) (hb : Below base w w') => (own_keep hox (fun g hg => hb.block g (hS g (hxs g hg))) : w'.ownsRow 0 123 2 _ xs.length (flat2 xs)))
  have HAB := Lib.hid (fun (w' : World) (hb : Below base w w') => (All2.mono (SNd.keep (w' := w') (S' := S) (fun b hs _ => hb.block b (hS b hs)) (fun _ hs _ => hs) d) (prt t) xs ha))
  have hg0 := World.grownBy_alloc w (.cells #[.int .i64 m, .slice A kk cc] 123) none
  have hN := Pr.new w 123 (.int .i64 m) (.slice A kk cc)
  have hB0 : Below base w (w.alloc (.cells #[.int .i64 m, .slice A kk cc] 123)) := by
    obtain ⟨_, _, _, _, hb, _⟩ := h
    exact ⟨hg0.os, hg0.tape, hg0.output, hg0.size, fun b hbb => hg0.block b (by omega) (by simp)⟩
  obtain ⟨g, c, A2, e, hp, hkl, hc, hf, hb, ho, hnx⟩ := len_stepM (z := (kk : Int)) (h.grown hg0) hL
  obtain ⟨i0, hi0, hz0, hz1, hz2⟩ := info_parts infoJ
  go_enter Try.func115, Try.ntmps115
  go_upto_region 1 with fail
  obtain ⟨u, hu⟩ : ∃ u, w.alloc (.cells #[.int .i64 m, .slice A kk cc] 123) = u := ⟨_, rfl⟩
  rw [hu] at hg0 hN hB0 hp hb hc hf ho hnx
  rw [hu]
  obtain ⟨q, hq⟩ : ∃ q, L.length = q := ⟨_, rfl⟩
  obtain ⟨n, hn⟩ : ∃ n, LL.length = n := ⟨_, rfl⟩
  rw [hn] at hp hnx hkl
  rw [hq] at hc ho hnx hl
  have HNX := Lib.hid hnx
  have HO := Lib.hid ho
  have HN := Lib.hid hN
  have HB0 := Lib.hid hB0
  have HNN := Lib.hid hn
  have own7 := HO.out.alloc (.cells #[.int .i64 (kk : Int)] 3)
  have own8 := own7.kept (gr_drew _ none) (by cases hv : (Value.slice A2 q e).ownBlock <;> simp)
  have c0 := hp.c0
  have c1 : (u.drew).cell? ⟨gf, 0, none⟩ = _ := c0
  have c2 := (hp.alloc (.cells #[.int .i64 (kk : Int)] 3)).c0
  have c3 : ((u.alloc (.cells #[.int .i64 (kk : Int)] 3)).drew).cell? ⟨gf, 0, none⟩ = _ := c2
  have n0 := hN.c1
  have n3 : (u.drew).cell? ⟨w.heap.size, 1, none⟩ = _ := n0
  have n1 := (hN.alloc (.cells #[.int .i64 (kk : Int)] 3)).c1
  have n2 : ((u.alloc (.cells #[.int .i64 (kk : Int)] 3)).drew).cell? ⟨w.heap.size, 1, none⟩ = _ := n1
  have hc1 : (u.drew).cell? ⟨g, k, none⟩ = _ := hc
  have hc2 := (World.grownBy_alloc u (.cells #[.int .i64 (kk : Int)] 3) none).cell hc (by simp)
  have hc3 : ((u.alloc (.cells #[.int .i64 (kk : Int)] 3)).drew).cell? ⟨g, k, none⟩ = _ := hc2
  have hkn : ((k : Int) == (n : Int)) = false := by rw [beq_eq_false_iff_ne]; omega
  have hkd : k + (d + 1) ≤ 10 := hk
  have hk10 : k ≤ 10 := by omega
  clear h hS ha hox hxs hlen hk hsh hdl hbe hde hn1 hmt hL hg0 hN hB0 hp ho hnx hu hq hn ih hcnt
  go_upto_region 3 with fail
  go_cut [] from 15 to 43 (fun wx => Hid (Below base u wx) ∧ Hid (FlatM wx base gf d0 (LL.set k (L ++ [(kk : Int)])) D) ∧ Hid (Pr wx w.heap.size 123 (.int .i64 m) (.slice A kk cc)))
  case first =>
   go_region_law (first
    | (refine step_append_lies _ (by rfl) _ _ _ (by rfl) base 3 i0 _ 1 8 Try.underlying23 hi0 hz0 hz1 hz2 rfl (by omega) (.slice A2 q e) q (L.map (Value.int .i64)) (by rfl) own8 ⟨u.heap.size, 0, none⟩ 1 1 [.int .i64 (kk : Int)] (by rfl) (by rfl) (World.news_of_block (cs := #[.int .i64 (kk : Int)]) (t := 3) (fr := (0, 0)) (heap_alloc_new _ _)) (by simp [Value.oneCell']) (by omega) (by simp only [maxLen]; omega) (by omega) (by simp; omega) (u.heap.size + 1) (by simp) ?_
       intro gg cap w8 hown8 hg8 hat8 _
       have hgu : u.grownBy w8 (Value.slice A2 q e).ownBlock := World.grownBy.trans (by first | exact (World.grownBy_alloc u (.cells #[.int .i64 (kk : Int)] 3) _).trans (gr_drew _ _) | exact World.grownBy_alloc u (.cells #[.int .i64 (kk : Int)] 3) _) hg8
       obtain ⟨⟨cs8, hcs8⟩, ⟨y8, hy8⟩, hf8, hp8, hb8, hF8⟩ := HNX.out w8 gg cap hgu hown8 (by rcases hat8 with h | h; exact .inl h; right; omega)
       have x0 := hp8.c0
       have HB8 := Lib.hid hb8
       have HF8 := Lib.hid hF8
       have HN8 := Lib.hid ((box_int HN.out HO.out hgu).grown (gr_set w8 g k (.slice (some ⟨gg, 0, none⟩) (q + 1) cap)) (pr_ne (box_int HN.out HO.out hgu) hcs8))
       clear hown8 hg8 hat8 hb8 hF8 hgu hp8 hcs8)
    | (refine step_append_lies _ (by rfl) _ _ _ (by rfl) base 3 i0 _ 1 8 Try.underlying23 hi0 hz0 hz1 hz2 rfl (by omega) (.slice A2 q e) q (L.map (Value.int .i64)) (by rfl) own7 ⟨u.heap.size, 0, none⟩ 1 1 [.int .i64 (kk : Int)] (by rfl) (by rfl) (World.news_of_block (cs := #[.int .i64 (kk : Int)]) (t := 3) (fr := (0, 0)) (heap_alloc_new _ _)) (by simp [Value.oneCell']) (by omega) (by simp only [maxLen]; omega) (by omega) (by simp; omega) (u.heap.size + 1) (by simp) ?_
       intro gg cap w8 hown8 hg8 hat8 _
       have hgu : u.grownBy w8 (Value.slice A2 q e).ownBlock := World.grownBy.trans (by first | exact (World.grownBy_alloc u (.cells #[.int .i64 (kk : Int)] 3) _).trans (gr_drew _ _) | exact World.grownBy_alloc u (.cells #[.int .i64 (kk : Int)] 3) _) hg8
       obtain ⟨⟨cs8, hcs8⟩, ⟨y8, hy8⟩, hf8, hp8, hb8, hF8⟩ := HNX.out w8 gg cap hgu hown8 (by rcases hat8 with h | h; exact .inl h; right; omega)
       have x0 := hp8.c0
       have HB8 := Lib.hid hb8
       have HF8 := Lib.hid hF8
       have HN8 := Lib.hid ((box_int HN.out HO.out hgu).grown (gr_set w8 g k (.slice (some ⟨gg, 0, none⟩) (q + 1) cap)) (pr_ne (box_int HN.out HO.out hgu) hcs8))
       clear hown8 hg8 hat8 hb8 hF8 hgu hp8))
   all_goals
     go_wp2_with fail
     go_meet
     exact ⟨HB8, HF8, HN8⟩
  case rest =>
   obtain ⟨HB1, HF1, HN1'⟩ := hcut
   clear c0 c1 c2 c3 n0 n1 n2 n3 hc hc1 hc2 hc3 hkn own7 own8 hf
   have n0 := HN1'.out.c1
   go_wp2_with fail
   clear n0
   have wk : IntKind.i64.wrap ((k : Int) + 1) = (k : Int) + 1 := IntWalk.i64_in _ (by omega)
   go_loopw [47] (fun i wr => ∃ (j : Nat), j ≤ kk ∧ i = .int .i64 j ∧ Hid (Below base w wr) ∧ Hid (∃ d', FlatM wr base gf d' (behind (k + 1) (LL.set k (L ++ [(kk : Int)])) (lv d ((prt t).take j))) (D ++ dat d ((prt t).take j)))) (fun i _ => kk - (intOf i).toNat)
   case atStart => exact ⟨0, Nat.zero_le _, rfl, Lib.hid (HB0.out.trans HB1.out), Lib.hid ⟨d0, by rw [List.take_zero, behind_nil HN1.out, dat_nil, List.append_nil]; exact HF1.out⟩⟩
   case round =>
    obtain ⟨j, hj, rfl, hbl, hfe⟩ := hrel
    obtain ⟨d', hfl⟩ := hfe.out
    have HFL := Lib.hid hfl
    clear hfl
    by_cases hlt : j < kk
    · obtain ⟨tt, x, ht, hx, hnd⟩ := All2.nth (j := j) (HAB.out wr hbl.out) (by have := HXL.out; have := HMT.out; unfold prt at this; omega)
      obtain ⟨g3, rfl, hcells⟩ := (srowM (HX.out wr hbl.out)).2.2 (by omega)
      obtain ⟨m3, sv3⟩ := x
      obtain ⟨A3, k3, c3, hsv⟩ := hnd.form
      simp only at hsv
      subst hsv
      have hx1 := hcells j _ hx
      obtain ⟨hx1, hx2⟩ := hx1
      have hga := World.grownBy_alloc wr (.cells #[.int .i64 m3, .slice A3 k3 c3] 123) none
      have HBA := Lib.hid (show Below base wr (wr.alloc (.cells #[.int .i64 m3, .slice A3 k3 c3] 123)) from by
        obtain ⟨_, _, _, _, hb, _⟩ := HFL.out
        exact ⟨hga.os, hga.tape, hga.output, hga.size, fun b hbb => hga.block b (by omega) (by simp)⟩)
      have HC := Lib.hid (HI.out tt gf base (k + 1) S m3 A3 k3 c3 d' _ _ (wr.alloc (.cells #[.int .i64 m3, .slice A3 k3 c3] 123)) (HFL.out.grown hga) (SNd.keep (S' := S) (fun b hs _ => HBA.out.block b (HSS.out b hs)) (fun _ hs _ => hs) d tt _ hnd) HSS.out (behind_len HN1.out (lv_len d _)) (by omega)
        (by rw [behind_step HN1.out ht]; exact HSH.out.part HN1.out) (by rw [List.append_assoc, ← dat_step ht, List.length_append]; have := dat_part (d := d) (ts := prt t) (j + 1); have := HDL.out; rw [List.length_append] at this; omega))
      rw [behind_step HN1.out ht, List.append_assoc, ← dat_step ht] at HC
      rw [show ((k + 1 : Nat) : Int) = (k : Int) + 1 from by omega] at HC
      clear ht hx hcells hnd hga
      go_wp2_with fail
      refine HC.out.mono ?_
      rintro e w5 ⟨rfl, hb5, d5, hf5⟩
      have HB5 := Lib.hid (hbl.out.trans (HBA.out.trans hb5))
      have HF5 := Lib.hid hf5
      clear hb5 hf5
      go_wp2_with fail
      go_roundw
      case rel => exact ⟨j + 1, by omega, by go_num, HB5, Lib.hid ⟨d5, HF5.out⟩⟩
      case measure => simp [intOf]; omega
    · have hjn : j = kk := by omega
      have HJ := Lib.hid hjn
      clear hjn
      go_wp2_with fail
      go_end0
      have e : (prt t).take j = prt t := List.take_of_length_le (by have := HJ.out; have := HMT.out; omega)
      have h2 := HFL.out
      rw [e] at h2
      exact ⟨rfl, hbl.out, d', h2⟩

theorem cnt0 (ts : List (T 0)) (k : Nat) (LL : List (List Int)) (D : List Int) (_ : LL.length = k + 1 + 0) (_ : Short (behind (k + 1) LL (lv 0 ts))) (h : (D ++ dat 0 ts).length ≤ 1000000) : ts.length ≤ 1000000 := by
  have e : (dat 0 ts).length = ts.length := List.length_map _
  rw [List.length_append, e] at h
  omega
theorem laym_any : ∀ d, LayM d
  | 0 => laym0
  | 1 => laymS 0 laym0 cnt0
  | d + 2 => laymS (d + 1) (laym_any (d + 1)) (fun _ _ _ _ hl hs _ => parts_le hl hs)
end

/- LayRd -/
section
open Go.RowKit

theorem readN_text {s : ByteArray} {d : Nat} {t : T d} (h : readN s d = some t) : s.data.toList = text d t := by
  unfold readN at h
  split at h
  · cases h
  · rename_i t' q hn
    split at h
    · rename_i hq
      cases h
      have := sub_node s d 0 _ q hn
      rw [hq, sub_all] at this
      exact this
    · cases h
theorem readN_short {s : ByteArray} {d : Nat} {t : T d} (h : readN s d = some t) (hs : s.size ≤ 400) : (text d t).length ≤ 1000000 := by
  rw [← readN_text h, Array.length_toList]
  have : s.data.size = s.size := rfl
  omega

theorem gr_below {w u w' : World} (h : w.grownBy u none) (hb : Below w.heap.size u w') : w.grownBy w' none :=
  ⟨hb.os.trans h.os, hb.tape.trans h.tape, hb.output.trans h.output, Nat.le_trans h.size hb.size, fun k hk hne => (hb.block k hk).trans (h.block k hk hne)⟩

theorem LaidAt.reads {w : World} {base g c : Nat} {dv : Value} {LL : List (List Int)} {D : List Int} (h : LaidAt w base g c dv LL D) :
    (∃ A8 c8, dv = .slice A8 D.length c8 ∧ Ints w A8 D ∧ D.length ≤ c8 ∧ (A8 = none → c8 = 0)) ∧ Rws w (some ⟨g, 0, none⟩) LL ∧
    ∀ (w' : World) (j : Nat) (L : List Int), w.grownBy w' none → LL[j]? = some L → ∀ b off, some (⟨g, 0, none⟩ : Addr) = some ⟨b, off, none⟩ → ∃ Aj cj, w'.cell? ⟨b, off + j, none⟩ = some (.slice Aj L.length cj) ∧ Ints w' Aj L ∧ (Aj = none → cj = 0) ∧ L.length ≤ cj := by
  obtain ⟨vs, ho, hr⟩ := h
  have hlen : vs.length = LL.length := by have := ho.1; omega
  have hrow : ∀ (i : Nat) (L : List Int), LL[i]? = some L → ∃ v, vs[i]? = some v ∧ w.ownsRow base 3 1 v L.length (L.map (Value.int .i64)) := fun i L hL => by
    have hi := (List.getElem?_eq_some_iff.1 hL).1
    exact ⟨vs[i], List.getElem?_eq_getElem (by omega), hr.2.1 i vs[i] L (by rw [List.getElem?_append_left (by omega)]; exact List.getElem?_eq_getElem (by omega)) (by rw [List.getElem?_append_left hi]; exact hL)⟩
  refine ⟨?_, ?_, ?_⟩
  · have hd := hr.2.1 vs.length dv D (by simp) (by rw [hlen]; simp)
    obtain ⟨A8, m8, c8, rfl⟩ := own_form hd
    obtain ⟨h1, h2, h3, h4⟩ := row_reads hd
    subst h1
    exact ⟨A8, c8, rfl, h2, h3, h4⟩
  · refine rws_own ho (fun i L hL => ?_)
    obtain ⟨v, hv, hov⟩ := hrow i L hL
    obtain ⟨A8, m8, c8, rfl⟩ := own_form hov
    obtain ⟨h1, h2, h3, h4⟩ := row_reads hov
    subst h1
    exact ⟨_, hv, A8, c8, rfl, h3, fun _ => hov⟩
  · intro w' j L hg hL b off hbo
    cases hbo
    obtain ⟨v, hv, hov⟩ := hrow j L hL
    obtain ⟨A8, m8, c8, rfl⟩ := own_form hov
    obtain ⟨h1, h2, h3, h4⟩ := row_reads hov
    subst h1
    have hc := ho.cells (g := g) rfl j _ hv
    rw [addr_flat] at hc
    exact ⟨A8, c8, hg.cell hc (by simp), h2.grown hg (by simp), h4, h3⟩
end

/- Put -/
section
open Go.RowKit



/-- The program's and the model's struct of levels and numbers. -/
def Flat (w : World) (base gf : Nat) (d : Value) (LL : List (List Int)) (D : List Int) : Prop :=
  ∃ g c, Pr w gf 85 d (.slice (some ⟨g, 0, none⟩) LL.length c) ∧ LaidAt w base g c d LL D ∧ base ≤ w.heap.size ∧ base ≤ gf

/-- The first statement of layParts: a length more at a level. -/
def LenPost (base gf k : Nat) (z : Int) (LL : List (List Int)) (D L : List Int) (d : Value) (w w' : World) : Prop := Below base w w' ∧ Flat w' base gf d (LL.set k (L ++ [z])) D

set_option maxHeartbeats 400000 in
theorem put_any (gf base : Nat) (z : Int) (d : Value) (LL : List (List Int)) (D : List Int) (w : World) (h : Flat w base gf d LL D) (hl : D.length ≤ 1000000) :
    Calls Try.prog 127 #[.pointer (some ⟨gf, 0, none⟩), .int .i64 z] w fun e w' => e = .returned (.tuple #[]) ∧ Below base w w' ∧ ∃ d', Flat w' base gf d' LL (D ++ [z]) := by
  obtain ⟨i0, hi0, hz0, hz1, hz2⟩ := info_parts infoJ
  obtain ⟨g, c, hp, h, hb, hgf⟩ := h
  have HP := Lib.hid hp
  obtain ⟨hown, hnext⟩ := h.data (z := z)
  have HN := Lib.hid hnext
  have c0 := hp.c0
  have f0 := hp.f 0
  have HO := Lib.hid hown
  obtain ⟨A, k, e, rfl⟩ := own_form hown
  obtain rfl : k = D.length := own_len2 hown
  have HH := Lib.hid h
  obtain ⟨q, hq⟩ : ∃ q, D.length = q := ⟨_, rfl⟩
  have HQ := Lib.hid hq
  rw [hq] at c0 hl
  clear h hp hown hnext hq
  go_enter Try.func127, Try.ntmps127
  have own1 : (w.alloc (.cells #[.int .i64 z] 3)).ownsRow base 3 1 (.slice A q e) q (D.map (Value.int .i64)) := by
    have := HO.out.alloc (.cells #[.int .i64 z] 3)
    rwa [HQ.out] at this
  go_wp2_with (at_builtin; refine wpList_append_own_at _ rfl _ _ 23 rfl base 3 i0 (.int .i64 0) 1 8 Try.underlying23 hi0 hz0 hz1 hz2 rfl (by decide) _ _ _ rfl own1 ⟨w.heap.size, 0, none⟩ 1 1 [.int .i64 z] rfl rfl (cell_one_new _ _ _) ?c2 ?c3 ?c4 ?c5 ?_)
  case c2 => simp [Value.oneCell']
  case c3 => simp only [maxLen]; omega
  case c4 => omega
  case c5 => simp; omega
  intro v8 w8 hown8 hg8 _ hat8
  have hg9 : w.grownBy w8 (Value.slice A q e).ownBlock := (World.grownBy_alloc w (.cells #[.int .i64 z] 3) _).trans hg8
  have hat : ∀ b, v8.ownBlock = some b → (Value.slice A q e).ownBlock = some b ∨ w.heap.size ≤ b := by
    intro b hb
    rcases hat8 with h | h
    · left; rw [← h]; exact hb
    · right; rw [hb] at h; simp at h; omega
  have hnx := HN.out w8 v8 (by rw [HQ.out]; exact hg9) (by rw [HQ.out]; exact hown8) (by rw [HQ.out]; exact hat)
  have hown0 : w.ownsRow base 3 1 (.slice A q e) q (D.map (Value.int .i64)) := by have := HO.out; rwa [HQ.out] at this
  have P8 := (show Pr w gf 85 (.slice A q e) (.slice (some ⟨g, 0, none⟩) LL.length c) by have := HP.out; rwa [HQ.out] at this).row hown0 (by decide) hg9
  have e0 := P8.c0
  have e1 := P8.f 0
  obtain ⟨A8, m8, c8, rfl⟩ := own_form hown8
  have HNX := Lib.hid hnx
  have HP8 := Lib.hid P8
  have HB8 := Lib.hid (below_row hown0 hb hg9)
  have HS8 := Lib.hid hg9.size
  clear hown8 hg8 hat8 hg9 hat hnx hown0 P8 own1 c0 f0
  go_wp2_with fail
  go_end0
  have hs9 := gr_set w8 gf 0 (.slice A8 m8 c8)
  exact ⟨rfl, HB8.out.trans (below_set hgf), _, g, c, HP8.out.set0 _, HNX.out.other HP8.out (by decide) (by decide) hs9, Nat.le_trans hb (Nat.le_trans HS8.out hs9.size), hgf⟩

/-- The first statement's facts: the level's row, and what the store does. -/
theorem len_step {w : World} {base gf k : Nat} {z : Int} {d : Value} {LL : List (List Int)} {D L : List Int} (h : Flat w base gf d LL D) (hL : LL[k]? = some L) :
    ∃ g c A e, Pr w gf 85 d (.slice (some ⟨g, 0, none⟩) LL.length c) ∧ k < LL.length ∧ w.cell? ⟨g, k, none⟩ = some (.slice A L.length e) ∧ w.frozen? ⟨g, k, none⟩ = false ∧ base ≤ w.heap.size ∧
      w.ownsRow base 3 1 (.slice A L.length e) L.length (L.map (Value.int .i64)) ∧
      ∀ (w1 : World) (gg cap : Nat), w.grownBy w1 (Value.slice A L.length e).ownBlock → w1.ownsRow base 3 1 (.slice (some ⟨gg, 0, none⟩) (L.length + 1) cap) (L.length + 1) (L.map (Value.int .i64) ++ [.int .i64 z]) → ((Value.slice A L.length e).ownBlock = some gg ∨ w.heap.size ≤ gg) →
        (∃ y, w1.cell? ⟨g, k, none⟩ = some y) ∧ w1.frozen? ⟨g, k, none⟩ = false ∧ w1.cell? ⟨gf, 1, none⟩ = some (.slice (some ⟨g, 0, none⟩) LL.length c) ∧
        Below base w (w1.setCell ⟨g, k, none⟩ (.slice (some ⟨gg, 0, none⟩) (L.length + 1) cap)) ∧ Flat (w1.setCell ⟨g, k, none⟩ (.slice (some ⟨gg, 0, none⟩) (L.length + 1) cap)) base gf d (LL.set k (L ++ [z])) D := by
  obtain ⟨g, c, hp, h, hb, hgf⟩ := h
  obtain ⟨v, hc, hf, ho, hnx⟩ := h.level (z := z) hL
  have hk : k < LL.length := (List.getElem?_eq_some_iff.1 hL).1
  obtain ⟨A, m, e, rfl⟩ := own_form ho
  obtain rfl : m = L.length := own_len2 ho
  refine ⟨g, c, A, e, hp, hk, hc, hf, hb, ho, fun w1 gg cap hg hw hat => ?_⟩
  obtain ⟨hy, hf1, hl⟩ := hnx w1 (.slice (some ⟨gg, 0, none⟩) (L.length + 1) cap) hg hw (fun b hb => by cases hb; exact hat)
  have hp1 := hp.row ho (by decide) hg
  obtain ⟨vs, hov, _⟩ := h
  have hgb := (hov.lt g rfl).1
  have hs := gr_set w1 g k (.slice (some ⟨gg, 0, none⟩) (L.length + 1) cap)
  have hne : some gf ≠ some g := fun e2 => by
    cases e2
    obtain ⟨cs, hcs⟩ := own_cells hov
    unfold Pr at hp
    rw [hp] at hcs
    cases hcs
  refine ⟨hy, hf1, hp1.c1, (below_row ho hb hg).trans (below_set hgb), g, c, ?_, hl, Nat.le_trans hb (Nat.le_trans hg.size hs.size), hgf⟩
  have := hp1.grown hs hne
  rwa [List.length_set]

theorem prow1 {w : World} {base e : Nat} {A : Option Addr} {k c : Nat} {xs : List Value} (h : w.ownsRow base e 1 (.slice A k c) xs.length xs) :
    k = xs.length ∧ (0 < k → ∃ g, A = some ⟨g, 0, none⟩ ∧ ∀ (j : Nat) (x : Value), xs[j]? = some x → w.cell? ⟨g, j, none⟩ = some x) := by
  rcases h.2 with ⟨hv, hn⟩ | ⟨g, cap, cur, hv, _, hg, hnc, _, hcs, htake⟩
  · cases hv
    exact ⟨by omega, fun h => by omega⟩
  · cases hv
    refine ⟨rfl, fun _ => ⟨g, rfl, fun j x hj => ?_⟩⟩
    have hjl := (List.getElem?_eq_some_iff.1 hj).1
    rw [cell_of_row w g j _ _ (0, 0) hg]
    have : (cur.toList.take (xs.length * 1))[j]? = some x := by rw [htake, hj]
    rw [List.getElem?_take, if_pos (by omega)] at this
    simpa using this
theorem RepI.below {w w' : World} {S : Nat → Prop} {base d : Nat} {t : T d} {v : Value} (h : RepI w S d t v) (hS : ∀ b, S b → b < base) (hb : Below base w w') : RepI w' S d t v :=
  RepI.keep (fun b hs _ => hb.block b (hS b hs)) (fun _ hs _ => hs) d t v h

/-- What lay does with an array of a depth. -/
def LayP (d : Nat) : Prop := ∀ (t : T d) (gf base k : Nat) (S : Nat → Prop) (v d0 : Value) (LL : List (List Int)) (D : List Int) (w : World), Flat w base gf d0 LL D → RepI w S d t v → (∀ b, S b → b < base) → LL.length = k + d → k + d ≤ 10 → Short (behind k LL (lv d [t])) → (D ++ dat d [t]).length ≤ 1000000 →
  Calls Try.prog 107 #[.pointer (some ⟨gf, 0, none⟩), v, .int .i64 k] w fun e w' => e = .returned (.tuple #[]) ∧ Below base w w' ∧ ∃ d', Flat w' base gf d' (behind k LL (lv d [t])) (D ++ dat d [t])


set_option maxRecDepth 100000 in
set_option maxHeartbeats 4000000 in
theorem layq0 (ih : LayP 0) (ts : List (T 0)) (gf base k : Nat) (S : Nat → Prop) (A : Option Addr) (m e : Nat) (xs : List Value) (d : Value) (LL : List (List Int)) (D : List Int) (w : World) (h : Flat w base gf d LL D)
    (hx : w.ownsRow 0 (elT 0) 1 (.slice A m e) xs.length xs) (hxs : ∀ g, (Value.slice A m e).ownBlock = some g → S g) (ha : All2 (Nd w S 0) ts xs) (hS : ∀ b, S b → b < base) (hlen : LL.length = k + (0 + 1)) (hk10 : k + (0 + 1) ≤ 10)
    (hsh : Short (behind k LL (lv (0 + 1) [(show T (0 + 1) from ts)]))) (hdl : (D ++ dat (0 + 1) [(show T (0 + 1) from ts)]).length ≤ 1000000) (hts : ts.length ≤ 1000000) :
    Calls Try.prog 128 #[.pointer (some ⟨gf, 0, none⟩), .slice A m e, .int .i64 k] w fun e w' => e = .returned (.tuple #[]) ∧ Below base w w' ∧ ∃ d', Flat w' base gf d' (behind k LL (lv (0 + 1) [(show T (0 + 1) from ts)])) (D ++ dat (0 + 1) [(show T (0 + 1) from ts)]) := by
  obtain ⟨L, hL⟩ : ∃ L, LL[k]? = some L := ⟨_, List.getElem?_eq_getElem (by omega)⟩
  have hl : L.length ≤ 1000000 := (hsh.of_behind hlen (lv_len _ _)).level hL
  have hmt : ts.length = m := by rw [(prow1 hx).1]; exact All2.length _ _ ha
  have hn1 : (LL.set k (L ++ [(m : Int)])).length = k + 1 + 0 := by rw [List.length_set]; omega
  have hbe : behind k LL (lv (0 + 1) [(show T (0 + 1) from ts)]) = behind (k + 1) (LL.set k (L ++ [(m : Int)])) (lv 0 ts) := by
    rw [← hmt]; exact behind_node _ hlen hL
  have hde : dat (0 + 1) [(show T (0 + 1) from ts)] = dat 0 ts := dat_one 0 _
  rw [hbe] at hsh
  rw [hde] at hdl
  rw [hbe, hde]
  have HSH := Lib.hid hsh
  have HDL := Lib.hid hdl
  have HN1 := Lib.hid hn1
  have HMT := Lib.hid hmt
  have HX := Lib.hid (fun (w' : World) (hb : Below base w w') => own_below hx (fun g hg => hS g (hxs g hg)) hb)
  have HA := Lib.hid ha
  have HSS := Lib.hid hS
  have HI := Lib.hid ih
  have HXL := Lib.hid (All2.length _ _ ha)
  have hm6 : m ≤ 1000000 := by omega
  clear hbe hde hsh hdl hn1 hmt hx hxs ha hS ih hlen
  obtain ⟨i0, hi0, hz0, hz1, hz2⟩ := info_parts infoJ
  obtain ⟨g, c, A2, e2, hp, hk, hc, hf, hb, ho, hnx⟩ := len_step (z := (m : Int)) h hL
  have c1 := hp.c1
  have HNX := Lib.hid hnx
  have HO := Lib.hid ho
  obtain ⟨q, hq⟩ : ∃ q, L.length = q := ⟨_, rfl⟩
  obtain ⟨n, hn⟩ : ∃ n, LL.length = n := ⟨_, rfl⟩
  rw [hn] at c1 hk
  rw [hq] at hc hl
  rw [hq, hn] at HNX
  rw [hq] at HO
  have own7 := (HO.out.alloc (.cells #[.int .i64 (m : Int)] 3)).kept (gr_drew _ none) (by cases hv : (Value.slice A2 q e2).ownBlock <;> simp)
  have hc2 := (World.grownBy_alloc w (.cells #[.int .i64 (m : Int)] 3) none).cell hc (by simp)
  have hc3 : ((w.alloc (.cells #[.int .i64 (m : Int)] 3)).drew).cell? ⟨g, k, none⟩ = _ := hc2
  have c2 := (World.grownBy_alloc w (.cells #[.int .i64 (m : Int)] 3) none).cell c1 (by simp)
  have c3 : ((w.alloc (.cells #[.int .i64 (m : Int)] 3)).drew).cell? ⟨gf, 1, none⟩ = _ := c2
  clear hL h hp hnx ho hq hn
  go_enter Try.func128, Try.ntmps128
  go_wp2_with fail
  go_cut [] from 8 to 24 (fun wx => Hid (Below base w wx) ∧ Hid (Flat wx base gf d (LL.set k (L ++ [(m : Int)])) D))
  case first =>
   go_region_law (first
    | (refine step_append_lies _ (by rfl) _ _ _ (by rfl) base 3 i0 _ 1 8 Try.underlying23 hi0 hz0 hz1 hz2 rfl (by omega) (.slice A2 q e2) q (L.map (Value.int .i64)) (by rfl) own7 ⟨w.heap.size, 0, none⟩ 1 1 [.int .i64 (m : Int)] (by rfl) (by rfl) (World.news_of_block (cs := #[.int .i64 (m : Int)]) (t := 3) (fr := (0, 0)) (heap_alloc_new _ _)) (by simp [Value.oneCell']) (by omega) (by simp only [maxLen]; omega) (by omega) (by simp; omega) (w.heap.size + 1) (by simp) ?_
       intro gg cap w8 hown8 hg8 hat8 _
       obtain ⟨⟨y8, hy8⟩, hf8, hc8, hb8, hF8⟩ := HNX.out w8 gg cap (((World.grownBy_alloc w (.cells #[.int .i64 (m : Int)] 3) _).trans (gr_drew _ _)).trans hg8) hown8 (by rcases hat8 with h | h; exact .inl h; right; omega)
       have HB8 := Lib.hid hb8
       have HF8 := Lib.hid hF8
       clear hown8 hg8 hat8 hb8 hF8))
   all_goals
     go_wp2_with fail
     go_meet
     exact ⟨HB8, HF8⟩
  case rest =>
   obtain ⟨HB1, HF1⟩ := hcut
   go_wp2_with fail
   have wk : IntKind.i64.wrap ((k : Int) + 1) = (k : Int) + 1 := IntWalk.i64_in _ (by omega)
   go_loopw [27] (fun i wr => ∃ (j : Nat), j ≤ m ∧ i = .int .i64 j ∧ Hid (Below base w wr) ∧ Hid (∃ d', Flat wr base gf d' (behind (k + 1) (LL.set k (L ++ [(m : Int)])) (lv 0 (ts.take j))) (D ++ dat 0 (ts.take j)))) (fun i _ => m - (intOf i).toNat)
   case atStart => exact ⟨0, Nat.zero_le _, rfl, HB1, Lib.hid ⟨d, by rw [List.take_zero, behind_nil HN1.out, dat_nil, List.append_nil]; exact HF1.out⟩⟩
   case round =>
    obtain ⟨j, hj, rfl, hbl, hfe⟩ := hrel
    obtain ⟨d', hfl⟩ := hfe.out
    have HFL := Lib.hid hfl
    clear hfl
    by_cases hlt : j < m
    · obtain ⟨t, x, ht, hx, hnd⟩ := All2.nth (j := j) HA.out (by have := HXL.out; have := HMT.out; omega)
      obtain ⟨g3, rfl, hcells⟩ := (prow1 (HX.out wr hbl.out)).2 (by omega)
      have hcell := hcells j x hx
      have HT := Lib.hid ht
      obtain rfl : x = .int .i64 ((show Nat from t : Nat) : Int) := hnd
      have HC := Lib.hid (HI.out t gf base (k + 1) S (.iface 140 (.int .i64 ((show Nat from t : Nat) : Int))) d' _ _ wr HFL.out rfl HSS.out (behind_len HN1.out (lv_len 0 _)) (by omega)
        (by rw [behind_step HN1.out ht]; exact HSH.out.part HN1.out) (by rw [List.append_assoc, ← dat_step ht, List.length_append]; have := dat_part (d := 0) (ts := ts) (j + 1); have := HDL.out; rw [List.length_append] at this; omega))
      rw [behind_step HN1.out ht, List.append_assoc, ← dat_step ht] at HC
      obtain ⟨z, hz⟩ : ∃ z : Int, ((show Nat from t : Nat) : Int) = z := ⟨_, rfl⟩
      rw [hz] at hcell HC
      rw [show ((k + 1 : Nat) : Int) = (k : Int) + 1 from by omega] at HC
      clear ht hx hcells hz
      go_wp2_with fail
      refine HC.out.mono ?_
      rintro e w5 ⟨rfl, hb5, d5, hf5⟩
      have HB5 := Lib.hid (hbl.out.trans hb5)
      have HF5 := Lib.hid hf5
      clear hb5 hf5
      go_wp2_with fail
      go_roundw
      case rel => exact ⟨j + 1, by omega, by go_num, HB5, Lib.hid ⟨d5, HF5.out⟩⟩
      case measure => simp [intOf]; omega
    · have hjn : j = m := by omega
      have HJ := Lib.hid hjn
      clear hjn
      go_wp2_with fail
      go_end0
      have e : ts.take j = ts := List.take_of_length_le (by have := HJ.out; have := HMT.out; omega)
      have h2 := HFL.out
      rw [e] at h2
      exact ⟨rfl, hbl.out, d', h2⟩
end

/- PutS -/
section
open Go.RowKit

theorem tb00 (v : Value) (xT : TypeId) (w : World) : (Instr.typeAssert (.iface 140 v) xT 140 true).run Try.prog w = .ok (.tuple #[v, .bool true]) w := by
  simp [Instr.typeAssert, run_underlying Try.underlying140, go_sem, Result.andThen]
theorem tb10 (v : Value) (xT : TypeId) (w : World) : (Instr.typeAssert (.iface 142 v) xT 140 true).run Try.prog w = .ok (.tuple #[.int .i64 0, .bool false]) w := by
  simp [Instr.typeAssert, run_underlying Try.underlying140, go_sem, Result.andThen]
theorem tb11 (v : Value) (xT : TypeId) (w : World) : (Instr.typeAssert (.iface 142 v) xT 142 true).run Try.prog w = .ok (.tuple #[v, .bool true]) w := by
  simp [Instr.typeAssert, run_underlying Try.underlying142, go_sem, Result.andThen]
theorem tb20 (v : Value) (xT : TypeId) (w : World) : (Instr.typeAssert (.iface 147 v) xT 140 true).run Try.prog w = .ok (.tuple #[.int .i64 0, .bool false]) w := by
  simp [Instr.typeAssert, run_underlying Try.underlying140, go_sem, Result.andThen]
theorem tb21 (v : Value) (xT : TypeId) (w : World) : (Instr.typeAssert (.iface 147 v) xT 142 true).run Try.prog w = .ok (.tuple #[.pointer none, .bool false]) w := by
  simp [Instr.typeAssert, run_underlying Try.underlying142, go_sem, Result.andThen]
theorem tb22 (v : Value) (xT : TypeId) (w : World) : (Instr.typeAssert (.iface 147 v) xT 147 true).run Try.prog w = .ok (.tuple #[v, .bool true]) w := by
  simp [Instr.typeAssert, run_underlying Try.underlying147, go_sem, Result.andThen]

set_option maxHeartbeats 400000 in
theorem lay0 : LayP 0 := by
  intro t gf base k S v d0 LL D w h hr hS hlen hk hsh hdl
  obtain rfl : v = .iface 140 (.int .i64 ((show Nat from t : Nat) : Int)) := hr
  have hll : LL.length = k := by omega
  have e1 : behind k LL (lv 0 [t]) = LL := by
    rw [behind, List.take_of_length_le (by omega), List.drop_of_length_le (by omega)]
    simp [addL]
  obtain ⟨z, hz⟩ : ∃ z : Int, ((show Nat from t : Nat) : Int) = z := ⟨_, rfl⟩
  have e2 : dat 0 [t] = [z] := by rw [← hz]; rfl
  rw [e2, List.length_append] at hdl
  have HP := Lib.hid (fun w h => put_any gf base z d0 LL D w h (by omega))
  have H := Lib.hid h
  rw [e1, e2, hz]
  have hta := tb00
  clear h hS hsh hdl e1 e2 hz hlen hll
  go_enter Try.func107, Try.ntmps107
  go_wp2_with fail
  refine (HP.out _ H.out).mono ?_
  rintro e w1 ⟨rfl, hb1, d', hf1⟩
  have HB := Lib.hid hb1
  have HF := Lib.hid hf1
  clear hb1 hf1
  go_wp2_with fail
  go_end0
  exact ⟨rfl, HB.out, d', HF.out⟩

set_option maxHeartbeats 1000000 in
theorem lay1 : LayP 1 := by
  intro t gf base k S v d0 LL D w h hr hS hlen hk hsh hdl
  obtain ⟨b, sv, xs, rfl, hb, hh, ho, hxs, ha⟩ := hr
  obtain ⟨A, m, c, rfl⟩ := own_form ho
  have hts : (show List (T 0) from t).length ≤ 1000000 := by
    rw [List.length_append] at hdl
    have e : dat 1 [t] = dat 0 (prt t) := dat_one 0 t
    rw [e] at hdl
    have e2 : (dat 0 (prt t)).length = (show List (T 0) from t).length := List.length_map _
    omega
  have HQ := Lib.hid (layq0 lay0 (show List (T 0) from t) gf base k S A m c xs d0 LL D w h ho hxs ha hS hlen hk hsh hdl hts)
  have hc : w.cell? ⟨b, 0, none⟩ = some (.slice A m c) := by simp [World.cell?, hh]
  have hta := tb10
  have htb := tb11
  simp only [ptrT]
  clear h hb hh ho hxs ha hS hlen hsh hdl hts
  go_enter Try.func107, Try.ntmps107
  go_wp2_with fail
  refine HQ.out.mono ?_
  rintro e w1 ⟨rfl, hb1, d', hf1⟩
  have HB := Lib.hid hb1
  have HF := Lib.hid hf1
  clear hb1 hf1 HQ
  go_wp2_with fail
  go_end0
  exact ⟨rfl, HB.out, d', HF.out⟩

set_option maxRecDepth 100000 in
set_option maxHeartbeats 4000000 in
theorem layqS (dd : Nat) (ih : LayP (dd + 1)) (ts : List (T (dd + 1))) (gf base k : Nat) (S : Nat → Prop) (A : Option Addr) (m e : Nat) (xs : List Value) (d : Value) (LL : List (List Int)) (D : List Int) (w : World) (h : Flat w base gf d LL D)
    (hx : w.ownsRow 0 (elT (dd + 1)) 1 (.slice A m e) xs.length xs) (hxs : ∀ g, (Value.slice A m e).ownBlock = some g → S g) (ha : All2 (Nd w S (dd + 1)) ts xs) (hS : ∀ b, S b → b < base) (hlen : LL.length = k + (dd + 1 + 1)) (hk10 : k + (dd + 1 + 1) ≤ 10)
    (hsh : Short (behind k LL (lv (dd + 1 + 1) [(show T (dd + 1 + 1) from ts)]))) (hdl : (D ++ dat (dd + 1 + 1) [(show T (dd + 1 + 1) from ts)]).length ≤ 1000000) (hts : ts.length ≤ 1000000) :
    Calls Try.prog 129 #[.pointer (some ⟨gf, 0, none⟩), .slice A m e, .int .i64 k] w fun e w' => e = .returned (.tuple #[]) ∧ Below base w w' ∧ ∃ d', Flat w' base gf d' (behind k LL (lv (dd + 1 + 1) [(show T (dd + 1 + 1) from ts)])) (D ++ dat (dd + 1 + 1) [(show T (dd + 1 + 1) from ts)]) := by
  obtain ⟨L, hL⟩ : ∃ L, LL[k]? = some L := ⟨_, List.getElem?_eq_getElem (by omega)⟩
  have hl : L.length ≤ 1000000 := (hsh.of_behind hlen (lv_len _ _)).level hL
  have hmt : ts.length = m := by rw [(prow1 hx).1]; exact All2.length _ _ ha
  have hn1 : (LL.set k (L ++ [(m : Int)])).length = k + 1 + (dd + 1) := by rw [List.length_set]; omega
  have hbe : behind k LL (lv (dd + 1 + 1) [(show T (dd + 1 + 1) from ts)]) = behind (k + 1) (LL.set k (L ++ [(m : Int)])) (lv (dd + 1) ts) := by
    rw [← hmt]; exact behind_node _ hlen hL
  have hde : dat (dd + 1 + 1) [(show T (dd + 1 + 1) from ts)] = dat (dd + 1) ts := dat_one (dd + 1) _
  rw [hbe] at hsh
  rw [hde] at hdl
  rw [hbe, hde]
  have HSH := Lib.hid hsh
  have HDL := Lib.hid hdl
  have HN1 := Lib.hid hn1
  have HMT := Lib.hid hmt
  have HX := Lib.hid (fun (w' : World) (hb : Below base w w') => own_below hx (fun g hg => hS g (hxs g hg)) hb)
  have HA := Lib.hid ha
  have HSS := Lib.hid hS
  have HI := Lib.hid ih
  have HXL := Lib.hid (All2.length _ _ ha)
  have hm6 : m ≤ 1000000 := by omega
  clear hbe hde hsh hdl hn1 hmt hx hxs ha hS ih hlen
  obtain ⟨i0, hi0, hz0, hz1, hz2⟩ := info_parts infoJ
  obtain ⟨g, c, A2, e2, hp, hk, hc, hf, hb, ho, hnx⟩ := len_step (z := (m : Int)) h hL
  have c1 := hp.c1
  have HNX := Lib.hid hnx
  have HO := Lib.hid ho
  obtain ⟨q, hq⟩ : ∃ q, L.length = q := ⟨_, rfl⟩
  obtain ⟨n, hn⟩ : ∃ n, LL.length = n := ⟨_, rfl⟩
  rw [hn] at c1 hk
  rw [hq] at hc hl
  rw [hq, hn] at HNX
  rw [hq] at HO
  have own7 := (HO.out.alloc (.cells #[.int .i64 (m : Int)] 3)).kept (gr_drew _ none) (by cases hv : (Value.slice A2 q e2).ownBlock <;> simp)
  have hc2 := (World.grownBy_alloc w (.cells #[.int .i64 (m : Int)] 3) none).cell hc (by simp)
  have hc3 : ((w.alloc (.cells #[.int .i64 (m : Int)] 3)).drew).cell? ⟨g, k, none⟩ = _ := hc2
  have c2 := (World.grownBy_alloc w (.cells #[.int .i64 (m : Int)] 3) none).cell c1 (by simp)
  have c3 : ((w.alloc (.cells #[.int .i64 (m : Int)] 3)).drew).cell? ⟨gf, 1, none⟩ = _ := c2
  clear hL h hp hnx ho hq hn
  go_enter Try.func129, Try.ntmps129
  go_wp2_with fail
  go_cut [] from 8 to 24 (fun wx => Hid (Below base w wx) ∧ Hid (Flat wx base gf d (LL.set k (L ++ [(m : Int)])) D))
  case first =>
   go_region_law (first
    | (refine step_append_lies _ (by rfl) _ _ _ (by rfl) base 3 i0 _ 1 8 Try.underlying23 hi0 hz0 hz1 hz2 rfl (by omega) (.slice A2 q e2) q (L.map (Value.int .i64)) (by rfl) own7 ⟨w.heap.size, 0, none⟩ 1 1 [.int .i64 (m : Int)] (by rfl) (by rfl) (World.news_of_block (cs := #[.int .i64 (m : Int)]) (t := 3) (fr := (0, 0)) (heap_alloc_new _ _)) (by simp [Value.oneCell']) (by omega) (by simp only [maxLen]; omega) (by omega) (by simp; omega) (w.heap.size + 1) (by simp) ?_
       intro gg cap w8 hown8 hg8 hat8 _
       obtain ⟨⟨y8, hy8⟩, hf8, hc8, hb8, hF8⟩ := HNX.out w8 gg cap (((World.grownBy_alloc w (.cells #[.int .i64 (m : Int)] 3) _).trans (gr_drew _ _)).trans hg8) hown8 (by rcases hat8 with h | h; exact .inl h; right; omega)
       have HB8 := Lib.hid hb8
       have HF8 := Lib.hid hF8
       clear hown8 hg8 hat8 hb8 hF8))
   all_goals
     go_wp2_with fail
     go_meet
     exact ⟨HB8, HF8⟩
  case rest =>
   obtain ⟨HB1, HF1⟩ := hcut
   go_wp2_with fail
   have wk : IntKind.i64.wrap ((k : Int) + 1) = (k : Int) + 1 := IntWalk.i64_in _ (by omega)
   go_loopw [27] (fun i wr => ∃ (j : Nat), j ≤ m ∧ i = .int .i64 j ∧ Hid (Below base w wr) ∧ Hid (∃ d', Flat wr base gf d' (behind (k + 1) (LL.set k (L ++ [(m : Int)])) (lv (dd + 1) (ts.take j))) (D ++ dat (dd + 1) (ts.take j)))) (fun i _ => m - (intOf i).toNat)
   case atStart => exact ⟨0, Nat.zero_le _, rfl, HB1, Lib.hid ⟨d, by rw [List.take_zero, behind_nil HN1.out, dat_nil, List.append_nil]; exact HF1.out⟩⟩
   case round =>
    obtain ⟨j, hj, rfl, hbl, hfe⟩ := hrel
    obtain ⟨d', hfl⟩ := hfe.out
    have HFL := Lib.hid hfl
    clear hfl
    by_cases hlt : j < m
    · obtain ⟨t, x, ht, hx, hnd⟩ := All2.nth (j := j) HA.out (by have := HXL.out; have := HMT.out; omega)
      obtain ⟨g3, rfl, hcells⟩ := (prow1 (HX.out wr hbl.out)).2 (by omega)
      have hcell := hcells j x hx
      have HT := Lib.hid ht
      have HND := Lib.hid (RepI.below (d := dd + 1) (t := t) hnd HSS.out hbl.out)
      obtain ⟨ty, pv, rfl⟩ := RepI.iface (d := dd + 1) (t := t) hnd
      clear hnd
      have HC := Lib.hid (HI.out t gf base (k + 1) S (.iface ty pv) d' _ _ wr HFL.out HND.out HSS.out (behind_len HN1.out (lv_len (dd + 1) _)) (by omega)
        (by rw [behind_step HN1.out ht]; exact HSH.out.part HN1.out) (by rw [List.append_assoc, ← dat_step ht, List.length_append]; have := dat_part (d := dd + 1) (ts := ts) (j + 1); have := HDL.out; rw [List.length_append] at this; omega))
      rw [behind_step HN1.out ht, List.append_assoc, ← dat_step ht] at HC
      rw [show ((k + 1 : Nat) : Int) = (k : Int) + 1 from by omega] at HC
      clear ht hx hcells
      go_wp2_with fail
      refine HC.out.mono ?_
      rintro e w5 ⟨rfl, hb5, d5, hf5⟩
      have HB5 := Lib.hid (hbl.out.trans hb5)
      have HF5 := Lib.hid hf5
      clear hb5 hf5
      go_wp2_with fail
      go_roundw
      case rel => exact ⟨j + 1, by omega, by go_num, HB5, Lib.hid ⟨d5, HF5.out⟩⟩
      case measure => simp [intOf]; omega
    · have hjn : j = m := by omega
      have HJ := Lib.hid hjn
      clear hjn
      go_wp2_with fail
      go_end0
      have e : ts.take j = ts := List.take_of_length_le (by have := HJ.out; have := HMT.out; omega)
      have h2 := HFL.out
      rw [e] at h2
      exact ⟨rfl, hbl.out, d', h2⟩


set_option maxHeartbeats 1000000 in
theorem layS (dd : Nat) (ih : LayP (dd + 1)) : LayP (dd + 1 + 1) := by
  intro t gf base k S v d0 LL D w h hr hS hlen hk hsh hdl
  obtain ⟨b, sv, xs, rfl, hb, hh, ho, hxs, ha⟩ := hr
  obtain ⟨A, m, c, rfl⟩ := own_form ho
  have HQ := Lib.hid (layqS dd ih (show List (T (dd + 1)) from t) gf base k S A m c xs d0 LL D w h ho hxs ha hS hlen hk hsh hdl (by
    obtain ⟨L, hL⟩ : ∃ L, LL[k]? = some L := ⟨_, List.getElem?_eq_getElem (by omega)⟩
    rw [behind_node t hlen hL] at hsh
    exact parts_le (by rw [List.length_set]; omega) hsh))
  have hc : w.cell? ⟨b, 0, none⟩ = some (.slice A m c) := by simp [World.cell?, hh]
  have hta := tb20
  have htb := tb21
  have htc := tb22
  simp only [ptrT]
  clear h hb hh ho hxs ha hS hlen hsh hdl
  go_enter Try.func107, Try.ntmps107
  go_wp2_with fail
  refine HQ.out.mono ?_
  rintro e w1 ⟨rfl, hb1, d', hf1⟩
  have HB := Lib.hid hb1
  have HF := Lib.hid hf1
  clear hb1 hf1 HQ
  go_wp2_with fail
  go_end0
  exact ⟨rfl, HB.out, d', HF.out⟩

theorem lay_any : ∀ d, LayP d
  | 0 => lay0
  | 1 => lay1
  | d + 2 => layS d (lay_any (d + 1))
end

/- LayImpl -/
section
open Go.RowKit

/-- How LayOut of the program ends. -/
def LIPost (s : ByteArray) (n : Int) (w : World) (e : Ending) (w' : World) : Prop :=
  (isArr s n = false ∧ e = .returned (.tuple #[.agg #[.slice none 0 0, .slice none 0 0], .bool false]) ∧ w.grownBy w' none) ∨
  (isArr s n = true ∧ ∃ t u, readN s n.toNat = some t ∧ e = .returned (.tuple #[u, .bool true]) ∧ w.grownBy w' none ∧ OwnLyt w' w.heap.size u (lv n.toNat [t]) (dat n.toNat [t]))

theorem flat_start {w w1 : World} {d g : Nat} (hg : w.heap.size ≤ w1.heap.size) (h : w1.ownsRow w.heap.size 23 1 (.slice (some ⟨g, 0, none⟩) d d) d (List.replicate d (.slice none 0 0))) :
    Flat (w1.alloc (.cells #[.slice none 0 0, .slice (some ⟨g, 0, none⟩) d d] 85)) w.heap.size w1.heap.size (.slice none 0 0) (List.replicate d []) [] := by
  have hp := Pr.new w1 85 (.slice none 0 0) (.slice (some ⟨g, 0, none⟩) d d)
  refine ⟨g, d, by rw [List.length_replicate]; exact hp, ⟨List.replicate d (.slice none 0 0), ?_, ?_⟩, by simp; omega, hg⟩
  · rw [List.length_replicate]
    exact h.alloc _
  · have e1 : List.replicate d (Value.slice none 0 0) ++ [.slice none 0 0] = List.replicate (d + 1) (.slice none 0 0) := by rw [List.replicate_succ']
    have e2 : List.replicate d ([] : List Int) ++ [[]] = List.replicate (d + 1) [] := by rw [List.replicate_succ']
    rw [e1, e2]
    refine ⟨by simp, fun i v L hv hL => ?_, fun i j v u g _ hv _ hg => ?_⟩
    · rw [List.getElem?_replicate] at hv hL
      split at hv
      · rename_i hi
        rw [if_pos hi] at hL
        cases hv
        cases hL
        exact World.ownsRow_nil _ _ _ _
      · cases hv
    · rw [List.getElem?_replicate] at hv
      split at hv
      · cases hv; cases hg
      · cases hv

theorem OwnLyt.box {w w' : World} {base g0 : Nat} {u : Value} {LL : List (List Int)} {D : List Int} {x y : Value} (h : OwnLyt w base u LL D) (hp : Pr w g0 28 x y) (hg : w.grownBy w' (some g0)) : OwnLyt w' base u LL D := by
  obtain ⟨A, c, d, vs, rfl, hc, ho, hf⟩ := h
  exact ⟨A, c, d, vs, rfl, hc, own_box ho hp (by decide) hg, hf.box hp (by decide) hg⟩
theorem OwnLyt.low {w : World} {base base' : Nat} {u : Value} {LL : List (List Int)} {D : List Int} (h : OwnLyt w base u LL D) (hb : base' ≤ base) : OwnLyt w base' u LL D := by
  obtain ⟨A, c, d, vs, rfl, hc, ho, hf⟩ := h
  exact ⟨A, c, d, vs, rfl, hc, own_base ho hb, hf.low hb⟩

set_option maxRecDepth 100000 in
set_option maxHeartbeats 1000000 in
theorem layout_impl (s : ByteArray) (n : Int) (w : World) : Calls Try.prog 56 #[.string s, .int .i64 n] w (LIPost s n w) := by
  by_cases h : 0 ≤ n ∧ n ≤ 3 ∧ s.size ≤ 400
  · obtain ⟨d, hd⟩ : ∃ d : Nat, n = d := ⟨n.toNat, by omega⟩
    subst hd
    have hdn : (d : Int).toNat = d := Int.toNat_natCast d
    have hd3 : d ≤ 3 := by omega
    have HC := Lib.hid (fun u => nest_in (d : Int) d s u rfl (by omega) (by omega) h.2.2)
    unfold LIPost
    rw [hdn]
    cases hr : readN s d with
    | none =>
      have hv : isArr s d = false := by unfold isArr; rw [hdn, hr]; simp
      have HR := Lib.hid hr
      have HV := Lib.hid hv
      clear h hv hr hdn
      go_enter Try.func56, Try.ntmps56
      go_wp2_with fail
      refine (HC.out _).mono ?_
      intro e w1 hp
      unfold NestPost at hp
      rw [HR.out] at hp
      obtain ⟨rfl, hg⟩ := hp
      have HG := Lib.hid ((World.grownBy_alloc w (.cells #[.slice none 0 0, .slice none 0 0] 28) none).trans hg)
      have HP := Lib.hid ((Pr.new w 28 (.slice none 0 0) (.slice none 0 0)).grown hg (by simp))
      have r0 := HP.out.c0
      have r1 := HP.out.c1
      have r2 := HP.out.f 0
      have r3 := HP.out.f 1
      clear hg
      go_wp2_with fail
      have T1 := (HP.out.set0 (.slice none 0 0)).set1 (.slice none 0 0)
      have q0 := T1.c0
      have q1 := T1.c1
      refine bodyPost_ret (v := .tuple #[.agg #[.slice none 0 0, .slice none 0 0], .bool false]) (by simp [results, Try.results56, go_sem, q0, q1]) rfl ?_
      exact .inl ⟨HV.out, rfl, gr_ownF HG.out ((gr_set w1 w.heap.size 0 (.slice none 0 0)).trans (gr_set _ w.heap.size 1 (.slice none 0 0))) (fun k hk => by cases hk; exact Nat.le_refl _)⟩
    | some t =>
      have hv : isArr s d = true := by unfold isArr; rw [hdn, hr]; simp; omega
      have HR := Lib.hid hr
      have HV := Lib.hid hv
      have HSH := Lib.hid (lv_short (readN_short hr h.2.2))
      clear h hv hr hdn
      have HFO := Lib.hid (fun u => fod_any d u (by omega))
      go_enter Try.func56, Try.ntmps56
      go_wp2_with fail
      refine (HC.out _).mono ?_
      intro e w1 hp
      unfold NestPost at hp
      rw [HR.out] at hp
      obtain ⟨v, rfl, hg, ha⟩ := hp
      have HG := Lib.hid ((World.grownBy_alloc w (.cells #[.slice none 0 0, .slice none 0 0] 28) none).trans hg)
      have HP := Lib.hid ((Pr.new w 28 (.slice none 0 0) (.slice none 0 0)).grown hg (by simp))
      have HA := Lib.hid ha
      clear hg ha
      go_wp2_with fail
      refine (HFO.out _).mono ?_
      rintro e w2 ⟨gR, rfl, hg2, _, hr2⟩
      have hfl := flat_start hg2.size hr2
      have hgu : w1.grownBy (w2.alloc (.cells #[.slice none 0 0, .slice (some ⟨gR, 0, none⟩) d d] 85)) none := hg2.trans (World.grownBy_alloc _ _ _)
      have HGU := Lib.hid hgu
      have HFL := Lib.hid hfl
      clear hfl hgu hg2 hr2
      go_wp2_with fail
      have hgu := HGU.out
      have hfl := HFL.out
      generalize w2.alloc (.cells #[.slice none 0 0, .slice (some ⟨gR, 0, none⟩) d d] 85) = u0 at hgu hfl ⊢
      have hrep : RepI u0 (fun b => b < w1.heap.size) d t v := RepI.keep (fun b _ hb => hgu.block b hb (by simp)) (fun b _ hb => hb) d t v HA.out
      have hlay := lay_any d t w2.heap.size w1.heap.size 0 (fun b => b < w1.heap.size) v (.slice none 0 0) (List.replicate d []) [] u0 hfl hrep (fun b hb => hb) (by simp) (by omega) HSH.out.1 HSH.out.2
      refine hlay.mono ?_
      rintro e w3 ⟨rfl, hb3, d3, hf3⟩
      have e1 : behind 0 (List.replicate d []) (lv d [t]) = lv d [t] := by rw [behind, List.take_zero, List.nil_append, List.drop_zero, lv_zero_add]
      rw [e1, List.nil_append] at hf3
      have hsh := HSH.out
      rw [e1, List.nil_append] at hsh
      have HG3 := Lib.hid (HG.out.trans (gr_below hgu hb3))
      have HP3 := Lib.hid (HP.out.grown (gr_below hgu hb3) (by simp))
      obtain ⟨g, c, hp3, hl3, _, _⟩ := hf3
      obtain ⟨⟨A8, c8, rfl, hi8, hd8, hn8⟩, hrw8, hcl8⟩ := hl3.reads
      have hlv := lv_len d [t]
      have HLY := Lib.hid (layout_any (some ⟨g, 0, none⟩) A8 c c8 (lv d [t]) (dat d [t]) w3 hrw8 hi8 (by rw [hlv]; omega) (fun M hM => by
        obtain ⟨i, hi⟩ := List.getElem?_of_mem hM
        have := hsh.1 i M hi; omega) (by have := hsh.2; omega) hd8 hn8 hcl8)
      have c0 := hp3.c0
      have c1 := hp3.c1
      obtain ⟨k, hk⟩ : ∃ k, (dat d [t]).length = k := ⟨_, rfl⟩
      rw [hk] at c0 HLY
      rw [hlv] at c1 HLY
      clear hgu hfl hrep hlay hb3 e1 hsh hp3 hl3 hi8 hd8 hn8 hrw8 hcl8
      go_wp2_with fail
      refine HLY.out.mono ?_
      rintro e w4 ⟨u, rfl, hg4, ho4⟩
      have HG4 := Lib.hid (HG3.out.trans hg4)
      have HO4 := Lib.hid ho4
      have HS3 := Lib.hid HG3.out.size
      have hp4 := HP3.out.grown hg4 (by simp)
      obtain ⟨A9, c9, d9, vs9, rfl, _, how9, hfm⟩ := id ho4
      obtain ⟨v9, hv9, B9, e9, hve, _⟩ := hfm.1 _ (dat d [t]) (Nat.lt_succ_self _) (by simp)
      have hd9 : ∃ m9, d9 = .slice B9 m9 e9 := by
        have hl9 : vs9.length = (lv d [t]).length := by
          have := how9.1
          omega
        rw [← hl9, List.getElem?_concat_length, Option.some.injEq] at hv9
        exact ⟨_, hv9.trans hve⟩
      obtain ⟨m9, rfl⟩ := hd9
      rw [hlv] at ho4 ⊢
      have HO5 := Lib.hid ho4
      have HP4 := Lib.hid hp4
      have r0 := hp4.c0
      have r1 := hp4.c1
      have r2 := hp4.f 0
      have r3 := hp4.f 1
      clear hg4 ho4 hp4 hfm hv9 hve how9 hlv HO4
      go_wp2_with fail
      have T1 := (HP4.out.set0 (.slice A9 d c9)).set1 (.slice B9 m9 e9)
      have q0 := T1.c0
      have q1 := T1.c1
      have hs1 := (gr_set w4 w.heap.size 0 (.slice A9 d c9)).trans (gr_set (w4.setCell ⟨w.heap.size, 0, none⟩ (.slice A9 d c9)) w.heap.size 1 (.slice B9 m9 e9))
      refine bodyPost_ret (v := .tuple #[.agg #[.slice A9 d c9, .slice B9 m9 e9], .bool true]) (by simp [results, Try.results56, go_sem, q0, q1]) rfl ?_
      clear q0 q1 r0 r1 r2 r3 T1
      have hfin := (HO5.out.box HP4.out hs1).low HS3.out
      have hgf := gr_ownF HG4.out hs1 (fun k hk => by cases hk; exact Nat.le_refl _)
      exact .inr ⟨HV.out, t, _, rfl, rfl, hgf, hfin⟩
  · have h' : n < 0 ∨ 3 < n ∨ 400 < s.size := by omega
    have hv : isArr s n = false := by unfold isArr; rw [decide_eq_false h]; rfl
    have HC := Lib.hid (fun u => nest_out n s u h')
    have HV := Lib.hid hv
    clear h h' hv
    go_enter Try.func56, Try.ntmps56
    go_wp2_with fail
    refine (HC.out _).mono ?_
    rintro e w1 ⟨rfl, hg⟩
    have HG := Lib.hid ((World.grownBy_alloc w (.cells #[.slice none 0 0, .slice none 0 0] 28) none).trans hg)
    have HP := Lib.hid ((Pr.new w 28 (.slice none 0 0) (.slice none 0 0)).grown hg (by simp))
    have r0 := HP.out.c0
    have r1 := HP.out.c1
    have r2 := HP.out.f 0
    have r3 := HP.out.f 1
    clear hg
    go_wp2_with fail
    have T1 := (HP.out.set0 (.slice none 0 0)).set1 (.slice none 0 0)
    have q0 := T1.c0
    have q1 := T1.c1
    refine bodyPost_ret (v := .tuple #[.agg #[.slice none 0 0, .slice none 0 0], .bool false]) (by simp [results, Try.results56, go_sem, q0, q1]) rfl ?_
    exact .inl ⟨HV.out, rfl, gr_ownF HG.out ((gr_set w1 w.heap.size 0 (.slice none 0 0)).trans (gr_set _ w.heap.size 1 (.slice none 0 0))) (fun k hk => by cases hk; exact Nat.le_refl _)⟩
end

/- RowIns -/
section
open Go.RowKit

theorem ins_at {α : Type} (vs : List α) (x d : α) (i : Nat) (v : α) (h : ((vs ++ [x]) ++ [d])[i]? = some v) :
    (i = vs.length ∧ v = x) ∨ (i < vs.length ∧ (vs ++ [d])[i]? = some v) ∨ (i = vs.length + 1 ∧ (vs ++ [d])[vs.length]? = some v) := by
  rcases Nat.lt_trichotomy i vs.length with h1 | h1 | h1
  · right; left
    refine ⟨h1, ?_⟩
    rw [List.append_assoc, List.getElem?_append_left h1] at h
    rw [List.getElem?_append_left h1]
    exact h
  · left
    subst h1
    rw [List.append_assoc, List.getElem?_append_right (Nat.le_refl _), Nat.sub_self] at h
    simp only [List.cons_append, List.getElem?_cons_zero, Option.some.injEq] at h
    exact ⟨rfl, h.symm⟩
  · right; right
    rw [List.append_assoc, List.getElem?_append_right (by omega)] at h
    have hi : i = vs.length + 1 := by
      have := (List.getElem?_eq_some_iff.1 h).1
      simp only [List.cons_append, List.nil_append, List.length_cons, List.length_nil] at this
      omega
    subst hi
    refine ⟨rfl, ?_⟩
    rw [List.getElem?_append_right (Nat.le_refl _), Nat.sub_self]
    have e : vs.length + 1 - vs.length = 1 := by omega
    rw [e] at h
    simpa using h
theorem LRows.insert {w : World} {base : Nat} {vs : List Value} {LL : List (List Int)} {d x : Value} {D L : List Int} (h : LRows w base (vs ++ [d]) (LL ++ [D])) (hl : vs.length = LL.length) (hx : w.ownsRow base 3 1 x L.length (L.map (Value.int .i64)))
    (hnew : ∀ (g i : Nat) (v : Value), x.ownBlock = some g → (vs ++ [d])[i]? = some v → v.ownBlock ≠ some g) : LRows w base ((vs ++ [x]) ++ [d]) ((LL ++ [L]) ++ [D]) := by
  obtain ⟨h1, h2, h3⟩ := h
  refine ⟨by simp; omega, fun i v M hv hM => ?_, fun i j v u g hne hv hu hg => ?_⟩
  · rcases ins_at _ _ _ i v hv with ⟨hi, rfl⟩ | ⟨hi, hv'⟩ | ⟨hi, hv'⟩
    · rcases ins_at _ _ _ i M hM with ⟨_, rfl⟩ | ⟨hi2, _⟩ | ⟨hi2, _⟩
      · exact hx
      · omega
      · omega
    · rcases ins_at _ _ _ i M hM with ⟨hi2, _⟩ | ⟨_, hM'⟩ | ⟨hi2, _⟩
      · omega
      · exact h2 i v M hv' hM'
      · omega
    · rcases ins_at _ _ _ i M hM with ⟨hi2, _⟩ | ⟨hi2, _⟩ | ⟨_, hM'⟩
      · omega
      · omega
      · exact h2 _ v M hv' (by rw [hl]; exact hM')
  · rcases ins_at _ _ _ i v hv with ⟨hi, rfl⟩ | ⟨hi, hv'⟩ | ⟨hi, hv'⟩
    · rcases ins_at _ _ _ j u hu with ⟨hj, _⟩ | ⟨_, hu'⟩ | ⟨_, hu'⟩
      · omega
      · exact hnew g j u hg hu'
      · exact hnew g _ u hg hu'
    · rcases ins_at _ _ _ j u hu with ⟨hj, rfl⟩ | ⟨hj, hu'⟩ | ⟨hj, hu'⟩
      · intro hg'; exact hnew g i v hg' hv' hg
      · exact h3 i j v u g hne hv' hu' hg
      · exact h3 i _ v u g (by omega) hv' hu' hg
    · rcases ins_at _ _ _ j u hu with ⟨hj, rfl⟩ | ⟨hj, hu'⟩ | ⟨hj, hu'⟩
      · intro hg'; exact hnew g _ v hg' hv' hg
      · exact h3 _ j v u g (by omega) hv' hu' hg
      · omega
end

/- RawLay -/
section
open Go.RowKit

/-- How l2RawLayOut ends. -/
def RLPost (s : ByteArray) (n : Int) (w : World) (e : Ending) (w' : World) : Prop :=
  (isArr s n = false ∧ e = .returned (.tuple #[.agg #[.slice none 0 0, .slice none 0 0], .bool false]) ∧ w.grownBy w' none) ∨
  (isArr s n = true ∧ ∃ t u, readN s n.toNat = some t ∧ e = .returned (.tuple #[u, .bool true]) ∧ w.grownBy w' none ∧ LytC w' u (lv n.toNat [t]) (dat n.toNat [t]))

/-- An empty level more. -/
theorem flatm_step {wr : World} {base gl j : Nat} {d0 : Value} {D : List Int} (h : FlatM wr base gl d0 (List.replicate j []) D) :
    ∃ g c vs, Pr wr gl 28 (.slice (some ⟨g, 0, none⟩) j c) d0 ∧ wr.ownsRow base 23 1 (.slice (some ⟨g, 0, none⟩) j c) j vs ∧ base ≤ wr.heap.size ∧
      ∀ (w8 : World) (gg cap : Nat), ((wr.alloc (.cells #[] 3)).alloc (.cells #[.slice (some ⟨wr.heap.size, 0, none⟩) 0 0] 23)).grownBy w8 (Value.slice (some ⟨g, 0, none⟩) j c).ownBlock →
        w8.ownsRow base 23 1 (.slice (some ⟨gg, 0, none⟩) (j + 1) cap) (j + 1) (vs ++ [.slice (some ⟨wr.heap.size, 0, none⟩) 0 0]) →
        Pr w8 gl 28 (.slice (some ⟨g, 0, none⟩) j c) d0 ∧ Below base wr (w8.setCell ⟨gl, 0, none⟩ (.slice (some ⟨gg, 0, none⟩) (j + 1) cap)) ∧
        FlatM (w8.setCell ⟨gl, 0, none⟩ (.slice (some ⟨gg, 0, none⟩) (j + 1) cap)) base gl d0 (List.replicate (j + 1) []) D ∧
        ∀ (g0 : Nat) (x y : Value), Pr wr g0 123 x y → Pr (w8.setCell ⟨gl, 0, none⟩ (.slice (some ⟨gg, 0, none⟩) (j + 1) cap)) g0 123 x y := by
  obtain ⟨g, c, hp, ⟨vs, ho, hr⟩, hb, hgl⟩ := h
  rw [List.length_replicate] at hp ho
  refine ⟨g, c, vs, hp, ho, hb, fun w8 gg cap hg8 ho8 => ?_⟩
  have hg6 : wr.grownBy ((wr.alloc (.cells #[] 3)).alloc (.cells #[.slice (some ⟨wr.heap.size, 0, none⟩) 0 0] 23)) none := (World.grownBy_alloc _ _ _).trans (World.grownBy_alloc _ _ _)
  have ho6 := ho.kept hg6 (by cases hv : (Value.slice (some ⟨g, 0, none⟩) j c).ownBlock <;> simp)
  have hx6 : ((wr.alloc (.cells #[] 3)).alloc (.cells #[.slice (some ⟨wr.heap.size, 0, none⟩) 0 0] 23)).ownsRow base 3 1 (.slice (some ⟨wr.heap.size, 0, none⟩) 0 0) 0 [] :=
    (World.ownsRow_made (base := base) (e := 3) (size := 1) wr #[] 0 hb (by simp) (by simp)).alloc _
  have hx8 := own_aside hx6 ho6 (by decide) hg8
  have hp8 := box_row (hp.grown hg6 (by simp)) ho6 (by decide) hg8
  have hr6 := hr.grown hg6
  have hr8 : LRows w8 base (vs ++ [d0]) (List.replicate j [] ++ [D]) := ⟨hr6.1, fun i v L hv hL => own_aside (hr6.2.1 i v L hv hL) ho6 (by decide) hg8, hr6.2.2⟩
  have hs := gr_set w8 gl 0 (.slice (some ⟨gg, 0, none⟩) (j + 1) cap)
  have hvl : vs.length = (List.replicate j ([] : List Int)).length := by have := ho.1; simp; omega
  have hr9 := (hr8.insert (L := []) hvl hx8 (fun g2 i v hg2 hv hv2 => by
    simp only [Value.ownBlock, Option.some.injEq] at hg2
    subst hg2
    have hi : i < (List.replicate j ([] : List Int) ++ [D]).length := by rw [← hr.1]; exact (List.getElem?_eq_some_iff.1 hv).1
    have := ((hr.2.1 i v _ hv (List.getElem?_eq_getElem hi)).lt _ hv2).2
    omega))
  have hB : Below base wr w8 := ⟨hg8.os.trans hg6.os, hg8.tape.trans hg6.tape, hg8.output.trans hg6.output, Nat.le_trans hg6.size hg8.size, fun k hk => (hg8.block k (Nat.lt_of_lt_of_le (Nat.lt_of_lt_of_le hk hb) hg6.size) (fun e => by have := (ho.lt k e.symm).1; omega)).trans (hg6.block k (Nat.lt_of_lt_of_le hk hb) (by simp))⟩
  have e1 : List.replicate j ([] : List Int) ++ [[]] = List.replicate (j + 1) [] := by rw [List.replicate_succ']
  refine ⟨hp8, hB.trans (below_set hgl), ⟨gg, cap, by rw [List.length_replicate]; exact hp8.set0 _, ⟨_, by rw [List.length_replicate]; exact own_box ho8 hp8 (by decide) hs, ?_⟩, Nat.le_trans hb (Nat.le_trans hg6.size (Nat.le_trans hg8.size hs.size)), hgl⟩, fun g0 x y hpg => ?_⟩
  · rw [← e1]
    exact LRows.other hr9 hp8 (by decide) hs
  · have hpg8 := box_row (hpg.grown hg6 (by simp)) ho6 (by decide) hg8
    refine hpg8.grown hs (fun e => ?_)
    cases e
    unfold Pr at hpg8 hp8
    rw [hpg8] at hp8
    cases hp8

/-- The beginning: no levels, no numbers. -/
theorem flatm_start (w : World) (o : Obj) :
    FlatM ((((w.alloc o).alloc (.cells #[] 23)).alloc (.cells #[] 3)).alloc (.cells #[.slice (some ⟨w.heap.size + 1, 0, none⟩) 0 0, .slice (some ⟨w.heap.size + 1 + 1, 0, none⟩) 0 0] 28)) w.heap.size (w.heap.size + 1 + 1 + 1) (.slice (some ⟨w.heap.size + 1 + 1, 0, none⟩) 0 0) (List.replicate 0 []) [] := by
  have h1 := World.ownsRow_made (base := w.heap.size) (e := 23) (size := 1) (w.alloc o) #[] 0 (by simp) (by simp) (by simp)
  have h2 := World.ownsRow_made (base := w.heap.size) (e := 3) (size := 1) ((w.alloc o).alloc (.cells #[] 23)) #[] 0 (by simp; omega) (by simp) (by simp)
  have h3 := Pr.new (((w.alloc o).alloc (.cells #[] 23)).alloc (.cells #[] 3)) 28 (.slice (some ⟨w.heap.size + 1, 0, none⟩) 0 0) (.slice (some ⟨w.heap.size + 1 + 1, 0, none⟩) 0 0)
  rw [sz_alloc] at h1
  rw [sz_alloc, sz_alloc] at h2
  rw [sz_alloc, sz_alloc, sz_alloc] at h3
  refine ⟨w.heap.size + 1, 0, h3, ⟨[], (h1.alloc _).alloc _, ?_⟩, by simp; omega, by omega⟩
  refine ⟨rfl, fun i v L hv hL => ?_, fun i j v u g hne hv hu _ => ?_⟩
  · match i, hv, hL with
    | 0, hv, hL =>
      simp at hv hL
      subst hv hL
      exact h2.alloc _
    | i + 1, hv, _ => simp at hv
  · have hi := (List.getElem?_eq_some_iff.1 hv).1
    have hj := (List.getElem?_eq_some_iff.1 hu).1
    simp at hi hj
    omega

set_option maxRecDepth 100000 in
set_option maxHeartbeats 4000000 in
theorem rawlay_any (s : ByteArray) (n : Int) (w : World) : Calls Try.prog 104 #[.string s, .int .i64 n] w (RLPost s n w) := by
  by_cases h : 0 ≤ n ∧ n ≤ 3 ∧ s.size ≤ 400
  · obtain ⟨d, hd⟩ : ∃ d : Nat, n = d := ⟨n.toNat, by omega⟩
    subst hd
    have hdn : (d : Int).toNat = d := Int.toNat_natCast d
    have hd3 : d ≤ 3 := by omega
    have HC := Lib.hid (fun u => sread_in (d : Int) d s u rfl (by omega) (by omega) h.2.2)
    unfold RLPost
    rw [hdn]
    cases hr : readN s d with
    | none =>
      have hv : isArr s d = false := by unfold isArr; rw [hdn, hr]; simp
      have HR := Lib.hid hr
      have HV := Lib.hid hv
      clear h hv hr hdn
      go_enter Try.func104, Try.ntmps104
      go_wp2_with fail
      refine (HC.out _).mono ?_
      intro e w1 hp
      unfold SReadPost at hp
      rw [HR.out] at hp
      obtain ⟨rfl, hg⟩ := hp
      have HG := Lib.hid ((World.grownBy_alloc w (.cells #[.slice none 0 0, .slice none 0 0] 28) none).trans hg)
      have HP := Lib.hid ((Pr.new w 28 (.slice none 0 0) (.slice none 0 0)).grown hg (by simp))
      have HQ := Lib.hid (HP.out.alloc (.cells #[.int .i64 0, .slice none 0 0] 123))
      have r0 := HQ.out.c0
      have r1 := HQ.out.c1
      have r2 := HQ.out.f 0
      have r3 := HQ.out.f 1
      clear hg
      go_wp2_with fail
      have T1 := (HQ.out.set0 (.slice none 0 0)).set1 (.slice none 0 0)
      have q0 := T1.c0
      have q1 := T1.c1
      refine bodyPost_ret (v := .tuple #[.agg #[.slice none 0 0, .slice none 0 0], .bool false]) (by simp [results, Try.results104, go_sem, q0, q1]) rfl ?_
      exact .inl ⟨HV.out, rfl, gr_ownF (HG.out.trans (World.grownBy_alloc _ _ _)) ((gr_set _ w.heap.size 0 (.slice none 0 0)).trans (gr_set _ w.heap.size 1 (.slice none 0 0))) (fun k hk => by cases hk; exact Nat.le_refl _)⟩
    | some t =>
      have hv : isArr s d = true := by unfold isArr; rw [hdn, hr]; simp; omega
      have HR := Lib.hid hr
      have HV := Lib.hid hv
      have HSH := Lib.hid (lv_short (readN_short hr h.2.2))
      clear h hv hr hdn
      obtain ⟨i0, hi0, hz0, hz1, hz2⟩ := info_parts infoL
      go_enter Try.func104, Try.ntmps104
      go_wp2_with fail
      refine (HC.out _).mono ?_
      intro e w1 hp
      unfold SReadPost at hp
      rw [HR.out] at hp
      obtain ⟨m, sv, rfl, ⟨A, kk, cc, rfl⟩, hg, ha⟩ := hp
      have HG := Lib.hid ((World.grownBy_alloc w (.cells #[.slice none 0 0, .slice none 0 0] 28) none).trans hg)
      have HP := Lib.hid ((Pr.new w 28 (.slice none 0 0) (.slice none 0 0)).grown hg (by simp))
      have HA := Lib.hid ha
      clear hg ha
      go_wp2_with fail
      have hbw : Below w1.heap.size w1 ((((w1.alloc (.cells #[.int .i64 m, .slice A kk cc] 123)).alloc (.cells #[] 23)).alloc (.cells #[] 3)).alloc (.cells #[.slice (some ⟨w1.heap.size + 1, 0, none⟩) 0 0, .slice (some ⟨w1.heap.size + 1 + 1, 0, none⟩) 0 0] 28)) := by
        have hg := (((World.grownBy_alloc w1 (.cells #[.int .i64 m, .slice A kk cc] 123) none).trans (World.grownBy_alloc _ (.cells #[] 23) none)).trans (World.grownBy_alloc _ (.cells #[] 3) none)).trans (World.grownBy_alloc _ (.cells #[.slice (some ⟨w1.heap.size + 1, 0, none⟩) 0 0, .slice (some ⟨w1.heap.size + 1 + 1, 0, none⟩) 0 0] 28) none)
        exact ⟨hg.os, hg.tape, hg.output, hg.size, fun k hk => hg.block k hk (by simp)⟩
      have HFM := Lib.hid (flatm_start w1 (.cells #[.int .i64 m, .slice A kk cc] 123))
      have HND := Lib.hid ((((Pr.new w1 123 (.int .i64 m) (.slice A kk cc)).alloc (.cells #[] 23)).alloc (.cells #[] 3)).alloc (.cells #[.slice (some ⟨w1.heap.size + 1, 0, none⟩) 0 0, .slice (some ⟨w1.heap.size + 1 + 1, 0, none⟩) 0 0] 28))
      have HBW := Lib.hid hbw
      clear hbw
      generalize (((w1.alloc (.cells #[.int .i64 m, .slice A kk cc] 123)).alloc (.cells #[] 23)).alloc (.cells #[] 3)).alloc (.cells #[.slice (some ⟨w1.heap.size + 1, 0, none⟩) 0 0, .slice (some ⟨w1.heap.size + 1 + 1, 0, none⟩) 0 0] 28) = u0 at HFM HND HBW ⊢
      go_loopw [23] (fun i wr => ∃ (j : Nat), j ≤ d ∧ i = .int .i64 j ∧ Hid (FlatM wr w1.heap.size (w1.heap.size + 1 + 1 + 1) (.slice (some ⟨w1.heap.size + 1 + 1, 0, none⟩) 0 0) (List.replicate j []) []) ∧ Hid (Below w1.heap.size w1 wr) ∧ Hid (Pr wr w1.heap.size 123 (.int .i64 m) (.slice A kk cc))) (fun i _ => d - (intOf i).toNat)
      case atStart => exact ⟨0, Nat.zero_le _, rfl, HFM, HBW, HND⟩
      case round =>
        obtain ⟨j, hj, rfl, hfm, hbl, hnd⟩ := hrel
        by_cases hlt : j < d
        · obtain ⟨g, c, vs, hp, ho, hb, hst⟩ := flatm_step hfm.out
          have HST := Lib.hid hst
          have own6 := (ho.alloc (.cells #[] 3)).alloc (.cells #[.slice (some ⟨wr.heap.size, 0, none⟩) 0 0] 23)
          have p0 := hp.c0
          clear hp ho hst
          go_wp2_with (at_builtin; refine wpList_append_own_at _ rfl _ _ 22 rfl w1.heap.size 23 i0 (.slice none 0 0) 1 24 Try.underlying22 hi0 hz0 hz1 hz2 rfl (by decide) _ _ _ rfl own6 ⟨wr.heap.size + 1, 0, none⟩ 1 1 [(.slice (some ⟨wr.heap.size, 0, none⟩) 0 0)] rfl rfl ?h1 ?h2 ?h3 ?h4 ?h5 ?_)
          case h2 => simp [Value.oneCell']
          case h3 => simp only [maxLen]; omega
          case h4 => omega
          case h5 => first | omega | (simp; omega)
          case h1 =>
            have hcn := cell_one_new (wr.alloc (.cells #[] 3)) (.slice (some ⟨wr.heap.size, 0, none⟩) 0 0) 23
            rw [sz_alloc] at hcn
            exact hcn
          intro v8 w8 hown8 hg8 hnil8 _
          obtain ⟨g8, c8, rfl⟩ : ∃ g8 c8, v8 = .slice (some ⟨g8, 0, none⟩) (j + 1) c8 := by
            rcases hown8.2 with ⟨hv, hz⟩ | ⟨b8, cap8, cur8, hv8, _⟩
            · omega
            · exact ⟨b8, cap8, hv8⟩
          obtain ⟨hp8, hb8, hf8, hn8⟩ := HST.out w8 g8 c8 hg8 hown8
          have HB8 := Lib.hid hb8
          have HF8 := Lib.hid hf8
          have HN8 := Lib.hid (hn8 _ _ _ hnd.out)
          have x0 := hp8.c0
          have x1 := hp8.f 0
          clear hown8 hg8 hnil8 own6 hp8 hb8 hf8 hn8
          go_wp2_with fail
          go_roundw
          case rel => exact ⟨j + 1, by omega, by go_num, HF8, Lib.hid (hbl.out.trans HB8.out), HN8⟩
          case measure => simp [intOf]; omega
        · have hjn : j = d := by omega
          subst hjn
          have hs0 : SNd wr (fun b => b < w1.heap.size) j t (m, .slice A kk cc) := SNd.keep (fun b _ hb => hbl.out.block b hb) (fun b _ hb => hb) j t _ HA.out
          have hlay := laym_any j t (w1.heap.size + 1 + 1 + 1) w1.heap.size 0 (fun b => b < w1.heap.size) m A kk cc _ (List.replicate j []) [] wr hfm.out hs0 (fun b hb => hb) (by simp) (by omega) HSH.out.1 HSH.out.2
          have e1 : behind 0 (List.replicate j []) (lv j [t]) = lv j [t] := by rw [behind, List.take_zero, List.nil_append, List.drop_zero, lv_zero_add]
          rw [e1, List.nil_append] at hlay
          have HLY := Lib.hid hlay
          have n0 := hnd.out.c0
          have n1 := hnd.out.c1
          clear hs0 hlay e1
          go_wp2_with fail
          refine HLY.out.mono ?_
          rintro e w5 ⟨rfl, hb5, d5, hf5⟩
          have hg5 := gr_below (gr_refl w1 none) (hbl.out.trans hb5)
          have HG5 := Lib.hid (HG.out.trans hg5)
          have HP5 := Lib.hid (HP.out.grown hg5 (by simp))
          obtain ⟨g, c, hp5, hl5, _, hgl⟩ := hf5
          have hlc : (lv j [t]).length ≤ c := by
            obtain ⟨vs, ho, _⟩ := hl5
            rcases ho.2 with ⟨hv, _⟩ | ⟨_, _, _, hv, _, _, hnc, _⟩
            · cases hv
            · simp only [Value.slice.injEq] at hv; omega
          obtain ⟨⟨A8, c8, rfl, hi8, hd8, hn8⟩, hrw8, hcl8⟩ := hl5.reads
          have p0 := hp5.c0
          have p1 := hp5.c1
          have r0 := HP5.out.c0
          have r1 := HP5.out.c1
          have r2 := HP5.out.f 0
          have r3 := HP5.out.f 1
          have HL5 := Lib.hid hl5
          have HLC := Lib.hid hlc
          clear hb5 hg5 hp5 hl5 hi8 hd8 hn8 hrw8 hcl8 hlc n0 n1
          go_wp2_with fail
          have T1 := (HP5.out.set0 (.slice (some ⟨g, 0, none⟩) (lv j [t]).length c)).set1 (.slice A8 (dat j [t]).length c8)
          have q0 := T1.c0
          have q1 := T1.c1
          have hs1 := (gr_set w5 w.heap.size 0 (.slice (some ⟨g, 0, none⟩) (lv j [t]).length c)).trans (gr_set (w5.setCell ⟨w.heap.size, 0, none⟩ (.slice (some ⟨g, 0, none⟩) (lv j [t]).length c)) w.heap.size 1 (.slice A8 (dat j [t]).length c8))
          refine bodyPost_ret (v := .tuple #[.agg #[.slice (some ⟨g, 0, none⟩) (lv j [t]).length c, .slice A8 (dat j [t]).length c8], .bool true]) (by simp [results, Try.results104, go_sem, q0, q1]) rfl ?_
          clear q0 q1 r0 r1 r2 r3 p0 p1 T1
          obtain ⟨⟨A9, c9, hv9, hi9, hd9, hn9⟩, hrw9, hcl9⟩ := (HL5.out.other HP5.out (by decide) (by decide) hs1).reads
          cases hv9
          exact .inr ⟨HV.out, t, _, rfl, rfl, gr_ownF HG5.out hs1 (fun k hk => by cases hk; exact Nat.le_refl _), _, _, _, _, rfl, HLC.out, hd9, hrw9, hi9, hn9, hcl9⟩
  · have h' : n < 0 ∨ 3 < n ∨ 400 < s.size := by omega
    have hv : isArr s n = false := by unfold isArr; rw [decide_eq_false h]; rfl
    have HC := Lib.hid (fun u => sread_out n s u h')
    have HV := Lib.hid hv
    clear h h' hv
    go_enter Try.func104, Try.ntmps104
    go_wp2_with fail
    refine (HC.out _).mono ?_
    rintro e w1 ⟨rfl, hg⟩
    have HG := Lib.hid ((World.grownBy_alloc w (.cells #[.slice none 0 0, .slice none 0 0] 28) none).trans hg)
    have HP := Lib.hid ((Pr.new w 28 (.slice none 0 0) (.slice none 0 0)).grown hg (by simp))
    have HQ := Lib.hid (HP.out.alloc (.cells #[.int .i64 0, .slice none 0 0] 123))
    have r0 := HQ.out.c0
    have r1 := HQ.out.c1
    have r2 := HQ.out.f 0
    have r3 := HQ.out.f 1
    clear hg
    go_wp2_with fail
    have T1 := (HQ.out.set0 (.slice none 0 0)).set1 (.slice none 0 0)
    have q0 := T1.c0
    have q1 := T1.c1
    refine bodyPost_ret (v := .tuple #[.agg #[.slice none 0 0, .slice none 0 0], .bool false]) (by simp [results, Try.results104, go_sem, q0, q1]) rfl ?_
    exact .inl ⟨HV.out, rfl, gr_ownF (HG.out.trans (World.grownBy_alloc _ _ _)) ((gr_set _ w.heap.size 0 (.slice none 0 0)).trans (gr_set _ w.heap.size 1 (.slice none 0 0))) (fun k hk => by cases hk; exact Nat.le_refl _)⟩

/-- How LayOut of the model ends. -/
def SLPost (s : ByteArray) (n : Int) (w : World) (e : Ending) (w' : World) : Prop :=
  w.grownBy w' none ∧ ((isArr s n = false ∧ ∃ u, e = .returned (.tuple #[u, .bool false]) ∧ Lyt w' u [] []) ∨
  (isArr s n = true ∧ ∃ t u, readN s n.toNat = some t ∧ e = .returned (.tuple #[u, .bool true]) ∧ Lyt w' u (lv n.toNat [t]) (dat n.toNat [t])))

set_option maxRecDepth 100000 in
set_option maxHeartbeats 1000000 in
theorem slayout_any (s : ByteArray) (n : Int) (w : World) : Calls Try.prog 55 #[.string s, .int .i64 n] w (SLPost s n w) := by
  have HC := Lib.hid (fun u => rawlay_any s n u)
  go_enter Try.func55, Try.ntmps55
  go_wp2_with fail
  refine (HC.out _).mono ?_
  rintro e w1 hp
  have key : ∃ LL D b u, e = .returned (.tuple #[u, .bool b]) ∧ LytC w1 u LL D ∧ (w.alloc (.cells #[.slice none 0 0, .slice none 0 0] 28)).grownBy w1 none ∧ LL.length ≤ 1048576 ∧ (∀ M ∈ LL, M.length ≤ 1048576) ∧ D.length ≤ 1048576 ∧
      ((isArr s n = false ∧ b = false ∧ LL = [] ∧ D = []) ∨ (isArr s n = true ∧ b = true ∧ ∃ t, readN s n.toNat = some t ∧ LL = lv n.toNat [t] ∧ D = dat n.toNat [t])) := by
    rcases hp with ⟨hv, rfl, hg⟩ | ⟨hv, t, u, ht, rfl, hg, hl⟩
    · exact ⟨[], [], false, _, rfl, LytC.zero _, hg, by simp, by simp, by simp, .inl ⟨hv, rfl, rfl, rfl⟩⟩
    · have h0 : 0 ≤ n ∧ n ≤ 3 ∧ s.size ≤ 400 := by
        have := hv
        unfold isArr at this
        simp only [Bool.and_eq_true, decide_eq_true_eq] at this
        exact this.1
      have h1 := readN_short ht h0.2.2
      have hx : txs n.toNat [t] = (text n.toNat t).length := by simp [txs]
      refine ⟨_, _, true, u, rfl, hl, hg, by rw [lv_len]; omega, fun M hM => ?_, ?_, .inr ⟨hv, rfl, t, ht, rfl, rfl⟩⟩
      · have := lv_txs _ [t] M hM; omega
      · have := dat_txs _ [t]; omega
  obtain ⟨LL, D, b, u, rfl, hl, hg, b1, b2, b3, hcase⟩ := key
  have HO := Lib.hid (fun w h => ownl_any u LL D w h b1 b2 b3)
  have HCS := Lib.hid hcase
  have HG := Lib.hid ((World.grownBy_alloc w (.cells #[.slice none 0 0, .slice none 0 0] 28) none).trans hg)
  have HP := Lib.hid ((Pr.new w 28 (.slice none 0 0) (.slice none 0 0)).grown hg (by simp))
  have HL := Lib.hid hl
  obtain ⟨A, c, B, d, rfl, _⟩ := hl
  obtain ⟨na, hna⟩ : ∃ na, LL.length = na := ⟨_, rfl⟩
  obtain ⟨nd', hnd⟩ : ∃ nd', D.length = nd' := ⟨_, rfl⟩
  rw [hna, hnd] at HO HL ⊢
  clear hp hg hcase hna hnd b1 b2 b3 HC
  have HG1 := Lib.hid (HG.out.trans (World.grownBy_alloc w1 (.cells #[.slice A na c, .slice B nd' d] 28) none))
  have HP1 := Lib.hid (HP.out.alloc (.cells #[.slice A na c, .slice B nd' d] 28))
  have HL1 := Lib.hid (HL.out.grown (World.grownBy_alloc w1 (.cells #[.slice A na c, .slice B nd' d] 28) none))
  go_wp2_with fail
  generalize w1.alloc (.cells #[.slice A na c, .slice B nd' d] 28) = w2 at HG1 HP1 HL1 ⊢
  refine (HO.out _ HL1.out).mono ?_
  rintro e w3 ⟨u3, rfl, hg3, ho3⟩
  obtain ⟨A3, m3, c3, B3, k3, e3, hu3⟩ : ∃ A3 m3 c3 B3 k3 e3, u3 = .agg #[.slice A3 m3 c3, .slice B3 k3 e3] := by
    obtain ⟨A4, c4, B4, d4, hu, _⟩ := ho3.lyt
    exact ⟨_, _, _, _, _, _, hu⟩
  subst hu3
  have HG3 := Lib.hid (HG1.out.trans hg3)
  have HP3 := Lib.hid (HP1.out.grown hg3 (by simp))
  have HO3 := Lib.hid ho3
  have r0 := HP3.out.c0
  have r1 := HP3.out.c1
  have r2 := HP3.out.f 0
  have r3 := HP3.out.f 1
  clear hg3 ho3
  go_wp2_with fail
  have T1 := (HP3.out.set0 (.slice A3 m3 c3)).set1 (.slice B3 k3 e3)
  have q0 := T1.c0
  have q1 := T1.c1
  have hs1 := (gr_set w3 w.heap.size 0 (.slice A3 m3 c3)).trans (gr_set (w3.setCell ⟨w.heap.size, 0, none⟩ (.slice A3 m3 c3)) w.heap.size 1 (.slice B3 k3 e3))
  refine bodyPost_ret (v := .tuple #[.agg #[.slice A3 m3 c3, .slice B3 k3 e3], .bool b]) (by simp [results, Try.results55, go_sem, q0, q1]) rfl ?_
  clear q0 q1 r0 r1 r2 r3 T1
  have hly := (HO3.out.box HP3.out hs1).lyt
  refine ⟨gr_ownF HG3.out hs1 (fun k hk => by cases hk; exact Nat.le_refl _), ?_⟩
  rcases HCS.out with ⟨hv, rfl, rfl, rfl⟩ | ⟨hv, rfl, t, ht, rfl, rfl⟩
  · exact .inl ⟨hv, _, rfl, hly⟩
  · exact .inr ⟨hv, t, _, ht, rfl, hly⟩
end

end Go.Proofs.Ytbideeajdhejoaa
