/- What l2Put of the model does with a node: the levels and the numbers behind those that are there. -/
import Derived.Test.YtachjodnhgmoiaaPutB
import Derived.Maps.AppendAt
import Derived.Deep.RegionLaw
import Derived.Deep.AppendLies
import Derived.Deep.CutRange
import Derived.Test.YtachjodnhgmoiaaSNd
namespace Go.Proofs.Ytachjodnhgmoiaa
open Go.RowKit

/-- The model's struct of levels and numbers. -/
def FlatM (w : World) (base gf : Nat) (d : Value) (LL : List (List Int)) (D : List Int) : Prop :=
  ∃ g c, Pr w gf 30 (.slice (some ⟨g, 0, none⟩) LL.length c) d ∧ LaidAt w base g c d LL D ∧ base ≤ w.heap.size ∧ base ≤ gf
theorem FlatM.grown {w w' : World} {base gf : Nat} {d : Value} {LL : List (List Int)} {D : List Int} (h : FlatM w base gf d LL D) (hg : w.grownBy w' none) : FlatM w' base gf d LL D := by
  obtain ⟨g, c, hp, hl, hb, hgf⟩ := h
  exact ⟨g, c, hp.grown hg (by simp), hl.grown hg, Nat.le_trans hb hg.size, hgf⟩

/-- The first statement's facts: the level's row, and what the store does. -/
theorem len_stepM {w : World} {base gf k : Nat} {z : Int} {d : Value} {LL : List (List Int)} {D L : List Int} (h : FlatM w base gf d LL D) (hL : LL[k]? = some L) :
    ∃ g c A e, Pr w gf 30 (.slice (some ⟨g, 0, none⟩) LL.length c) d ∧ k < LL.length ∧ w.cell? ⟨g, k, none⟩ = some (.slice A L.length e) ∧ w.frozen? ⟨g, k, none⟩ = false ∧ base ≤ w.heap.size ∧
      w.ownsRow base 3 1 (.slice A L.length e) L.length (L.map (Value.int .i64)) ∧
      ∀ (w1 : World) (gg cap : Nat), w.grownBy w1 (Value.slice A L.length e).ownBlock → w1.ownsRow base 3 1 (.slice (some ⟨gg, 0, none⟩) (L.length + 1) cap) (L.length + 1) (L.map (Value.int .i64) ++ [.int .i64 z]) → ((Value.slice A L.length e).ownBlock = some gg ∨ w.heap.size ≤ gg) →
        (∃ cs, w1.heap[g]? = some (.cells cs 22 (0, 0))) ∧ (∃ y, w1.cell? ⟨g, k, none⟩ = some y) ∧ w1.frozen? ⟨g, k, none⟩ = false ∧ Pr w1 gf 30 (.slice (some ⟨g, 0, none⟩) LL.length c) d ∧
        Below base w (w1.setCell ⟨g, k, none⟩ (.slice (some ⟨gg, 0, none⟩) (L.length + 1) cap)) ∧ FlatM (w1.setCell ⟨g, k, none⟩ (.slice (some ⟨gg, 0, none⟩) (L.length + 1) cap)) base gf d (LL.set k (L ++ [z])) D := by
  obtain ⟨g, c, hp, h, hb, hgf⟩ := h
  obtain ⟨v, hc, hf, ho, hnx⟩ := h.level (z := z) hL
  have hk : k < LL.length := (List.getElem?_eq_some_iff.1 hL).1
  obtain ⟨A, m, e, rfl⟩ := own_form ho
  obtain rfl : m = L.length := own_len2 ho
  refine ⟨g, c, A, e, hp, hk, hc, hf, hb, ho, fun w1 gg cap hg hw hat => ?_⟩
  obtain ⟨hy, hf1, hl⟩ := hnx w1 (.slice (some ⟨gg, 0, none⟩) (L.length + 1) cap) hg hw (fun b hb => by cases hb; exact hat)
  have hp1 := hp.row ho (by decide) hg
  obtain ⟨vs, hov, _⟩ := h
  have hgb := (hov.lt g rfl).1
  have hs := gr_set w1 g k (.slice (some ⟨gg, 0, none⟩) (L.length + 1) cap)
  have hne : some gf ≠ some g := fun e2 => by
    cases e2
    obtain ⟨cs, hcs⟩ := own_cells hov
    unfold Pr at hp
    rw [hp] at hcs
    cases hcs
  obtain ⟨cs, hcs⟩ := own_cells hov
  have hgv : some g ≠ (Value.slice A L.length e).ownBlock := fun e2 => absurd (own_typ hov ho rfl e2.symm) (by decide)
  refine ⟨⟨cs, (hg.block g (hov.lt g rfl).2 hgv).trans hcs⟩, hy, hf1, hp1, (below_row ho hb hg).trans (below_set hgb), g, c, ?_, hl, Nat.le_trans hb (Nat.le_trans hg.size hs.size), hgf⟩
  have := hp1.grown hs hne
  rwa [List.length_set]

theorem flatM_at : ∀ (l : List (Int × Value)) (j : Nat) (x : Int × Value), l[j]? = some x → (flat2 l)[j * 2]? = some (.int .i64 x.1) ∧ (flat2 l)[j * 2 + 1]? = some x.2
  | [], j, x, h => by simp at h
  | (m, sv) :: l, 0, x, h => by simp at h; subst h; exact ⟨rfl, rfl⟩
  | (m, sv) :: l, j + 1, x, h => by
    have := flatM_at l j x (by simpa using h)
    have e1 : (j + 1) * 2 = j * 2 + 1 + 1 := by omega
    rw [e1]
    exact this
theorem srowM {w : World} {A : Option Addr} {k c : Nat} {xs : List (Int × Value)} (h : w.ownsRow 0 52 2 (.slice A k c) xs.length (flat2 xs)) :
    k = xs.length ∧ k ≤ c ∧ (0 < k → ∃ g, A = some ⟨g, 0, none⟩ ∧ ∀ (j : Nat) (x : Int × Value), xs[j]? = some x → w.cell? ⟨g, j * 2, none⟩ = some (.int .i64 x.1) ∧ w.cell? ⟨g, j * 2 + 1, none⟩ = some x.2) := by
  rcases h.2 with ⟨hv, hn⟩ | ⟨g, cap, cur, hv, _, hg, hnc, hcm, hcs, htake⟩
  · cases hv
    exact ⟨by omega, by omega, fun h => by omega⟩
  · cases hv
    refine ⟨rfl, hnc, fun _ => ⟨g, rfl, fun j x hj => ?_⟩⟩
    have hjl := (List.getElem?_eq_some_iff.1 hj).1
    have hf := flatM_at xs j x hj
    have hc : ∀ i, i < xs.length * 2 → w.cell? ⟨g, i, none⟩ = (flat2 xs)[i]? := fun i hi => by
      rw [cell_of_row w g i _ _ (0, 0) hg, ← htake, List.getElem?_take, if_pos hi]
      simp
    exact ⟨(hc _ (by omega)).trans hf.1, (hc _ (by omega)).trans hf.2⟩

/-- What l2Put does with an array of a depth. -/
def LayM (d : Nat) : Prop := ∀ (t : T d) (gf base k : Nat) (S : Nat → Prop) (m : Int) (A : Option Addr) (kk cc : Nat) (d0 : Value) (LL : List (List Int)) (D : List Int) (w : World), FlatM w base gf d0 LL D → SNd w S d t (m, .slice A kk cc) → (∀ b, S b → b < base) → LL.length = k + d → k + d ≤ 10 → Short (behind k LL (lv d [t])) → (D ++ dat d [t]).length ≤ 1000000 →
  Calls Try.prog 26 #[.pointer (some ⟨gf, 0, none⟩), .agg #[.int .i64 m, .slice A kk cc], .int .i64 k] w fun e w' => e = .returned (.tuple #[]) ∧ Below base w w' ∧ ∃ d', FlatM w' base gf d' (behind k LL (lv d [t])) (D ++ dat d [t])

/-- A number more behind all numbers, in the model's struct. -/
theorem data_stepM {w : World} {base gf : Nat} {z : Int} {d : Value} {LL : List (List Int)} {D : List Int} (h : FlatM w base gf d LL D) :
    ∃ g c A e, d = .slice A D.length e ∧ Pr w gf 30 (.slice (some ⟨g, 0, none⟩) LL.length c) (.slice A D.length e) ∧ base ≤ w.heap.size ∧ w.ownsRow base 3 1 (.slice A D.length e) D.length (D.map (Value.int .i64)) ∧
      ∀ (w1 : World) (gg cap : Nat), w.grownBy w1 (Value.slice A D.length e).ownBlock → w1.ownsRow base 3 1 (.slice (some ⟨gg, 0, none⟩) (D.length + 1) cap) (D.length + 1) (D.map (Value.int .i64) ++ [.int .i64 z]) → ((Value.slice A D.length e).ownBlock = some gg ∨ w.heap.size ≤ gg) →
        Pr w1 gf 30 (.slice (some ⟨g, 0, none⟩) LL.length c) (.slice A D.length e) ∧ Below base w (w1.setCell ⟨gf, 1, none⟩ (.slice (some ⟨gg, 0, none⟩) (D.length + 1) cap)) ∧ ∃ d', FlatM (w1.setCell ⟨gf, 1, none⟩ (.slice (some ⟨gg, 0, none⟩) (D.length + 1) cap)) base gf d' LL (D ++ [z]) := by
  obtain ⟨g, c, hp, h, hb, hgf⟩ := h
  obtain ⟨ho, hnx⟩ := h.data (z := z)
  obtain ⟨A, m, e, rfl⟩ := own_form ho
  have hm := own_len2 ho
  subst hm
  refine ⟨g, c, A, e, rfl, hp, hb, ho, fun w1 gg cap hg hw hat => ?_⟩
  have hl := hnx w1 (.slice (some ⟨gg, 0, none⟩) (D.length + 1) cap) hg hw (fun b hb => by cases hb; exact hat)
  have hp1 := hp.row ho (by decide) hg
  have hs := gr_set w1 gf 1 (.slice (some ⟨gg, 0, none⟩) (D.length + 1) cap)
  exact ⟨hp1, (below_row ho hb hg).trans (below_set hgf), _, g, c, hp1.set1 _, hl.other hp1 (by decide) (by decide) hs, Nat.le_trans hb (Nat.le_trans hg.size hs.size), hgf⟩

set_option maxRecDepth 100000 in
set_option maxHeartbeats 4000000 in
theorem laym0 : LayM 0 := by
  intro t gf base k S m A kk cc d0 LL D w h hr hS hlen hk hsh hdl
  have hz := hr.1
  have hll : LL.length = k := by omega
  have e1 : behind k LL (lv 0 [t]) = LL := by
    rw [behind, List.take_of_length_le (by omega), List.drop_of_length_le (by omega)]
    simp [addL]
  have e2 : dat 0 [t] = [m] := by simp only at hz; rw [hz]; rfl
  rw [e2, List.length_append] at hdl
  rw [e1, e2]
  have hg0 := World.grownBy_alloc w (.cells #[.int .i64 m, .slice A kk cc] 52) none
  have hN := Pr.new w 52 (.int .i64 m) (.slice A kk cc)
  have hB0 : Below base w (w.alloc (.cells #[.int .i64 m, .slice A kk cc] 52)) := by
    obtain ⟨_, _, _, _, hb, _⟩ := h
    exact ⟨hg0.os, hg0.tape, hg0.output, hg0.size, fun b hbb => hg0.block b (by omega) (by simp)⟩
  obtain ⟨g, c, A2, e, rfl, hp, hb, ho, hnx⟩ := data_stepM (z := m) (h.grown hg0)
  obtain ⟨i0, hi0, hz0, hz1, hz2⟩ := info_parts infoJ
  go_enter Try.func26, Try.ntmps26
  go_upto_region 1 with fail
  obtain ⟨u, hu⟩ : ∃ u, w.alloc (.cells #[.int .i64 m, .slice A kk cc] 52) = u := ⟨_, rfl⟩
  rw [hu] at hg0 hN hB0 hp hb ho hnx
  rw [hu]
  obtain ⟨q, hq⟩ : ∃ q, D.length = q := ⟨_, rfl⟩
  rw [hll] at hp hnx
  rw [hq] at hp ho hnx hdl
  have HNX := Lib.hid hnx
  have HO := Lib.hid ho
  have HB0 := Lib.hid hB0
  have HU := Lib.hid hu
  have hql : q ≤ 1000000 := by omega
  have own7 := HO.out.alloc (.cells #[.int .i64 m] 3)
  have own8 := own7.kept (gr_drew _ none) (by cases hv : (Value.slice A2 q e).ownBlock <;> simp)
  have c0 := hp.c0
  have c1 := hp.c1
  have n0 := hN.c0
  have c2 := (hp.alloc (.cells #[.int .i64 m] 3)).c1
  have c3 : ((u.alloc (.cells #[.int .i64 m] 3)).drew).cell? ⟨gf, 1, none⟩ = _ := c2
  have n1 := (hN.alloc (.cells #[.int .i64 m] 3)).c0
  have n2 : ((u.alloc (.cells #[.int .i64 m] 3)).drew).cell? ⟨w.heap.size, 0, none⟩ = _ := n1
  have n3 : (u.drew).cell? ⟨w.heap.size, 0, none⟩ = _ := n0
  have c4 : (u.drew).cell? ⟨gf, 1, none⟩ = _ := c1
  have hkk : ((k : Int) == (k : Int)) = true := by simp
  clear h hr hS hlen hsh hdl hz e1 e2 hg0 hN hB0 hp ho hnx hu hq hll
  go_upto_region 2 with fail
  go_region_law (first
    | (refine step_append_lies _ (by rfl) _ _ _ (by rfl) base 3 i0 _ 1 8 Try.underlying22 hi0 hz0 hz1 hz2 rfl (by omega) (.slice A2 q e) q (D.map (Value.int .i64)) (by rfl) own8 ⟨u.heap.size, 0, none⟩ 1 1 [.int .i64 m] (by rfl) (by rfl) (World.news_of_block (cs := #[.int .i64 m]) (t := 3) (fr := (0, 0)) (heap_alloc_new _ _)) (by simp [Value.oneCell']) (by omega) (by simp only [maxLen]; omega) (by omega) (by simp; omega) (u.heap.size + 1) (by simp) ?_
       intro gg cap w8 hown8 hg8 hat8 _
       have hgu : u.grownBy w8 (Value.slice A2 q e).ownBlock := World.grownBy.trans (by first | exact (World.grownBy_alloc u (.cells #[.int .i64 m] 3) _).trans (gr_drew _ _) | exact World.grownBy_alloc u (.cells #[.int .i64 m] 3) _) hg8
       obtain ⟨hp8, hb8, d8, hF8⟩ := HNX.out w8 gg cap hgu hown8 (by rcases hat8 with h | h; exact .inl h; right; omega)
       have x0 := hp8.c1
       have x1 := hp8.f 1
       have HB8 := Lib.hid hb8
       have HF8 := Lib.hid hF8
       clear hown8 hg8 hat8 hb8 hF8 hgu hp8)
    | (refine step_append_lies _ (by rfl) _ _ _ (by rfl) base 3 i0 _ 1 8 Try.underlying22 hi0 hz0 hz1 hz2 rfl (by omega) (.slice A2 q e) q (D.map (Value.int .i64)) (by rfl) own7 ⟨u.heap.size, 0, none⟩ 1 1 [.int .i64 m] (by rfl) (by rfl) (World.news_of_block (cs := #[.int .i64 m]) (t := 3) (fr := (0, 0)) (heap_alloc_new _ _)) (by simp [Value.oneCell']) (by omega) (by simp only [maxLen]; omega) (by omega) (by simp; omega) (u.heap.size + 1) (by simp) ?_
       intro gg cap w8 hown8 hg8 hat8 _
       have hgu : u.grownBy w8 (Value.slice A2 q e).ownBlock := World.grownBy.trans (by first | exact (World.grownBy_alloc u (.cells #[.int .i64 m] 3) _).trans (gr_drew _ _) | exact World.grownBy_alloc u (.cells #[.int .i64 m] 3) _) hg8
       obtain ⟨hp8, hb8, d8, hF8⟩ := HNX.out w8 gg cap hgu hown8 (by rcases hat8 with h | h; exact .inl h; right; omega)
       have x0 := hp8.c1
       have x1 := hp8.f 1
       have HB8 := Lib.hid hb8
       have HF8 := Lib.hid hF8
       clear hown8 hg8 hat8 hb8 hF8 hgu hp8))
  all_goals
    go_wp2_with fail
    refine bodyPost_ret (results_none rfl _ _ _) rfl ?_
    exact ⟨rfl, HB0.out.trans HB8.out, d8, HF8.out⟩

theorem pr_ne {w : World} {g0 g : Nat} {x y : Value} {cs : Array Value} (hp : Pr w g0 52 x y) (hcs : w.heap[g]? = some (.cells cs 22 (0, 0))) : some g0 ≠ some g := fun e => by
  cases e
  unfold Pr at hp
  rw [hp] at hcs
  cases hcs
theorem box_int {w w' : World} {base n g0 : Nat} {v x y : Value} {xs : List Value} (hp : Pr w g0 52 x y) (h : w.ownsRow base 3 1 v n xs) (hg : w.grownBy w' v.ownBlock) : Pr w' g0 52 x y :=
  hp.row h (by decide) hg

set_option maxRecDepth 100000 in
set_option maxHeartbeats 4000000 in
theorem laymS (d : Nat) (ih : LayM d) (hcnt : ∀ (ts : List (T d)) (k : Nat) (LL : List (List Int)) (D : List Int), LL.length = k + 1 + d → Short (behind (k + 1) LL (lv d ts)) → (D ++ dat d ts).length ≤ 1000000 → ts.length ≤ 1000000) : LayM (d + 1) := by
  intro t gf base k S m A kk cc d0 LL D w h hr hS hlen hk hsh hdl
  obtain ⟨xs, hox, hxs, ha⟩ := hr
  obtain ⟨L, hL⟩ : ∃ L, LL[k]? = some L := ⟨_, List.getElem?_eq_getElem (by omega)⟩
  have hl : L.length ≤ 1000000 := (hsh.of_behind hlen (lv_len _ _)).level hL
  obtain ⟨hkx, _, _⟩ := srowM hox
  have hmt : (prt t).length = kk := by rw [hkx]; exact All2.length _ _ ha
  clear hkx
  have hn1 : (LL.set k (L ++ [(kk : Int)])).length = k + 1 + d := by rw [List.length_set]; omega
  have hbe : behind k LL (lv (d + 1) [t]) = behind (k + 1) (LL.set k (L ++ [(kk : Int)])) (lv d (prt t)) := by
    rw [← hmt]; exact behind_node _ hlen hL
  have hde : dat (d + 1) [t] = dat d (prt t) := dat_one d _
  rw [hbe] at hsh
  rw [hde] at hdl
  rw [hbe, hde]
  have hkk6 : kk ≤ 1000000 := by rw [← hmt]; exact hcnt _ k _ D hn1 hsh hdl
  have HSH := Lib.hid hsh
  have HDL := Lib.hid hdl
  have HN1 := Lib.hid hn1
  have HMT := Lib.hid hmt
  have HA := Lib.hid ha
  have HSS := Lib.hid hS
  have HI := Lib.hid ih
  have HXL := Lib.hid (All2.length _ _ ha)
  have HX := Lib.hid (fun (w' : World) (hb : Below base w w') => (own_keep hox (fun g hg => hb.block g (hS g (hxs g hg))) : w'.ownsRow 0 52 2 _ xs.length (flat2 xs)))
  have HAB := Lib.hid (fun (w' : World) (hb : Below base w w') => (All2.mono (SNd.keep (w' := w') (S' := S) (fun b hs _ => hb.block b (hS b hs)) (fun _ hs _ => hs) d) (prt t) xs ha))
  have hg0 := World.grownBy_alloc w (.cells #[.int .i64 m, .slice A kk cc] 52) none
  have hN := Pr.new w 52 (.int .i64 m) (.slice A kk cc)
  have hB0 : Below base w (w.alloc (.cells #[.int .i64 m, .slice A kk cc] 52)) := by
    obtain ⟨_, _, _, _, hb, _⟩ := h
    exact ⟨hg0.os, hg0.tape, hg0.output, hg0.size, fun b hbb => hg0.block b (by omega) (by simp)⟩
  obtain ⟨g, c, A2, e, hp, hkl, hc, hf, hb, ho, hnx⟩ := len_stepM (z := (kk : Int)) (h.grown hg0) hL
  obtain ⟨i0, hi0, hz0, hz1, hz2⟩ := info_parts infoJ
  go_enter Try.func26, Try.ntmps26
  go_upto_region 1 with fail
  obtain ⟨u, hu⟩ : ∃ u, w.alloc (.cells #[.int .i64 m, .slice A kk cc] 52) = u := ⟨_, rfl⟩
  rw [hu] at hg0 hN hB0 hp hb hc hf ho hnx
  rw [hu]
  obtain ⟨q, hq⟩ : ∃ q, L.length = q := ⟨_, rfl⟩
  obtain ⟨n, hn⟩ : ∃ n, LL.length = n := ⟨_, rfl⟩
  rw [hn] at hp hnx hkl
  rw [hq] at hc ho hnx hl
  have HNX := Lib.hid hnx
  have HO := Lib.hid ho
  have HN := Lib.hid hN
  have HB0 := Lib.hid hB0
  have HNN := Lib.hid hn
  have own7 := HO.out.alloc (.cells #[.int .i64 (kk : Int)] 3)
  have own8 := own7.kept (gr_drew _ none) (by cases hv : (Value.slice A2 q e).ownBlock <;> simp)
  have c0 := hp.c0
  have c1 : (u.drew).cell? ⟨gf, 0, none⟩ = _ := c0
  have c2 := (hp.alloc (.cells #[.int .i64 (kk : Int)] 3)).c0
  have c3 : ((u.alloc (.cells #[.int .i64 (kk : Int)] 3)).drew).cell? ⟨gf, 0, none⟩ = _ := c2
  have n0 := hN.c1
  have n3 : (u.drew).cell? ⟨w.heap.size, 1, none⟩ = _ := n0
  have n1 := (hN.alloc (.cells #[.int .i64 (kk : Int)] 3)).c1
  have n2 : ((u.alloc (.cells #[.int .i64 (kk : Int)] 3)).drew).cell? ⟨w.heap.size, 1, none⟩ = _ := n1
  have hc1 : (u.drew).cell? ⟨g, k, none⟩ = _ := hc
  have hc2 := (World.grownBy_alloc u (.cells #[.int .i64 (kk : Int)] 3) none).cell hc (by simp)
  have hc3 : ((u.alloc (.cells #[.int .i64 (kk : Int)] 3)).drew).cell? ⟨g, k, none⟩ = _ := hc2
  have hkn : ((k : Int) == (n : Int)) = false := by rw [beq_eq_false_iff_ne]; omega
  have hkd : k + (d + 1) ≤ 10 := hk
  have hk10 : k ≤ 10 := by omega
  clear h hS ha hox hxs hlen hk hsh hdl hbe hde hn1 hmt hL hg0 hN hB0 hp ho hnx hu hq hn ih hcnt
  go_upto_region 3 with fail
  go_cut [] from 15 to 43 (fun wx => Hid (Below base u wx) ∧ Hid (FlatM wx base gf d0 (LL.set k (L ++ [(kk : Int)])) D) ∧ Hid (Pr wx w.heap.size 52 (.int .i64 m) (.slice A kk cc)))
  case first =>
   go_region_law (first
    | (refine step_append_lies _ (by rfl) _ _ _ (by rfl) base 3 i0 _ 1 8 Try.underlying22 hi0 hz0 hz1 hz2 rfl (by omega) (.slice A2 q e) q (L.map (Value.int .i64)) (by rfl) own8 ⟨u.heap.size, 0, none⟩ 1 1 [.int .i64 (kk : Int)] (by rfl) (by rfl) (World.news_of_block (cs := #[.int .i64 (kk : Int)]) (t := 3) (fr := (0, 0)) (heap_alloc_new _ _)) (by simp [Value.oneCell']) (by omega) (by simp only [maxLen]; omega) (by omega) (by simp; omega) (u.heap.size + 1) (by simp) ?_
       intro gg cap w8 hown8 hg8 hat8 _
       have hgu : u.grownBy w8 (Value.slice A2 q e).ownBlock := World.grownBy.trans (by first | exact (World.grownBy_alloc u (.cells #[.int .i64 (kk : Int)] 3) _).trans (gr_drew _ _) | exact World.grownBy_alloc u (.cells #[.int .i64 (kk : Int)] 3) _) hg8
       obtain ⟨⟨cs8, hcs8⟩, ⟨y8, hy8⟩, hf8, hp8, hb8, hF8⟩ := HNX.out w8 gg cap hgu hown8 (by rcases hat8 with h | h; exact .inl h; right; omega)
       have x0 := hp8.c0
       have HB8 := Lib.hid hb8
       have HF8 := Lib.hid hF8
       have HN8 := Lib.hid ((box_int HN.out HO.out hgu).grown (gr_set w8 g k (.slice (some ⟨gg, 0, none⟩) (q + 1) cap)) (pr_ne (box_int HN.out HO.out hgu) hcs8))
       clear hown8 hg8 hat8 hb8 hF8 hgu hp8 hcs8)
    | (refine step_append_lies _ (by rfl) _ _ _ (by rfl) base 3 i0 _ 1 8 Try.underlying22 hi0 hz0 hz1 hz2 rfl (by omega) (.slice A2 q e) q (L.map (Value.int .i64)) (by rfl) own7 ⟨u.heap.size, 0, none⟩ 1 1 [.int .i64 (kk : Int)] (by rfl) (by rfl) (World.news_of_block (cs := #[.int .i64 (kk : Int)]) (t := 3) (fr := (0, 0)) (heap_alloc_new _ _)) (by simp [Value.oneCell']) (by omega) (by simp only [maxLen]; omega) (by omega) (by simp; omega) (u.heap.size + 1) (by simp) ?_
       intro gg cap w8 hown8 hg8 hat8 _
       have hgu : u.grownBy w8 (Value.slice A2 q e).ownBlock := World.grownBy.trans (by first | exact (World.grownBy_alloc u (.cells #[.int .i64 (kk : Int)] 3) _).trans (gr_drew _ _) | exact World.grownBy_alloc u (.cells #[.int .i64 (kk : Int)] 3) _) hg8
       obtain ⟨⟨cs8, hcs8⟩, ⟨y8, hy8⟩, hf8, hp8, hb8, hF8⟩ := HNX.out w8 gg cap hgu hown8 (by rcases hat8 with h | h; exact .inl h; right; omega)
       have x0 := hp8.c0
       have HB8 := Lib.hid hb8
       have HF8 := Lib.hid hF8
       have HN8 := Lib.hid ((box_int HN.out HO.out hgu).grown (gr_set w8 g k (.slice (some ⟨gg, 0, none⟩) (q + 1) cap)) (pr_ne (box_int HN.out HO.out hgu) hcs8))
       clear hown8 hg8 hat8 hb8 hF8 hgu hp8))
   all_goals
     go_wp2_with fail
     go_meet
     exact ⟨HB8, HF8, HN8⟩
  case rest =>
   obtain ⟨HB1, HF1, HN1'⟩ := hcut
   clear c0 c1 c2 c3 n0 n1 n2 n3 hc hc1 hc2 hc3 hkn own7 own8 hf
   have n0 := HN1'.out.c1
   go_wp2_with fail
   clear n0
   have wk : IntKind.i64.wrap ((k : Int) + 1) = (k : Int) + 1 := IntWalk.i64_in _ (by omega)
   go_loopw [47] (fun i wr => ∃ (j : Nat), j ≤ kk ∧ i = .int .i64 j ∧ Hid (Below base w wr) ∧ Hid (∃ d', FlatM wr base gf d' (behind (k + 1) (LL.set k (L ++ [(kk : Int)])) (lv d ((prt t).take j))) (D ++ dat d ((prt t).take j)))) (fun i _ => kk - (intOf i).toNat)
   case atStart => exact ⟨0, Nat.zero_le _, rfl, Lib.hid (HB0.out.trans HB1.out), Lib.hid ⟨d0, by rw [List.take_zero, behind_nil HN1.out, dat_nil, List.append_nil]; exact HF1.out⟩⟩
   case round =>
    obtain ⟨j, hj, rfl, hbl, hfe⟩ := hrel
    obtain ⟨d', hfl⟩ := hfe.out
    have HFL := Lib.hid hfl
    clear hfl
    by_cases hlt : j < kk
    · obtain ⟨tt, x, ht, hx, hnd⟩ := All2.nth (j := j) (HAB.out wr hbl.out) (by have := HXL.out; have := HMT.out; unfold prt at this; omega)
      obtain ⟨g3, rfl, hcells⟩ := (srowM (HX.out wr hbl.out)).2.2 (by omega)
      obtain ⟨m3, sv3⟩ := x
      obtain ⟨A3, k3, c3, hsv⟩ := hnd.form
      simp only at hsv
      subst hsv
      have hx1 := hcells j _ hx
      obtain ⟨hx1, hx2⟩ := hx1
      have hga := World.grownBy_alloc wr (.cells #[.int .i64 m3, .slice A3 k3 c3] 52) none
      have HBA := Lib.hid (show Below base wr (wr.alloc (.cells #[.int .i64 m3, .slice A3 k3 c3] 52)) from by
        obtain ⟨_, _, _, _, hb, _⟩ := HFL.out
        exact ⟨hga.os, hga.tape, hga.output, hga.size, fun b hbb => hga.block b (by omega) (by simp)⟩)
      have HC := Lib.hid (HI.out tt gf base (k + 1) S m3 A3 k3 c3 d' _ _ (wr.alloc (.cells #[.int .i64 m3, .slice A3 k3 c3] 52)) (HFL.out.grown hga) (SNd.keep (S' := S) (fun b hs _ => HBA.out.block b (HSS.out b hs)) (fun _ hs _ => hs) d tt _ hnd) HSS.out (behind_len HN1.out (lv_len d _)) (by omega)
        (by rw [behind_step HN1.out ht]; exact HSH.out.part HN1.out) (by rw [List.append_assoc, ← dat_step ht, List.length_append]; have := dat_part (d := d) (ts := prt t) (j + 1); have := HDL.out; rw [List.length_append] at this; omega))
      rw [behind_step HN1.out ht, List.append_assoc, ← dat_step ht] at HC
      rw [show ((k + 1 : Nat) : Int) = (k : Int) + 1 from by omega] at HC
      clear ht hx hcells hnd hga
      go_wp2_with fail
      refine HC.out.mono ?_
      rintro e w5 ⟨rfl, hb5, d5, hf5⟩
      have HB5 := Lib.hid (hbl.out.trans (HBA.out.trans hb5))
      have HF5 := Lib.hid hf5
      clear hb5 hf5
      go_wp2_with fail
      go_roundw
      case rel => exact ⟨j + 1, by omega, by go_num, HB5, Lib.hid ⟨d5, HF5.out⟩⟩
      case measure => simp [intOf]; omega
    · have hjn : j = kk := by omega
      have HJ := Lib.hid hjn
      clear hjn
      go_wp2_with fail
      go_end0
      have e : (prt t).take j = prt t := List.take_of_length_le (by have := HJ.out; have := HMT.out; omega)
      have h2 := HFL.out
      rw [e] at h2
      exact ⟨rfl, hbl.out, d', h2⟩

theorem cnt0 (ts : List (T 0)) (k : Nat) (LL : List (List Int)) (D : List Int) (_ : LL.length = k + 1 + 0) (_ : Short (behind (k + 1) LL (lv 0 ts))) (h : (D ++ dat 0 ts).length ≤ 1000000) : ts.length ≤ 1000000 := by
  have e : (dat 0 ts).length = ts.length := List.length_map _
  rw [List.length_append, e] at h
  omega
theorem laym_any : ∀ d, LayM d
  | 0 => laym0
  | 1 => laymS 0 laym0 cnt0
  | d + 2 => laymS (d + 1) (laym_any (d + 1)) (fun _ _ _ _ hl hs _ => parts_le hl hs)

end Go.Proofs.Ytachjodnhgmoiaa
