/- What the stacks of the program do: loops that have begun, pushed and taken. -/
import Derived.Test.YtdfanconjiiceaaDoorStk2
import Derived.Test.YtdfanconjiiceaaDoorPr
import Derived.Deep.RegionLaw
import Derived.Deep.AppendLies
namespace Go.Proofs.YtdfanconjiiceaaDoor
open Go.RowKit

/-- The last two cells of a row. -/
theorem own_last2 {w : World} {base n c : Nat} {e : TypeId} {A : Option Addr} {xs : List Value} {x y : Value} (h : w.ownsRow base e 2 (.slice A (n + 1) c) (n + 1) (xs ++ [x, y])) :
    ∃ g, A = some ⟨g, 0, none⟩ ∧ g < w.heap.size ∧ n + 1 ≤ c ∧ xs.length = n * 2 ∧ w.cell? ⟨g, n * 2, none⟩ = some x ∧ w.cell? ⟨g, n * 2 + 1, none⟩ = some y := by
  have hl := h.1
  simp at hl
  rcases h.2 with ⟨_, hn⟩ | ⟨g, cap, cur, hv, hb, hg, hnc, hcm, hcs, htake⟩
  · omega
  · cases hv
    refine ⟨g, rfl, (Array.getElem?_eq_some_iff.1 hg).1, hnc, by omega, ?_, ?_⟩
    · rw [cell_of_row w g _ _ _ (0, 0) hg]
      have h1 : (cur.toList.take ((n + 1) * 2))[n * 2]? = some x := by rw [htake, List.getElem?_append_right (by omega), show n * 2 - xs.length = 0 by omega]; rfl
      rw [List.getElem?_take, if_pos (by omega)] at h1
      simpa using h1
    · rw [cell_of_row w g _ _ _ (0, 0) hg]
      have h1 : (cur.toList.take ((n + 1) * 2))[n * 2 + 1]? = some y := by rw [htake, List.getElem?_append_right (by omega), show n * 2 + 1 - xs.length = 1 by omega]; rfl
      rw [List.getElem?_take, if_pos (by omega)] at h1
      simpa using h1

set_option maxRecDepth 100000 in
set_option maxHeartbeats 1000000 in
theorem pop_o_none (b : Nat) (A : Option Addr) (c : Nat) (v0 : Value) (w : World) (h : CR w b v0 (.slice A 0 c)) :
    Calls Tryd.prog 49 #[.pointer (some ⟨b, 1, none⟩)] w fun e w' => e = .returned (.tuple #[.agg #[.pointer none, .slice none 0 0], .bool false]) ∧ w.grownBy w' none := by
  have c1 := (h.alloc (.cells #[.pointer none, .slice none 0 0] 117)).c1
  have hp := Pr.new w 117 (.pointer none) (.slice none 0 0)
  have p0 := hp.c0
  have p1 := hp.c1
  clear h hp
  go_enter Tryd.func49, Tryd.ntmps49
  go_wp2_with fail
  refine bodyPost_ret (v := .tuple #[.agg #[.pointer none, .slice none 0 0], .bool false]) (by simp [results, Tryd.results49, go_sem, p0, p1]) rfl ⟨rfl, World.grownBy_alloc _ _ _⟩

set_option maxRecDepth 100000 in
set_option maxHeartbeats 1000000 in
theorem pop_o_some (n0 b : Nat) (A : Option Addr) (n c : Nat) (v0 : Value) (q : Addr) (B : Option Addr) (k d : Nat) (vs : List Value) (w : World) (h : CR w b v0 (.slice A (n + 1) c)) (ho : w.ownsRow n0 117 2 (.slice A (n + 1) c) (n + 1) (vs ++ [.pointer (some q), .slice B k d])) (hl : n ≤ 1000000) :
    Calls Tryd.prog 49 #[.pointer (some ⟨b, 1, none⟩)] w fun e w' => e = .returned (.tuple #[.agg #[.pointer (some q), .slice B k d], .bool true]) ∧ Chg (fun j => j = b) w w' ∧ CR w' b v0 (.slice A n c) := by
  obtain ⟨g, rfl, hg, hnc, _, hx, hy⟩ := own_last2 ho
  have hgb : g ≠ b := fun e => own_not ho h (by decide) (by rw [e]; rfl)
  obtain ⟨w1, hw1⟩ : ∃ x, w.alloc (.cells #[.pointer none, .slice none 0 0] 117) = x := ⟨_, rfl⟩
  have hz : w1.heap.size = w.heap.size + 1 := by rw [← hw1]; simp
  have hcr : CR w1 b v0 (.slice (some ⟨g, 0, none⟩) (n + 1) c) := by rw [← hw1]; exact h.alloc _
  have c1 := hcr.c1
  have hx1 : w1.cell? ⟨g, n * 2, none⟩ = some (.pointer (some q)) := by rw [← hw1]; exact (World.grownBy_alloc w _ none).cell hx (by simp)
  have hy1 : w1.cell? ⟨g, n * 2 + 1, none⟩ = some (.slice B k d) := by rw [← hw1]; exact (World.grownBy_alloc w _ none).cell hy (by simp)
  have f1 := hcr.f 1
  have hc0 : ¬ c = 0 := by omega
  have hlt : n < n + 1 := by omega
  have hp : Pr w1 w.heap.size 117 (.pointer none) (.slice none 0 0) := by rw [← hw1]; exact Pr.new w _ _ _
  have q0 := hp.f 0
  have q1 := hp.f 1
  have p0 := hp.c0
  have p1 := hp.c1
  have hbs : ¬ b = w.heap.size := by have := h.lt; omega
  have HCR := Lib.hid hcr
  have HP := Lib.hid hp
  clear h ho hcr hp
  go_enter Tryd.func49, Tryd.ntmps49
  go_wp2_with fail
  clear c1 hx1 hy1 f1 q0 q1 p0 p1
  have hne : some b ≠ some w.heap.size := fun e => hbs (by simpa using e)
  have hne' : some w.heap.size ≠ some b := fun e => hne e.symm
  have hP1 := (HP.out.set0 (.pointer (some q))).set1 (.slice B k d)
  have hC1 := (HCR.out.grown (gr_set w1 w.heap.size 0 (.pointer (some q))) hne).grown (gr_set _ w.heap.size 1 (.slice B k d)) hne
  have hC2 := hC1.set1 (.slice (some ⟨g, 0, none⟩) n c)
  have hP2 := ((hP1.grown (gr_set _ b 1 (.slice (some ⟨g, 0, none⟩) n c)) hne').set0 (.pointer (some q))).set1 (.slice B k d)
  have hC3 := (hC2.grown (gr_set _ w.heap.size 0 (.pointer (some q))) hne).grown (gr_set _ w.heap.size 1 (.slice B k d)) hne
  have m0 := hP2.c0
  have m1 := hP2.c1
  refine bodyPost_ret (v := .tuple #[.agg #[.pointer (some q), .slice B k d], .bool true]) (by simp [results, Tryd.results49, go_sem, m0, m1]) rfl ⟨rfl, ?_, hC3⟩
  have hs : ∀ (u : World) (g' i : Nat) (x : Value), g' = b ∨ w.heap.size ≤ g' → Chg (fun j => j = b ∨ w.heap.size ≤ j) u (u.setCell ⟨g', i, none⟩ x) := fun u g' i x hg' => Chg.row (gr_set u g' i x) (fun j hj => by cases hj; exact hg')
  have ht : ∀ {u v z : World}, Chg (fun j => j = b ∨ w.heap.size ≤ j) u v → Chg (fun j => j = b ∨ w.heap.size ≤ j) v z → Chg (fun j => j = b ∨ w.heap.size ≤ j) u z := fun h1 h2 => h1.trans h2 (fun _ _ h => h) (fun _ _ h => h)
  have h1 : Chg (fun j => j = b ∨ w.heap.size ≤ j) w w1 := by rw [← hw1]; exact Chg.grown (World.grownBy_alloc _ _ _)
  exact (ht h1 (ht (hs _ _ _ _ (.inr (Nat.le_refl _))) (ht (hs _ _ _ _ (.inr (Nat.le_refl _))) (ht (hs _ _ _ _ (.inl rfl)) (ht (hs _ _ _ _ (.inr (Nat.le_refl _))) (hs _ _ _ _ (.inr (Nat.le_refl _)))))))).mono (fun i hi h => h.elim id (fun h => by omega))

/-- How a push of a loop ends. -/
def PushO (n0 b : Nat) (v0 v1 : Value) (xs : List Value) (n : Nat) (vs : List Value) (w : World) (e : Ending) (w' : World) : Prop :=
  e = .returned (.tuple #[]) ∧ ∃ u, CR w' b v0 u ∧ w'.ownsRow n0 117 2 u (n + 1) (vs ++ xs) ∧ Chg (fun k => k = b ∨ v1.ownBlock = some k) w w'

set_option maxRecDepth 100000 in
set_option maxHeartbeats 2000000 in
theorem push_o (n0 b : Nat) (v0 v1 : Value) (q : Addr) (B : Option Addr) (k d n : Nat) (vs : List Value) (w : World) (h : CR w b v0 v1) (ho : w.ownsRow n0 117 2 v1 n vs) (hl : n ≤ 1000000) (hn : n0 ≤ w.heap.size) :
    Calls Tryd.prog 59 #[.pointer (some ⟨b, 1, none⟩), .agg #[.pointer (some q), .slice B k d]] w (PushO n0 b v0 v1 [.pointer (some q), .slice B k d] n vs w) := by
  obtain ⟨i0, hi0, hz0, hz1, hz2⟩ : ∃ i : TypeInfo, Tryd.prog.info? 117 = some i ∧ i.zero = some (.agg #[.pointer none, .slice none 0 0]) ∧ i.size = 2 ∧ i.bytes = 32 := by
    obtain ⟨i, hi, hzz⟩ := Option.map_eq_some_iff.1 infoOut
    simp only [Prod.mk.injEq] at hzz
    exact ⟨i, hi, hzz.1, hzz.2.1, hzz.2.2⟩
  obtain ⟨A, kk, c, rfl⟩ := own_form ho
  have hkn : kk = n := by
    rcases ho.2 with ⟨hv, hn⟩ | ⟨g, cap, cur, hv, _⟩
    · cases hv; exact hn.symm
    · cases hv; rfl
  subst hkn
  obtain ⟨w1, hw1⟩ : ∃ x, w.alloc (.cells #[.pointer (some q), .slice B k d] 117) = x := ⟨_, rfl⟩
  obtain ⟨w2, hw2⟩ : ∃ x, w1.drew.alloc (.cells #[.pointer (some q), .slice B k d] 117) = x := ⟨_, rfl⟩
  have HZ1 := Lib.hid (show w1.heap.size = w.heap.size + 1 by rw [← hw1]; simp)
  have g1 : w.grownBy w1 none := by rw [← hw1]; exact World.grownBy_alloc _ _ _
  have g2 : w1.grownBy w2 none := by rw [← hw2]; exact (gr_drewN w1 1 none).trans (World.grownBy_alloc w1.drew _ none)
  have HB : Hid ((Value.slice A kk c).ownBlock ≠ some b) := Lib.hid (own_not ho h (by decide))
  have hp1 : Pr w1 w.heap.size 117 (.pointer (some q)) (.slice B k d) := by rw [← hw1]; exact Pr.new w _ _ _
  have hp2 : Pr w2 w1.heap.size 117 (.pointer (some q)) (.slice B k d) := by rw [← hw2]; exact Pr.new w1.drew _ _ _
  have h1 : CR w1 b v0 (.slice A kk c) := h.grown g1 (by simp)
  have h2 : CR w2 b v0 (.slice A kk c) := h1.grown g2 (by simp)
  have own2 := own_keep (own_keep ho (fun k hk => g1.block k (ho.lt k hk).2 (by simp))) (fun k hk => g2.block k (by have := (ho.lt k hk).2; have := HZ1.out; omega) (by simp))
  have c1 := h1.c1
  have d1 := h2.c1
  have p0 := hp1.c0
  have p1 := hp1.c1
  have HNL := Lib.hid (fun (j : Nat) (u : Value) (hj : ([.pointer (some q), .slice B k d] : List Value)[j]? = some u) => (World.news_of_block (cs := #[.pointer (some q), .slice B k d]) hp2 j u hj : w2.cell? ((⟨w1.heap.size, 0, none⟩ : Addr).add j) = some u))
  have H2 := Lib.hid h2
  have HG := Lib.hid (g1.trans g2)
  have HO := Lib.hid own2
  clear h ho h1 h2 hp1 hp2 g1 g2
  go_enter Tryd.func59, Tryd.ntmps59
  have hnz : n0 ≤ w2.heap.size := Nat.le_trans hn HG.out.size
  go_wp2_with fail
  go_region_law (first
    | (refine step_append_lies _ (by rfl) _ _ _ (by rfl) n0 117 i0 _ 2 32 Tryd.underlying81 hi0 hz0 hz1 hz2 rfl (by omega) _ kk vs (by rfl) HO.out ⟨w1.heap.size, 0, none⟩ 1 1 [.pointer (some q), .slice B k d] (by rfl) (by rfl) HNL.out (by simp [Value.oneCell']) (by omega) (by simp only [maxLen]; omega) (by omega) hnz w2.heap.size rfl ?_
       intro gg cap w8 hown8 hg8 hat8 hlt8
       have HC8 : CR w8 b v0 (.slice A kk c) := H2.out.grown hg8 (fun e => HB.out e.symm)
       have e1 := HC8.c1
       have f8 := HC8.f 1
       have HX := Lib.hid HC8
       have HO8 := Lib.hid hown8
       have HG8 := Lib.hid hg8
       clear hown8 hg8 hat8 HC8))
  all_goals
    go_end0
    have hc1 : Chg (fun j => j = b ∨ (Value.slice A kk c).ownBlock = some j) w w8 := (Chg.grown HG.out).trans (Chg.row HG8.out (fun j hj => .inr hj)) (fun _ _ h => h) (fun _ _ h => h)
    have hc2 := hc1.trans (Chg.row (wr := fun j => j = b ∨ (Value.slice A kk c).ownBlock = some j) (gr_set w8 b 1 (.slice (some ⟨gg, 0, none⟩) (kk + 1) cap)) (fun j hj => .inl (by simpa using hj.symm))) (fun _ _ h => h) (fun _ _ h => h)
    have hne : ∀ g, (Value.slice (some ⟨gg, 0, none⟩) (kk + 1) cap).ownBlock = some g → g ≠ b := fun g hg e => own_not HO8.out HX.out (by decide) (e ▸ hg)
    exact ⟨rfl, _, HX.out.set1 _, own_keep HO8.out (fun g hg => Below.heap_setCell _ _ _ _ (hne g hg)), hc2⟩

end Go.Proofs.YtdfanconjiiceaaDoor
