/- What the model's builder of terms does: push, pop. -/
import Derived.Test.YtohdlnkkchijnaaGreatDoorMachS
import Derived.Test.YtohdlnkkchijnaaGreatDoorSSizeF
import Derived.Test.YtohdlnkkchijnaaGreatDoorStk3
import Derived.Test.YtohdlnkkchijnaaGreatDoorTSignF
namespace Go.Proofs.YtohdlnkkchijnaaGreatDoor
open Go.RowKit

theorem infoND : (Tryz.prog.info? 52).map (fun i => (i.zero, i.size, i.bytes)) = some (some (.agg #[.int .u8 0, .int .u8 0, .slice none 0 0]), 3, 32) := by kernel_rfl

theorem flat3_append : ∀ (l k : List (Int × Int × Value)), flat3 (l ++ k) = flat3 l ++ flat3 k
  | [], _ => rfl
  | (m, n, sv) :: l, k => by simp [flat3, flat3_append l k]

/-- A cell of an owned row is written. -/
theorem own_setc {w : World} {base n size c g i : Nat} {e : TypeId} {xs : List Value} (h : w.ownsRow base e size (.slice (some ⟨g, 0, none⟩) n c) n xs) (u : Value) :
    (w.setCell ⟨g, i, none⟩ u).ownsRow base e size (.slice (some ⟨g, 0, none⟩) n c) n (xs.set i u) := by
  refine ⟨by rw [List.length_set]; exact h.1, ?_⟩
  rcases h.2 with ⟨hv, _⟩ | ⟨g', cap, cur, hv, hb, hg, hnc, hcm, hcs, htake⟩
  · cases hv
  · cases hv
    refine .inr ⟨g, c, cur.setIfInBounds i u, rfl, hb, ?_, hnc, hcm, by simpa using hcs, ?_⟩
    · simp [World.setCell, Array.getElem?_modify, hg]
    · rw [← htake, Array.toList_setIfInBounds, List.take_set]
theorem own_cell {w : World} {base n size c g i : Nat} {e : TypeId} {xs : List Value} {x : Value} (h : w.ownsRow base e size (.slice (some ⟨g, 0, none⟩) n c) n xs) (hx : xs[i]? = some x) : w.cell? ⟨g, i, none⟩ = some x := by
  have hi := (List.getElem?_eq_some_iff.1 hx).1
  rcases h.2 with ⟨hv, _⟩ | ⟨g', cap, cur, hv, hb, hg, hnc, hcm, hcs, htake⟩
  · cases hv
  · cases hv
    have hl := h.1
    rw [cell_of_row w g i _ _ (0, 0) hg, ← hx, ← htake, List.getElem?_take, if_pos (by omega)]
    simp
theorem own_froz {w : World} {base n size c g : Nat} {e : TypeId} {xs : List Value} (h : w.ownsRow base e size (.slice (some ⟨g, 0, none⟩) n c) n xs) (i : Nat) : w.frozen? ⟨g, i, none⟩ = false := by
  rcases h.2 with ⟨hv, _⟩ | ⟨g', cap, cur, hv, hb, hg, _⟩
  · cases hv
  · cases hv
    simp [World.frozen?, hg]

/-- How a push of a node ends. -/
def PushN (n0 b : Nat) (v0 v1 v2 : Value) (x : Int × Int × Value) (xs : List (Int × Int × Value)) (w : World) (e : Ending) (w' : World) : Prop :=
  e = .returned (.tuple #[]) ∧ ∃ u, C3 w' b u v1 v2 129 ∧ w'.ownsRow n0 52 3 u (xs ++ [x]).length (flat3 (xs ++ [x])) ∧ Chg (fun k => k = b ∨ v0.ownBlock = some k) w w' ∧ (∀ g, u.ownBlock = some g → v0.ownBlock = some g ∨ w.heap.size ≤ g)

section
variable {w w2 w8 : World} {n0 b gg kk cap cc : Nat} {A : Option Addr} {v1 v2 z : Value} {a c : Int} {xs : List (Int × Int × Value)}
theorem spush_row (hn : xs.length = kk) (h : w8.ownsRow n0 52 3 (.slice (some ⟨gg, 0, none⟩) (kk + 1) cap) (kk + 1) (flat3 xs ++ [.int .u8 0, .int .u8 0, .slice none 0 0])) :
    ∀ (W : World), (∀ ys, w8.ownsRow n0 52 3 (.slice (some ⟨gg, 0, none⟩) (kk + 1) cap) (kk + 1) ys → W.ownsRow n0 52 3 (.slice (some ⟨gg, 0, none⟩) (kk + 1) cap) (kk + 1) (((ys.set (kk * 3) (.int .u8 a)).set (kk * 3 + 1) (.int .u8 c)).set (kk * 3 + 2) z)) →
      W.ownsRow n0 52 3 (.slice (some ⟨gg, 0, none⟩) (kk + 1) cap) (xs ++ [(a, c, z)]).length (flat3 (xs ++ [(a, c, z)])) := by
  intro W hW
  have h1 := hW _ h
  have hl : (flat3 xs).length = kk * 3 := by rw [flat3_length, hn]
  rw [List.length_append, hn, flat3_append]
  have e : (((flat3 xs ++ [Value.int .u8 0, Value.int .u8 0, Value.slice none 0 0]).set (kk * 3) (.int .u8 a)).set (kk * 3 + 1) (.int .u8 c)).set (kk * 3 + 2) z = flat3 xs ++ flat3 [(a, c, z)] := by
    rw [List.set_append_right _ _ (by omega), List.set_append_right _ _ (by omega), List.set_append_right _ _ (by omega), hl]
    simp [flat3]
  rw [e] at h1
  exact h1
theorem spush_end1 (hn : xs.length = kk) (HG : w.grownBy w2 none) (hg8 : w2.grownBy w8 (Value.slice A kk cc).ownBlock) (hC : C3 w8 b (.slice A kk cc) v1 v2 129) (ha : (Value.slice A kk cc).ownBlock = some gg ∨ gg = w2.heap.size)
    (ho : w8.ownsRow n0 52 3 (.slice (some ⟨gg, 0, none⟩) (kk + 1) cap) (kk + 1) (flat3 xs ++ [.int .u8 0, .int .u8 0, .slice none 0 0])) :
    PushN n0 b (.slice A kk cc) v1 v2 (a, c, z) xs w (.returned (.tuple #[])) ((((w8.setCell ⟨gg, kk * 3, none⟩ (.int .u8 a)).setCell ⟨gg, kk * 3 + 1, none⟩ (.int .u8 c)).setCell ⟨gg, kk * 3 + 2, none⟩ z).setCell ⟨b, 0, none⟩ (.slice (some ⟨gg, 0, none⟩) (kk + 1) cap)) := by
  have hgb : gg ≠ b := fun e => own_not ho hC (by decide) (by rw [e]; rfl)
  have hwr : ∀ {u v : World} {i : Nat} {x : Value} {g : Nat}, Chg (fun k => k = b ∨ (Value.slice A kk cc).ownBlock = some k ∨ w2.heap.size ≤ k) u v → (g = b ∨ g = gg) → Chg (fun k => k = b ∨ (Value.slice A kk cc).ownBlock = some k ∨ w2.heap.size ≤ k) u (v.setCell ⟨g, i, none⟩ x) := fun hu hgg =>
    hu.trans (Chg.row (wr := fun k => k = b ∨ (Value.slice A kk cc).ownBlock = some k ∨ w2.heap.size ≤ k) (gr_set _ _ _ _) (fun k hk => by
      cases hk
      rcases hgg with e | e
      · exact .inl e
      · rcases ha with h | h
        · exact .inr (.inl (e ▸ h))
        · exact .inr (.inr (by omega)))) (fun _ _ e => e) (fun _ _ e => e)
  have h0 : Chg (fun k => k = b ∨ (Value.slice A kk cc).ownBlock = some k ∨ w2.heap.size ≤ k) w w8 := (Chg.grown HG).trans (Chg.row hg8 (fun k hk => hk) : Chg (fun k => (Value.slice A kk cc).ownBlock = some k) w2 w8) (fun _ _ e => e) (fun _ _ e => .inr (.inl e))
  refine ⟨rfl, .slice (some ⟨gg, 0, none⟩) (kk + 1) cap, ?_, ?_, (hwr (hwr (hwr (hwr h0 (.inr rfl)) (.inr rfl)) (.inr rfl)) (.inl rfl)).mono (fun i hi e => by
    have := HG.size
    rcases e with e | e | e
    · exact .inl e
    · exact .inr e
    · omega), fun g hg => ?_⟩
  · exact (((hC.grown (gr_set _ _ _ _) (by simpa using hgb.symm)).grown (gr_set _ _ _ _) (by simpa using hgb.symm)).grown (gr_set _ _ _ _) (by simpa using hgb.symm)).set0 _
  · refine spush_row hn ho _ (fun ys hy => own_keep (own_setc (own_setc (own_setc hy _) _) _) (fun g hg => Below.heap_setCell _ _ _ _ (by cases hg; exact hgb)))
  · cases hg
    rcases ha with h | h
    · exact .inl h
    · exact .inr (by have := HG.size; show w.heap.size ≤ gg; omega)
theorem spush_end2 (hn : xs.length = kk) (HG : w.grownBy w2 none) (hg8 : w2.grownBy w8 (Value.slice A kk cc).ownBlock) (hC : C3 w8 b (.slice A kk cc) v1 v2 129) (ha : (Value.slice A kk cc).ownBlock = some gg ∨ gg = w2.heap.size)
    (ho : w8.ownsRow n0 52 3 (.slice (some ⟨gg, 0, none⟩) (kk + 1) cap) (kk + 1) (flat3 xs ++ [.int .u8 0, .int .u8 0, .slice none 0 0])) :
    PushN n0 b (.slice A kk cc) v1 v2 (a, c, z) xs w (.returned (.tuple #[])) ((((w8.setCell ⟨b, 0, none⟩ (.slice (some ⟨gg, 0, none⟩) (kk + 1) cap)).setCell ⟨gg, kk * 3, none⟩ (.int .u8 a)).setCell ⟨gg, kk * 3 + 1, none⟩ (.int .u8 c)).setCell ⟨gg, kk * 3 + 2, none⟩ z) := by
  have hgb : gg ≠ b := fun e => own_not ho hC (by decide) (by rw [e]; rfl)
  have hwr : ∀ {u v : World} {i : Nat} {x : Value} {g : Nat}, Chg (fun k => k = b ∨ (Value.slice A kk cc).ownBlock = some k ∨ w2.heap.size ≤ k) u v → (g = b ∨ g = gg) → Chg (fun k => k = b ∨ (Value.slice A kk cc).ownBlock = some k ∨ w2.heap.size ≤ k) u (v.setCell ⟨g, i, none⟩ x) := fun hu hgg =>
    hu.trans (Chg.row (wr := fun k => k = b ∨ (Value.slice A kk cc).ownBlock = some k ∨ w2.heap.size ≤ k) (gr_set _ _ _ _) (fun k hk => by
      cases hk
      rcases hgg with e | e
      · exact .inl e
      · rcases ha with h | h
        · exact .inr (.inl (e ▸ h))
        · exact .inr (.inr (by omega)))) (fun _ _ e => e) (fun _ _ e => e)
  have h0 : Chg (fun k => k = b ∨ (Value.slice A kk cc).ownBlock = some k ∨ w2.heap.size ≤ k) w w8 := (Chg.grown HG).trans (Chg.row hg8 (fun k hk => hk) : Chg (fun k => (Value.slice A kk cc).ownBlock = some k) w2 w8) (fun _ _ e => e) (fun _ _ e => .inr (.inl e))
  refine ⟨rfl, .slice (some ⟨gg, 0, none⟩) (kk + 1) cap, ?_, ?_, (hwr (hwr (hwr (hwr h0 (.inl rfl)) (.inr rfl)) (.inr rfl)) (.inr rfl)).mono (fun i hi e => by
    have := HG.size
    rcases e with e | e | e
    · exact .inl e
    · exact .inr e
    · omega), fun g hg => ?_⟩
  · exact ((((hC.set0 _).grown (gr_set _ _ _ _) (by simpa using hgb.symm)).grown (gr_set _ _ _ _) (by simpa using hgb.symm)).grown (gr_set _ _ _ _) (by simpa using hgb.symm))
  · refine spush_row hn ho _ (fun ys hy => own_setc (own_setc (own_setc (own_keep hy (fun g hg => Below.heap_setCell _ _ _ _ (by cases hg; exact hgb))) _) _) _)
  · cases hg
    rcases ha with h | h
    · exact .inl h
    · exact .inr (by have := HG.size; show w.heap.size ≤ gg; omega)
end

set_option maxRecDepth 100000 in
set_option maxHeartbeats 4000000 in
theorem spush (n0 b : Nat) (v0 v1 v2 : Value) (a c : Int) (A0 : Option Addr) (k0 c0 : Nat) (xs : List (Int × Int × Value)) (w : World) (h : C3 w b v0 v1 v2 129) (ho : w.ownsRow n0 52 3 v0 xs.length (flat3 xs)) (hl : xs.length ≤ 1000000) (hn : n0 ≤ w.heap.size) :
    Calls Tryz.prog 102 #[.pointer (some ⟨b, 0, none⟩), .agg #[.int .u8 a, .int .u8 c, .slice A0 k0 c0]] w (PushN n0 b v0 v1 v2 (a, c, .slice A0 k0 c0) xs w) := by
  obtain ⟨i0, hi0, hz0, hz1, hz2⟩ : ∃ i : TypeInfo, Tryz.prog.info? 52 = some i ∧ i.zero = some (.agg #[.int .u8 0, .int .u8 0, .slice none 0 0]) ∧ i.size = 3 ∧ i.bytes = 32 := by
    obtain ⟨i, hi, hzz⟩ := Option.map_eq_some_iff.1 infoND
    simp only [Prod.mk.injEq] at hzz
    exact ⟨i, hi, hzz.1, hzz.2.1, hzz.2.2⟩
  obtain ⟨A, kk, cc, rfl⟩ := own_form ho
  obtain ⟨n, hnn⟩ : ∃ n, xs.length = n := ⟨_, rfl⟩
  have HN := Lib.hid hnn
  rw [hnn] at ho hl
  obtain rfl := own_len ho
  obtain ⟨w1, hw1⟩ : ∃ z, w.alloc (.cells #[.int .u8 a, .int .u8 c, .slice A0 k0 c0] 52) = z := ⟨_, rfl⟩
  obtain ⟨w2, hw2⟩ : ∃ z, w1.drew.alloc (.cells #[.int .u8 0, .int .u8 0, .slice none 0 0] 52) = z := ⟨_, rfl⟩
  have HZ1 := Lib.hid (show w1.heap.size = w.heap.size + 1 by rw [← hw1]; simp)
  have g1 : w.grownBy w1 none := by rw [← hw1]; exact World.grownBy_alloc _ _ _
  have g2 : w1.grownBy w2 none := by rw [← hw2]; exact (gr_drewN w1 1 none).trans (World.grownBy_alloc w1.drew _ none)
  have HB : Hid ((Value.slice A kk cc).ownBlock ≠ some b) := Lib.hid (own_not ho h (by decide))
  have hx1 : C3 w1 w.heap.size (.int .u8 a) (.int .u8 c) (.slice A0 k0 c0) 52 := by rw [← hw1]; exact c3_new w _ _ _ _
  have hx2 := hx1.grown g2 (by simp)
  have hz2' : C3 w2 w1.heap.size (.int .u8 0) (.int .u8 0) (.slice none 0 0) 52 := by rw [← hw2]; exact c3_new w1.drew _ _ _ _
  have hb1 := h.grown g1 (by simp)
  have hb2 := hb1.grown g2 (by simp)
  have own2 := own_keep (own_keep ho (fun k hk => g1.block k (ho.lt k hk).2 (by simp))) (fun k hk => g2.block k (by have := (ho.lt k hk).2; have := HZ1.out; omega) (by simp))
  have e0 := hb1.c0
  have d0 := hb2.c0
  have x0 := hx1.c0
  have x1 := hx1.c1
  have x2 := hx1.c2
  have y0 := hx2.c0
  have y1 := hx2.c1
  have y2 := hx2.c2
  have HNL := Lib.hid (fun (j : Nat) (u : Value) (hj : ([.int .u8 0, .int .u8 0, .slice none 0 0] : List Value)[j]? = some u) => (World.news_of_block (cs := #[.int .u8 0, .int .u8 0, .slice none 0 0]) hz2' j u hj : w2.cell? ((⟨w1.heap.size, 0, none⟩ : Addr).add j) = some u))
  have H2 := Lib.hid hb2
  have HX2 := Lib.hid hx2
  have HG := Lib.hid (g1.trans g2)
  have HO := Lib.hid own2
  have HW := Lib.hid (show (Value.slice A kk cc).ownBlock ≠ some w.heap.size from fun e => by have := (ho.lt _ e).2; omega)
  have hnz : n0 ≤ w2.heap.size := Nat.le_trans hn HG.out.size
  have hkk : ((kk : Nat) : Int) < ((kk : Nat) : Int) + 1 := by omega
  clear h ho hb1 hb2 hx1 hx2 g1 g2 hz2' hnn
  go_enter Tryz.func102, Tryz.ntmps102
  go_wp2_with fail
  go_region_law (first
    | (refine step_append_lies _ (by rfl) _ _ _ (by rfl) n0 52 i0 _ 3 32 Tryz.underlying50 hi0 hz0 hz1 hz2 rfl (by omega) _ kk (flat3 xs) (by rfl) HO.out ⟨w1.heap.size, 0, none⟩ 1 1 [.int .u8 0, .int .u8 0, .slice none 0 0] (by rfl) (by rfl) HNL.out (by simp [Value.oneCell']) (by omega) (by simp only [maxLen]; omega) (by omega) hnz w2.heap.size rfl ?_
       intro gg cap w8 hown8 hg8 hat8 hlt8
       have HC8 : C3 w8 b (.slice A kk cc) v1 v2 129 := H2.out.grown hg8 (fun e => HB.out e.symm)
       have HY8 := HX2.out.grown hg8 (fun e => HW.out e.symm)
       have z0 := HY8.c0
       have z1 := HY8.c1
       have z2 := HY8.c2
       have r0 := HC8.c0
       have f8 := HC8.f 0
       have hx8 : ∀ j, j < 3 → (flat3 xs ++ [.int .u8 0, .int .u8 0, .slice none 0 0])[kk * 3 + j]? = some (([.int .u8 0, .int .u8 0, .slice none 0 0] : List Value)[j]?.getD .nilIface) := fun j hj => by
         rw [List.getElem?_append_right (by rw [flat3_length, HN.out]; omega), flat3_length, HN.out, show kk * 3 + j - kk * 3 = j by omega]
         match j, hj with
         | 0, _ => rfl
         | 1, _ => rfl
         | 2, _ => rfl
       have u0 : w8.cell? ⟨gg, kk * 3, none⟩ = some (.int .u8 0) := own_cell hown8 (hx8 0 (by omega))
       have u1 : w8.cell? ⟨gg, kk * 3 + 1, none⟩ = some (.int .u8 0) := own_cell hown8 (hx8 1 (by omega))
       have u2 : w8.cell? ⟨gg, kk * 3 + 2, none⟩ = some (.slice none 0 0) := own_cell hown8 (hx8 2 (by omega))
       have v0 := own_froz hown8 (kk * 3)
       have v1' := own_froz hown8 (kk * 3 + 1)
       have v2' := own_froz hown8 (kk * 3 + 2)
       have hgb : gg ≠ b := fun e => own_not hown8 HC8 (by decide) (by rw [e]; rfl)
       have hgb' : ¬ b = gg := fun e => hgb e.symm
       have HCC := Lib.hid HC8
       clear hx8
       have HO8 := Lib.hid hown8
       have HG8 := Lib.hid hg8
       have HA8 := Lib.hid hat8
       clear hown8 hg8 hat8 HC8 HY8))
  all_goals
    go_end0
    first
      | with_reducible exact spush_end1 HN.out HG.out HG8.out HCC.out HA8.out HO8.out
      | with_reducible exact spush_end2 HN.out HG.out HG8.out HCC.out HA8.out HO8.out

end Go.Proofs.YtohdlnkkchijnaaGreatDoor
