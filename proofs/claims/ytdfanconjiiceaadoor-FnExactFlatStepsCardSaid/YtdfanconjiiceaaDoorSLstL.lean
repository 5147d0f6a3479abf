/- What l7List of the model gives at a loop, and at whatever term. -/
import Derived.Test.YtdfanconjiiceaaDoorSLst
import Derived.Deep.RegionHeld3
namespace Go.Proofs.YtdfanconjiiceaaDoor
open Go.RowKit

theorem one_two (a i : Int) : one a ++ one i = ⟨[byt a, byt i].toArray⟩ := by
  apply ByteArray.ext
  rw [ByteArray.data_append]
  rfl
theorem cellS (u : World) (z : ByteArray) : (u.alloc (.cells #[.string z] 9)).cell? ⟨u.heap.size, 0, none⟩ = some (.string z) := cell_of_row _ _ 0 _ _ (0, 0) (heap_alloc_new _ _)
theorem cellSz (u : World) (z : ByteArray) (k : Nat) (hk : u.heap.size = k) : (u.alloc (.cells #[.string z] 9)).cell? ⟨k, 0, none⟩ = some (.string z) := by subst hk; exact cellS u z
theorem cellB (u : World) (c : Int) : (u.alloc (.cells #[.int .u8 c] 5)).cell? ⟨u.heap.size, 0, none⟩ = some (.int .u8 c) := cell_of_row _ _ 0 _ _ (0, 0) (heap_alloc_new _ _)
theorem cellSd (u : World) (z : ByteArray) : (u.alloc (.cells #[.string z] 9)).drew.cell? ⟨u.heap.size, 0, none⟩ = some (.string z) := cellS u z
theorem cellBd (u : World) (c : Int) : (u.alloc (.cells #[.int .u8 c] 5)).drew.cell? ⟨u.heap.size, 0, none⟩ = some (.int .u8 c) := cellB u c
theorem conv_at {w : World} {c : Int} {k : Nat} (h : w.cell? ⟨k, 0, none⟩ = some (.int .u8 c)) : (convert 44 9 (.slice (some ⟨k, 0, none⟩) 1 1)).run Tryd.prog w = .ok (.string (one c)) w := by
  refine run_convert_bytes_arg (P := Tryd.prog) _ 44 5 Tryd.underlying44 Tryd.underlying5 k 0 1 1 [c] rfl ?_ 9 Tryd.underlying9
  intro i hi
  obtain rfl : i = 0 := by omega
  exact h
theorem new1 {w : World} {k : Nat} {z : ByteArray} (h : w.cell? ⟨k, 0, none⟩ = some (.string z)) : ∀ j u, [Value.string z][j]? = some u → w.cell? ((⟨k, 0, none⟩ : Addr).add j) = some u := by
  intro j u hj
  match j, hj with
  | 0, hj => simp at hj; subst hj; rw [addr0]; exact h

theorem keepA {u : World} {x : Addr} {v : Value} (o : Obj) (h : u.cell? x = some v) : (u.alloc o).cell? x = some v := (World.cell?_alloc_some u x o (by rw [h]; rfl)).trans h
theorem blk_is {g n c k : Nat} (h : (Value.slice (some ⟨g, 0, none⟩) n c).ownBlock = some k) : g = k := by simpa [Value.ownBlock] using h
/-- What lies below a world's end lies as it did, but for one block. -/
structure Sm (w : World) (g : Nat) (u : World) : Prop where
  size : w.heap.size ≤ u.heap.size
  blk : ∀ k, k < w.heap.size → k ≠ g → u.heap[k]? = w.heap[k]?
theorem Sm.refl (w : World) (g : Nat) : Sm w g w := ⟨Nat.le_refl _, fun _ _ _ => rfl⟩
theorem Sm.alloc {w u : World} {g : Nat} (h : Sm w g u) (o : Obj) : Sm w g (u.alloc o) := ⟨Nat.le_trans h.size (by simp), fun k hk hg => (Below.heap_alloc _ _ _ (Nat.lt_of_lt_of_le hk h.size)).trans (h.blk k hk hg)⟩
theorem Sm.drew {w u : World} {g : Nat} (h : Sm w g u) : Sm w g u.drew := ⟨h.size, h.blk⟩
theorem Sm.row {w u u' : World} {g : Nat} {row : Option Nat} (h : Sm w g u) (hg : u.grownBy u' row) (hr : ∀ k, row = some k → k = g ∨ w.heap.size ≤ k) : Sm w g u' :=
  ⟨Nat.le_trans h.size hg.size, fun k hk hne => (hg.block k (Nat.lt_of_lt_of_le hk h.size) (fun e => by rcases hr k e.symm with rfl | h2; exact hne rfl; omega)).trans (h.blk k hk hne)⟩
theorem Sm.cell {w u : World} {g k q : Nat} {v : Value} (h : Sm w g u) (hc : w.cell? ⟨k, q, none⟩ = some v) (hk : k < w.heap.size) (hne : k ≠ g) : u.cell? ⟨k, q, none⟩ = some v := (World.cell?_of_block (w := w) (a := ⟨k, q, none⟩) (h.blk k hk hne)).trans hc

set_option maxRecDepth 100000 in
set_option maxHeartbeats 16000000 in
theorem slst_loop (t s r : Tm) (a i a2 b2 a3 b3 : Int) (A A2 A3 : Option Addr) (c k2 c2 k3 c3 : Nat) (w : World) (ha : a = 91 ∨ a = 123) (hi : i ≠ 0) (ht : t.ins = s.ins ++ ([[byt a, byt i]] ++ (r.ins ++ [[byt (a + 2)]]))) (hl : s.ins.length ≤ 1000000) (hlr : r.ins.length ≤ 1000000) (hr0 : 0 < r.ins.length)
    (ho : w.ownsRow 0 26 3 (.slice A 2 c) 2 (flat3 [(a2, b2, .slice A2 k2 c2), (a3, b3, .slice A3 k3 c3)]))
    (ih1 : ∀ u : World, w.grownBy u none → Calls Tryd.prog 11 #[.agg #[.int .u8 a2, .int .u8 b2, .slice A2 k2 c2]] u (LstP s u))
    (ih2 : ∀ u : World, w.grownBy u none → Calls Tryd.prog 11 #[.agg #[.int .u8 a3, .int .u8 b3, .slice A3 k3 c3]] u (LstP r u)) :
    Calls Tryd.prog 11 #[.agg #[.int .u8 a, .int .u8 i, .slice A 2 c]] w (LstP t w) := by
  obtain ⟨i0, hi0, hz0, hz1, hz2⟩ := info_parts infoS7
  obtain ⟨-, -, hrow⟩ := srow3 (xs := [(a2, b2, .slice A2 k2 c2), (a3, b3, .slice A3 k3 c3)]) ho
  obtain ⟨g, rfl, hg1, hcell⟩ := hrow (by omega)
  obtain ⟨q0, q1, q2⟩ := hcell 0 _ rfl
  obtain ⟨r0, r1, r2⟩ := hcell 1 _ rfl
  simp only [Nat.zero_mul, Nat.zero_add, Nat.one_mul] at q0 q1 q2 r0 r1 r2
  obtain ⟨w1, hw1⟩ : ∃ z, w.alloc (.cells #[.int .u8 a, .int .u8 i, .slice (some ⟨g, 0, none⟩) 2 c] 26) = z := ⟨_, rfl⟩
  have hx : C3 w1 w.heap.size (.int .u8 a) (.int .u8 i) (.slice (some ⟨g, 0, none⟩) 2 c) 26 := by rw [← hw1]; exact c3_new _ _ _ _ _
  have g1 : w.grownBy w1 none := by rw [← hw1]; exact World.grownBy_alloc _ _ _
  obtain ⟨w2, hw2⟩ : ∃ z, w1.alloc (.cells #[.int .u8 a] 5) = z := ⟨_, rfl⟩
  have g2 : w1.grownBy w2 none := by rw [← hw2]; exact World.grownBy_alloc _ _ _
  obtain ⟨w3, hw3⟩ : ∃ z, w2.alloc (.cells #[.int .u8 i] 5) = z := ⟨_, rfl⟩
  have g3 : w2.grownBy w3 none := by rw [← hw3]; exact World.grownBy_alloc _ _ _
  have x0 := hx.c0
  have hx2 := hx.grown g2 (by simp)
  have x1 := hx2.c1
  have hx3 := hx2.grown g3 (by simp)
  have x2 := hx3.c2
  have HX3 := Lib.hid hx3
  have hcv := conv_byte w1 a w1.heap.size rfl
  have hcv2 := conv_byte w2 i w2.heap.size rfl
  rw [hw2] at hcv
  rw [hw3] at hcv2
  have HG := Lib.hid ((g1.trans g2).trans g3)
  have h0 := HG.out.cell q0 (by simp)
  have h1 := HG.out.cell q1 (by simp)
  have h2 := HG.out.cell q2 (by simp)
  have HR := Lib.hid (And.intro r0 (And.intro r1 r2))
  have HC := Lib.hid (ih1 w3 HG.out)
  have HC2 := Lib.hid ih2
  have HT := Lib.hid ht
  have hwl := HG.out.size
  have hi0f : (i == 0) = false := by simpa using hi
  obtain ⟨z, hz⟩ : ∃ z : ByteArray, one a ++ one i = z := ⟨_, rfl⟩
  have hadd := fun u => str_add (one i) (one a) z hz (by rw [one_size, one_size]; omega) u
  have HZ := Lib.hid hz
  have hcc : IntKind.u8.wrap (a + 2) = a + 2 := by rcases ha with rfl | rfl <;> decide
  clear ho ih1 ih2 hrow hcell q0 q1 q2 r0 r1 r2 hx hx2 hx3 g1 g2 g3 ht hi hz
  go_enter Tryd.func11, Tryd.ntmps11
  go_wp2_with fail
  refine HC.out.mono ?_
  rintro e w4 ⟨v, rfl, hg4, ho4⟩
  obtain ⟨A4, k4, c4, rfl⟩ := own_form ho4
  obtain rfl := own_len ho4
  have HG4 := Lib.hid (HG.out.trans hg4)
  have hx4 := HX3.out.grown hg4 (by simp)
  have HX4 := Lib.hid hx4
  have y1 := hx4.c1
  have own4 := ho4.alloc (.cells #[.string z] 9)
  have hs4 := hg4.size
  clear hg4 ho4 h0 h1 h2 x0 x1 x2 hcv hcv2 hx4
  go_wp2_with (at_builtin; refine wpList_append_own_at _ rfl _ _ 32 rfl w3.heap.size 9 i0 (.string .empty) 1 16 Tryd.underlying32 hi0 hz0 hz1 hz2 rfl (by decide) _ _ _ rfl own4 ⟨w4.heap.size, 0, none⟩ 1 1 [.string z] rfl rfl ?a1 ?a2 ?a3 ?a4 ?a5 ?_)
  case a1 => exact cell_one_new _ _ _
  case a2 => simp [Value.oneCell']
  case a3 => simp only [maxLen]; omega
  case a4 => omega
  case a5 => rw [World.size_alloc]; omega
  intro v6 w6 hown6 hg6 _ _
  have hb6 : w.heap.size < w3.heap.size := HX3.out.lt
  have HG6 := Lib.hid (grR (grA HG4.out _) hg6 (fun k hk => Nat.le_trans hwl (own4.lt k hk).1))
  have hx6 : C3 w6 w.heap.size (.int .u8 a) (.int .u8 i) (.slice (some ⟨g, 0, none⟩) 2 c) 26 := (HX4.out.alloc (.cells #[.string z] 9)).grown hg6 (fun e => by have := (own4.lt _ e.symm).1; omega)
  have y1 := hx6.c1
  have y0 := hx6.c0
  have y2 := hx6.c2
  have s0 := HG6.out.cell HR.out.1 (by simp)
  have s1 := HG6.out.cell HR.out.2.1 (by simp)
  have s2 := HG6.out.cell HR.out.2.2 (by simp)
  obtain ⟨A6, k6, c6, rfl⟩ := own_form hown6
  obtain rfl := own_len hown6
  have hr6 := (orow hown6).2.2 (by omega)
  obtain ⟨g6, rfl, hg6a, hg6b, _⟩ := hr6
  have HO6 := Lib.hid hown6
  have hs6 := hg6.size
  have hsz6 : w3.heap.size ≤ w6.heap.size := by rw [World.size_alloc] at hs6; omega
  clear hown6 hg6 own4 hx6
  go_wp2_with fail
  have hcvu := fun (u : World) => conv_byte u (a + 2) u.heap.size rfl
  have hcvd := fun (u : World) => conv_at (cellBd u (a + 2))
  have HE1 : Hid (t.ins.length = s.ins.length + 1 + r.ins.length + 1) := Lib.hid (by rw [HT.out]; simp; omega)
  have HE2 : Hid (insV t.ins = ((insV s.ins ++ [.string z]) ++ insV r.ins) ++ [.string (one (a + 2))]) := Lib.hid (by
    rw [HT.out, insV_app, insV_app, insV_app, ← HZ.out, one_two]
    simp only [List.append_assoc]
    rfl)
  have HS0 := Lib.hid (Sm.refl w6 g6)
  have hw6 : w.heap.size < w6.heap.size := by omega
  have HFIVE : Hid (∀ u, Sm w6 g6 u → u.cell? ⟨w.heap.size, 0, none⟩ = some (.int .u8 a) ∧ u.cell? ⟨w.heap.size, 2, none⟩ = some (.slice (some ⟨g, 0, none⟩) 2 c) ∧ u.cell? ⟨g, 3, none⟩ = some (.int .u8 a3) ∧ u.cell? ⟨g, 4, none⟩ = some (.int .u8 b3) ∧ u.cell? ⟨g, 5, none⟩ = some (.slice A3 k3 c3)) := Lib.hid (fun u h =>
    ⟨h.cell y0 hw6 (by omega), h.cell y2 hw6 (by omega), h.cell s0 (by omega) (by omega), h.cell s1 (by omega) (by omega), h.cell s2 (by omega) (by omega)⟩)
  clear y1 hadd hi0f
  have ka0 := fun (u : World) (o : Obj) (h : u.cell? ⟨w.heap.size, 0, none⟩ = some (.int .u8 a)) => keepA o h
  have ka2 := fun (u : World) (o : Obj) (h : u.cell? ⟨w.heap.size, 2, none⟩ = some (.slice (some ⟨g, 0, none⟩) 2 c)) => keepA o h
  have ka3 := fun (u : World) (o : Obj) (h : u.cell? ⟨g, 3, none⟩ = some (.int .u8 a3)) => keepA o h
  have ka4 := fun (u : World) (o : Obj) (h : u.cell? ⟨g, 4, none⟩ = some (.int .u8 b3)) => keepA o h
  have ka5 := fun (u : World) (o : Obj) (h : u.cell? ⟨g, 5, none⟩ = some (.slice A3 k3 c3)) => keepA o h
  go_region_law (first
      | (refine step_append_lies _ (by rfl) _ _ _ (by rfl) w3.heap.size 9 i0 _ 1 16 Tryd.underlying32 hi0 hz0 hz1 hz2 rfl (by omega) (.slice (some ⟨g7, 0, none⟩) (s.ins.length + 1 + r.ins.length) c7) (s.ins.length + 1 + r.ins.length) ((insV s.ins ++ [.string z]) ++ insV r.ins) (by rfl) (by repeat (first | exact HO7.out | refine World.ownsRow.alloc ?_ _)) ⟨_, 0, none⟩ 1 1 [.string (one (a + 2))] (by rfl) (by rfl) (by first | exact new1 hst7 | exact new1 (cellSz _ _ _ (by simp))) (by simp [Value.oneCell']) (by omega) (by simp only [maxLen]; omega) (by omega) (by first | omega | (simp only [World.size_alloc]; omega)) _ rfl ?_
         intro g8 c8 w8 hown8 hg8 _ _
         have HO8 := Lib.hid hown8
         have HG8 : Hid (w.grownBy w8 none) := Lib.hid (grR (by repeat (first | exact HG8.out | exact HG7.out | exact HGc.out | exact HG6.out | refine grA ?_ _ | refine grD ?_)) hg8 (fun k hk => Nat.le_trans hwl (HO7.out.lt k hk).1))
         have HS8 : Hid (Sm w6 g6 w8) := Lib.hid (Sm.row (by repeat (first | exact HS8.out | exact HS7.out | exact HSc.out | exact HS0.out | refine Sm.alloc ?_ _ | refine Sm.drew ?_)) hg8 (fun k hk => (blk_is hk) ▸ HAT7.out))
         clear hown8 hg8)
      | (refine step_append_lies _ (by rfl) _ _ _ (by rfl) w3.heap.size 9 i0 _ 1 16 Tryd.underlying32 hi0 hz0 hz1 hz2 rfl (by omega) (.slice (some ⟨g6, 0, none⟩) (s.ins.length + 1) c6) (s.ins.length + 1) (insV s.ins ++ [.string z]) (by rfl) (by repeat (first | exact HOc.out | refine World.ownsRow.alloc ?_ _)) ⟨gr5, 0, none⟩ r.ins.length c5 (insV r.ins) (by rfl) (by rw [insV_len]; omega) (fun j u hu => by
             rw [addr0]
             first
               | exact HC5.out j u hu
               | exact (World.cell?_alloc_lt _ _ _ (by first | omega | (simp only [World.size_alloc]; omega))).trans (HC5.out j u hu)
               | exact (World.cell?_alloc_lt _ _ _ (by first | omega | (simp only [World.size_alloc]; omega))).trans ((World.cell?_alloc_lt _ _ _ (by first | omega | (simp only [World.size_alloc]; omega))).trans (HC5.out j u hu))) (insV_one _) (by omega) (by simp only [maxLen]; omega) (by omega) (by first | omega | (simp only [World.size_alloc]; omega)) _ rfl ?_
         intro g7 c7 w7 hown7 hg7 hat7 _
         have HO7 := Lib.hid hown7
         have HG7 : Hid (w.grownBy w7 none) := Lib.hid (grR (by repeat (first | exact HG8.out | exact HG7.out | exact HGc.out | exact HG6.out | refine grA ?_ _ | refine grD ?_)) hg7 (fun k hk => Nat.le_trans hwl (HOc.out.lt k hk).1))
         have HS7 : Hid (Sm w6 g6 w7) := Lib.hid (Sm.row (by repeat (first | exact HS8.out | exact HS7.out | exact HSc.out | exact HS0.out | refine Sm.alloc ?_ _ | refine Sm.drew ?_)) hg7 (fun k hk => .inl (blk_is hk).symm))
         have HAT7 : Hid (g7 = g6 ∨ w6.heap.size ≤ g7) := Lib.hid (by
           rcases hat7 with h7 | h7
           · have e : g6 = g7 := by simpa [Value.ownBlock] using h7
             exact .inl e.symm
           · refine .inr ?_
             rw [h7]
             first | omega | (simp only [World.size_alloc]; omega))
         have hsz7 := hg7.size
         try simp only [World.size_alloc] at hsz7
         first
           | (have hst7 := hg7.cell hst (by simp [Value.ownBlock]; omega))
           | (have hst7 := hg7.cell (cellS _ _) (by simp [Value.ownBlock]; omega))
           | (have hcv7 := conv_at (hg7.cell (cellB _ _) (by simp [Value.ownBlock]; omega)))
           | (have hcv7 := conv_at (hg7.cell hby (by simp [Value.ownBlock]; omega)))
           | skip
         try simp only [World.size_alloc] at hst7
         try simp only [World.size_alloc] at hcv7
         obtain ⟨v0, v2, v3, v4, v5⟩ := HFIVE.out w7 HS7.out
         clear hown7 hg7 hat7 v2 v3 v4 v5)
      | (go_simp
         go_at_call 11
         (with_reducible refine (HC2.out _ ?_).mono ?_)
         · repeat (first | exact HG8.out | exact HG7.out | exact HGc.out | exact HG6.out | refine grA ?_ _ | refine grD ?_)
         rintro e wc ⟨v5, rfl, hgc, hoc⟩
         obtain ⟨A5, k5, c5, rfl⟩ := own_form hoc
         obtain rfl := own_len hoc
         obtain ⟨gr5, rfl, _, hgr5, hc5⟩ := (orow hoc).2.2 hr0
         have HC5 := Lib.hid hc5
         have HSc : Hid (Sm w6 g6 wc) := Lib.hid (Sm.row (by repeat (first | exact HS8.out | exact HS7.out | exact HSc.out | exact HS0.out | refine Sm.alloc ?_ _ | refine Sm.drew ?_)) hgc (fun k hk => by cases hk))
         have hszc := HSc.out.size
         have HGc : Hid (w.grownBy wc none) := Lib.hid (World.grownBy.trans (by repeat (first | exact HG8.out | exact HG7.out | exact HGc.out | exact HG6.out | refine grA ?_ _ | refine grD ?_)) hgc)
         have HOc : Hid (wc.ownsRow w3.heap.size 9 1 (.slice (some ⟨g6, 0, none⟩) (s.ins.length + 1) c6) (s.ins.length + 1) (insV s.ins ++ [.string z])) := Lib.hid (own_keep HO6.out (fun k hk => (World.grownBy.trans (by repeat (first | exact gr_refl _ _ | refine grA ?_ _ | refine grD ?_) : w6.grownBy _ none) hgc).block k (HO6.out.lt k hk).2 (by simp)))
         have hsg := hgc.size
         try simp only [World.size_alloc] at hsg
         first
           | (have hst := hgc.cell (cellS _ _) (by simp))
           | (have hst := hgc.cell (cellSd _ _) (by simp))
           | (have hcvc := conv_at (hgc.cell (cellB _ _) (by simp)); have hby := hgc.cell (cellB _ _) (by simp))
           | (have hcvc := conv_at (hgc.cell (cellBd _ _) (by simp)); have hby := hgc.cell (cellBd _ _) (by simp))
           | skip
         try simp only [World.size_alloc] at hst
         try simp only [World.size_alloc] at hcvc
         try simp only [World.size_alloc] at hby
         obtain ⟨u0, u2, u3, u4, u5⟩ := HFIVE.out wc HSc.out
         clear hgc hoc hc5 u2 u3 u4 u5))
  all_goals
    go_wp2_with fail
    go_ret
    exact ⟨_, rfl, HG8.out, by rw [HE2.out, HE1.out]; exact own_base HO8.out hwl⟩

end Go.Proofs.YtdfanconjiiceaaDoor
