/- What l7List of the model gives: the instructions of a term, in a row of the call's own. -/
import Derived.Test.YtdfanconjiiceaaDoorCodP
import Derived.Test.YtdfanconjiiceaaDoorSSizeF
import Derived.Test.YtdfanconjiiceaaDoorTSignF
import Derived.Test.YtdfanconjiiceaaDoorOne
import Derived.Maps.AppendAt
import Derived.Deep.AppendLies
import Derived.Deep.RegionLaw
namespace Go.Proofs.YtdfanconjiiceaaDoor
open Go.RowKit

def insV (xs : List (List UInt8)) : List Value := xs.map fun x => .string ⟨x.toArray⟩
theorem insV_snoc (xs : List (List UInt8)) (x : List UInt8) : insV (xs ++ [x]) = insV xs ++ [.string ⟨x.toArray⟩] := by simp [insV]
theorem insV_app (xs ys : List (List UInt8)) : insV (xs ++ ys) = insV xs ++ insV ys := by simp [insV]
theorem insV_len (xs : List (List UInt8)) : (insV xs).length = xs.length := by simp [insV]
theorem insV_one (xs : List (List UInt8)) : ∀ u ∈ insV xs, u.oneCell' = true := by
  intro u hu
  obtain ⟨x, _, rfl⟩ := List.mem_map.1 hu
  rfl
theorem infoS7 : (Tryd.prog.info? 9).map (fun i => (i.zero, i.size, i.bytes)) = some (some (.string .empty), 1, 16) := by kernel_rfl
theorem one_is (b : Int) : one b = ⟨[byt b].toArray⟩ := rfl
theorem addr0 (g j : Nat) : (⟨g, 0, none⟩ : Addr).add j = ⟨g, j, none⟩ := by unfold Addr.add; split <;> simp_all
theorem grA {w u : World} (h : w.grownBy u none) (o : Obj) : w.grownBy (u.alloc o) none := h.trans (World.grownBy_alloc _ _ _)
theorem grD {w u : World} (h : w.grownBy u none) : w.grownBy u.drew none := h.trans (gr_drewN u 1 none)
theorem grR {w w1 w2 : World} {row : Option Nat} (h : w.grownBy w1 none) (h2 : w1.grownBy w2 row) (hr : ∀ k, row = some k → w.heap.size ≤ k) : w.grownBy w2 none :=
  ⟨h2.os.trans h.os, h2.tape.trans h.tape, h2.output.trans h.output, Nat.le_trans h.size h2.size, fun k hk hne => (h2.block k (Nat.lt_of_lt_of_le hk h.size) (fun e => by have := hr k e.symm; omega)).trans (h.block k hk hne)⟩

/-- How it ends. -/
def LstP (t : Tm) (w : World) (e : Ending) (w' : World) : Prop := ∃ v, e = .returned v ∧ w.grownBy w' none ∧ w'.ownsRow w.heap.size 9 1 v t.ins.length (insV t.ins)

set_option maxRecDepth 100000 in
set_option maxHeartbeats 1000000 in
theorem slst_leaf (t : Tm) (a b : Int) (A : Option Addr) (c : Nat) (w : World) (ht : t.ins = [[byt b]]) :
    Calls Tryd.prog 11 #[.agg #[.int .u8 a, .int .u8 b, .slice A 0 c]] w (LstP t w) := by
  have HX := Lib.hid (c3_new w (.int .u8 a) (.int .u8 b) (.slice A 0 c) 26)
  have x0 := HX.out.c0
  have x1 := HX.out.c1
  have x2 := HX.out.c2
  have HT := Lib.hid ht
  have hcv := conv_byte (w.alloc (.cells #[.int .u8 a, .int .u8 b, .slice A 0 c] 26)) a (w.heap.size + 1) (by simp)
  have hcv2 := conv_byte ((w.alloc (.cells #[.int .u8 a, .int .u8 b, .slice A 0 c] 26)).alloc (.cells #[.int .u8 a] 5)) b (w.heap.size + 1 + 1) (by simp)
  clear ht
  go_enter Tryd.func11, Tryd.ntmps11
  go_wp2_with fail
  go_ret
  refine ⟨_, rfl, grA (grA (grA (grA (gr_refl _ _) _) _) _) _, ?_⟩
  rw [HT.out]
  have := World.ownsRow_lit (base := w.heap.size) (e := 9) (size := 1) (((w.alloc (.cells #[.int .u8 a, .int .u8 b, .slice A 0 c] 26)).alloc (.cells #[.int .u8 a] 5)).alloc (.cells #[.int .u8 b] 5)) #[.string (one b)] 1 (by simp only [World.size_alloc]; omega) (by simp [maxLen]) rfl
  simpa [insV, one_is] using this

set_option maxRecDepth 100000 in
set_option maxHeartbeats 2000000 in
theorem slst_pre (t s : Tm) (a b a2 b2 : Int) (A A2 : Option Addr) (c k2 c2 : Nat) (w : World) (ht : t.ins = s.ins ++ [[byt a]]) (hl : s.ins.length ≤ 1000000)
    (ho : w.ownsRow 0 26 3 (.slice A 1 c) 1 (flat3 [(a2, b2, .slice A2 k2 c2)]))
    (ih : ∀ u : World, w.grownBy u none → Calls Tryd.prog 11 #[.agg #[.int .u8 a2, .int .u8 b2, .slice A2 k2 c2]] u (LstP s u)) :
    Calls Tryd.prog 11 #[.agg #[.int .u8 a, .int .u8 b, .slice A 1 c]] w (LstP t w) := by
  obtain ⟨i0, hi0, hz0, hz1, hz2⟩ := info_parts infoS7
  obtain ⟨-, -, hrow⟩ := srow3 (xs := [(a2, b2, .slice A2 k2 c2)]) ho
  obtain ⟨g, rfl, hg1, hcell⟩ := hrow (by omega)
  obtain ⟨q0, q1, q2⟩ := hcell 0 _ rfl
  simp only [Nat.zero_mul, Nat.zero_add] at q0 q1 q2
  obtain ⟨w1, hw1⟩ : ∃ z, w.alloc (.cells #[.int .u8 a, .int .u8 b, .slice (some ⟨g, 0, none⟩) 1 c] 26) = z := ⟨_, rfl⟩
  have hx : C3 w1 w.heap.size (.int .u8 a) (.int .u8 b) (.slice (some ⟨g, 0, none⟩) 1 c) 26 := by rw [← hw1]; exact c3_new _ _ _ _ _
  have g1 : w.grownBy w1 none := by rw [← hw1]; exact World.grownBy_alloc _ _ _
  obtain ⟨w2, hw2⟩ : ∃ z, w1.alloc (.cells #[.int .u8 a] 5) = z := ⟨_, rfl⟩
  have g2 : w1.grownBy w2 none := by rw [← hw2]; exact World.grownBy_alloc _ _ _
  obtain ⟨w3, hw3⟩ : ∃ z, w2.alloc (.cells #[.int .u8 b] 5) = z := ⟨_, rfl⟩
  have g3 : w2.grownBy w3 none := by rw [← hw3]; exact World.grownBy_alloc _ _ _
  have x0 := hx.c0
  have hx2 := hx.grown g2 (by simp)
  have x1 := hx2.c1
  have hx3 := hx2.grown g3 (by simp)
  have x2 := hx3.c2
  have hcv := conv_byte w1 a w1.heap.size rfl
  have hcv2 := conv_byte w2 b w2.heap.size rfl
  rw [hw2] at hcv
  rw [hw3] at hcv2
  have HG := Lib.hid ((g1.trans g2).trans g3)
  have h0 := HG.out.cell q0 (by simp)
  have h1 := HG.out.cell q1 (by simp)
  have h2 := HG.out.cell q2 (by simp)
  have HC := Lib.hid (ih w3 HG.out)
  have HT := Lib.hid ht
  have hwl := HG.out.size
  clear ho ih hrow hcell q0 q1 q2 hx hx2 hx3 g1 g2 g3 ht
  go_enter Tryd.func11, Tryd.ntmps11
  go_wp2_with fail
  refine HC.out.mono ?_
  rintro e w4 ⟨v, rfl, hg4, ho4⟩
  obtain ⟨A4, k4, c4, rfl⟩ := own_form ho4
  obtain rfl := own_len ho4
  have HG4 := Lib.hid (HG.out.trans hg4)
  have own1 := ho4.alloc (.cells #[.string (one a)] 9)
  have hs4 := hg4.size
  clear hg4 ho4 h0 h1 h2 x0 x1 x2 hcv hcv2
  go_wp2_with (at_builtin; refine wpList_append_own_at _ rfl _ _ 32 rfl w3.heap.size 9 i0 (.string .empty) 1 16 Tryd.underlying32 hi0 hz0 hz1 hz2 rfl (by decide) _ _ _ rfl own1 ⟨w4.heap.size, 0, none⟩ 1 1 [.string (one a)] rfl rfl ?a1 ?a2 ?a3 ?a4 ?a5 ?_)
  case a1 => exact cell_one_new _ _ _
  case a2 => simp [Value.oneCell']
  case a3 => simp only [maxLen]; omega
  case a4 => omega
  case a5 => rw [World.size_alloc]; omega
  intro v8 w8 hown8 hg8 _ _
  have HO8 := Lib.hid hown8
  have HG8 := Lib.hid (grR (grA HG4.out _) hg8 (fun k hk => Nat.le_trans hwl (own1.lt k hk).1))
  obtain ⟨A8, k8, c8, rfl⟩ := own_form hown8
  clear hown8 hg8 own1
  go_wp2_with fail
  go_ret
  refine ⟨_, rfl, HG8.out, ?_⟩
  rw [HT.out, insV_snoc, ← one_is, List.length_append]
  exact own_base HO8.out hwl

set_option maxRecDepth 100000 in
set_option maxHeartbeats 4000000 in
theorem slst_two (t s r : Tm) (a a2 b2 a3 b3 : Int) (A A2 A3 : Option Addr) (c k2 c2 k3 c3 : Nat) (w : World) (ht : t.ins = s.ins ++ (r.ins ++ [[byt a]])) (hl : s.ins.length ≤ 1000000) (hlr : r.ins.length ≤ 1000000) (hr0 : 0 < r.ins.length)
    (ho : w.ownsRow 0 26 3 (.slice A 2 c) 2 (flat3 [(a2, b2, .slice A2 k2 c2), (a3, b3, .slice A3 k3 c3)]))
    (ih1 : ∀ u : World, w.grownBy u none → Calls Tryd.prog 11 #[.agg #[.int .u8 a2, .int .u8 b2, .slice A2 k2 c2]] u (LstP s u))
    (ih2 : ∀ u : World, w.grownBy u none → Calls Tryd.prog 11 #[.agg #[.int .u8 a3, .int .u8 b3, .slice A3 k3 c3]] u (LstP r u)) :
    Calls Tryd.prog 11 #[.agg #[.int .u8 a, .int .u8 0, .slice A 2 c]] w (LstP t w) := by
  obtain ⟨i0, hi0, hz0, hz1, hz2⟩ := info_parts infoS7
  obtain ⟨-, -, hrow⟩ := srow3 (xs := [(a2, b2, .slice A2 k2 c2), (a3, b3, .slice A3 k3 c3)]) ho
  obtain ⟨g, rfl, hg1, hcell⟩ := hrow (by omega)
  obtain ⟨q0, q1, q2⟩ := hcell 0 _ rfl
  obtain ⟨r0, r1, r2⟩ := hcell 1 _ rfl
  simp only [Nat.zero_mul, Nat.zero_add, Nat.one_mul] at q0 q1 q2 r0 r1 r2
  obtain ⟨w1, hw1⟩ : ∃ z, w.alloc (.cells #[.int .u8 a, .int .u8 0, .slice (some ⟨g, 0, none⟩) 2 c] 26) = z := ⟨_, rfl⟩
  have hx : C3 w1 w.heap.size (.int .u8 a) (.int .u8 0) (.slice (some ⟨g, 0, none⟩) 2 c) 26 := by rw [← hw1]; exact c3_new _ _ _ _ _
  have g1 : w.grownBy w1 none := by rw [← hw1]; exact World.grownBy_alloc _ _ _
  obtain ⟨w2, hw2⟩ : ∃ z, w1.alloc (.cells #[.int .u8 a] 5) = z := ⟨_, rfl⟩
  have g2 : w1.grownBy w2 none := by rw [← hw2]; exact World.grownBy_alloc _ _ _
  obtain ⟨w3, hw3⟩ : ∃ z, w2.alloc (.cells #[.int .u8 0] 5) = z := ⟨_, rfl⟩
  have g3 : w2.grownBy w3 none := by rw [← hw3]; exact World.grownBy_alloc _ _ _
  have x0 := hx.c0
  have hx2 := hx.grown g2 (by simp)
  have x1 := hx2.c1
  have hx3 := hx2.grown g3 (by simp)
  have x2 := hx3.c2
  have HX3 := Lib.hid hx3
  have hcv := conv_byte w1 a w1.heap.size rfl
  have hcv2 := conv_byte w2 0 w2.heap.size rfl
  rw [hw2] at hcv
  rw [hw3] at hcv2
  have HG := Lib.hid ((g1.trans g2).trans g3)
  have h0 := HG.out.cell q0 (by simp)
  have h1 := HG.out.cell q1 (by simp)
  have h2 := HG.out.cell q2 (by simp)
  have HR := Lib.hid (And.intro r0 (And.intro r1 r2))
  have HC := Lib.hid (ih1 w3 HG.out)
  have HC2 := Lib.hid ih2
  have HT := Lib.hid ht
  have hwl := HG.out.size
  clear ho ih1 ih2 hrow hcell q0 q1 q2 r0 r1 r2 hx hx2 hx3 g1 g2 g3 ht
  go_enter Tryd.func11, Tryd.ntmps11
  go_wp2_with fail
  refine HC.out.mono ?_
  rintro e w4 ⟨v, rfl, hg4, ho4⟩
  obtain ⟨A4, k4, c4, rfl⟩ := own_form ho4
  obtain rfl := own_len ho4
  have HG4 := Lib.hid (HG.out.trans hg4)
  have hx4 := HX3.out.grown hg4 (by simp)
  have y1 := hx4.c1
  have y2 := hx4.c2
  have s0 := HG4.out.cell HR.out.1 (by simp)
  have s1 := HG4.out.cell HR.out.2.1 (by simp)
  have s2 := HG4.out.cell HR.out.2.2 (by simp)
  have HCR := Lib.hid (HC2.out w4 HG4.out)
  have HO4 := Lib.hid ho4
  have hs4 := hg4.size
  clear hg4 ho4 h0 h1 h2 x0 x1 x2 hcv hcv2 hx4
  go_wp2_with fail
  refine HCR.out.mono ?_
  rintro e w5 ⟨v5, rfl, hg5, ho5⟩
  obtain ⟨A5, k5, c5, rfl⟩ := own_form ho5
  obtain rfl := own_len ho5
  have own5 := own_keep HO4.out (fun k hk => hg5.block k (HO4.out.lt k hk).2 (by simp))
  obtain ⟨_, _, hr5⟩ := orow ho5
  obtain ⟨gr5, rfl, _, _, hc5⟩ := hr5 hr0
  have HC5 := Lib.hid hc5
  have HG5 := Lib.hid (HG4.out.trans hg5)
  have hs5 := hg5.size
  clear hg5 ho5 hr5 y1 y2 s0 s1 s2 hc5
  go_wp2_with (at_builtin; refine wpList_append_own_at _ rfl _ _ 32 rfl w3.heap.size 9 i0 (.string .empty) 1 16 Tryd.underlying32 hi0 hz0 hz1 hz2 rfl (by decide) _ _ _ rfl own5 ⟨gr5, 0, none⟩ r.ins.length c5 (insV r.ins) rfl ?b0 ?b1 ?b2 ?b3 ?b4 ?b5 ?_)
  case b0 => rw [insV_len]; omega
  case b1 => exact fun j u hu => by rw [addr0]; exact HC5.out j u hu
  case b2 => exact insV_one _
  case b3 => simp only [maxLen]; omega
  case b4 => omega
  case b5 => omega
  intro v6 w6 hown6 hg6 _ _
  have HO6 := Lib.hid hown6
  have HG6 := Lib.hid (grR HG5.out hg6 (fun k hk => Nat.le_trans hwl (own5.lt k hk).1))
  obtain ⟨A6, k6, c6, rfl⟩ := own_form hown6
  have own1 := hown6.alloc (.cells #[.string (one a)] 9)
  have hs6 := hg6.size
  clear hown6 hg6 own5
  go_wp2_with (at_builtin; refine wpList_append_own_at _ rfl _ _ 32 rfl w3.heap.size 9 i0 (.string .empty) 1 16 Tryd.underlying32 hi0 hz0 hz1 hz2 rfl (by decide) _ _ _ rfl own1 ⟨w6.heap.size, 0, none⟩ 1 1 [.string (one a)] rfl rfl ?a1 ?a2 ?a3 ?a4 ?a5 ?_)
  case a1 => exact cell_one_new _ _ _
  case a2 => simp [Value.oneCell']
  case a3 => simp only [maxLen]; omega
  case a4 => omega
  case a5 => rw [World.size_alloc]; omega
  intro v8 w8 hown8 hg8 _ _
  have HO8 := Lib.hid hown8
  have HG8 := Lib.hid (grR (grA HG6.out _) hg8 (fun k hk => Nat.le_trans hwl (own1.lt k hk).1))
  obtain ⟨A8, k8, c8, rfl⟩ := own_form hown8
  clear hown8 hg8 own1
  go_wp2_with fail
  go_ret
  refine ⟨_, rfl, HG8.out, ?_⟩
  have e1 : t.ins.length = s.ins.length + r.ins.length + 1 := by rw [HT.out]; simp; omega
  rw [e1, HT.out, insV_app, insV_app]
  exact own_base HO8.out hwl

end Go.Proofs.YtdfanconjiiceaaDoor
