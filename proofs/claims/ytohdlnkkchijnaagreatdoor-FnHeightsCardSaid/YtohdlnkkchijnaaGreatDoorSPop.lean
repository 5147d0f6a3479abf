/- What the model's builder of terms does: pop. -/
import Derived.Test.YtohdlnkkchijnaaGreatDoorSStk
import Derived.Test.YtohdlnkkchijnaaGreatDoorInsI
namespace Go.Proofs.YtohdlnkkchijnaaGreatDoor
open Go.RowKit

/-- The floor that pop reads off the heights of the loops. -/
def FloorAt (w : World) (v2 : Value) (f : Nat) : Prop := ∃ A m c, v2 = .slice A m c ∧ m ≤ 1000000 ∧ ((m = 0 ∧ f = 0) ∨ ∃ m' g, m = m' + 1 ∧ A = some ⟨g, 0, none⟩ ∧ g < w.heap.size ∧ w.cell? ⟨g, m', none⟩ = some (.int .i64 (f : Int)))
theorem FloorAt.grown {w w' : World} {v2 : Value} {f : Nat} (h : FloorAt w v2 f) (hg : w.grownBy w' none) : FloorAt w' v2 f := by
  obtain ⟨A, m, c, hv, hm, h⟩ := h
  refine ⟨A, m, c, hv, hm, ?_⟩
  rcases h with h | ⟨m', g, h1, h2, h3, h4⟩
  · exact .inl h
  · exact .inr ⟨m', g, h1, h2, Nat.lt_of_lt_of_le h3 hg.size, hg.cell h4 (by simp)⟩

def nodeZ : Value := .agg #[.int .u8 0, .int .u8 0, .slice none 0 0]

set_option maxRecDepth 100000 in
set_option maxHeartbeats 2000000 in
theorem spop_none (b : Nat) (A : Option Addr) (n c f : Nat) (v1 v2 : Value) (w : World) (h : C3 w b (.slice A n c) v1 v2 129) (hf : FloorAt w v2 f) (hn : n ≤ f) (hnf : f ≤ 1000000) :
    Calls Tryz.prog 103 #[.pointer (some ⟨b, 0, none⟩)] w fun e w' => e = .returned (.tuple #[nodeZ, .bool false]) ∧ w.grownBy w' none := by
  obtain ⟨w1, hw1⟩ : ∃ z, w.alloc (.cells #[.int .u8 0, .int .u8 0, .slice none 0 0] 52) = z := ⟨_, rfl⟩
  have g1 : w.grownBy w1 none := by rw [← hw1]; exact World.grownBy_alloc _ _ _
  have hx1 : C3 w1 w.heap.size (.int .u8 0) (.int .u8 0) (.slice none 0 0) 52 := by rw [← hw1]; exact c3_new w _ _ _ _
  have hb1 := h.grown g1 (by simp)
  have e0 := hb1.c0
  have e2 := hb1.c2
  have x0 := hx1.c0
  have x1 := hx1.c1
  have x2 := hx1.c2
  have y0 := hx1.f 0
  have y1 := hx1.f 1
  have y2 := hx1.f 2
  have HG1 := Lib.hid g1
  have HX1 := Lib.hid hx1
  obtain ⟨A2, m, c2, rfl, hm, hc⟩ := hf.grown g1
  clear h hf g1 hb1 hx1
  rcases hc with ⟨rfl, rfl⟩ | ⟨m', g, rfl, rfl, hgl, hcell⟩
  · obtain rfl : n = 0 := by omega
    go_enter Tryz.func103, Tryz.ntmps103
    go_wp2_with fail
    clear e0 e2 x0 x1 x2 y0 y1 y2
    have HL : C3 (laid3 (w1) w.heap.size (.int .u8 0) (.int .u8 0) (.slice none 0 0)) w.heap.size (.int .u8 0) (.int .u8 0) (.slice none 0 0) 52 := C3.laid (x := .int .u8 0) (y := .int .u8 0) (z := .slice none 0 0) HX1.out
    have m0 := HL.c0
    have m1 := HL.c1
    have m2 := HL.c2
    unfold laid3 at m0 m1 m2
    exact bodyPost_ret (v := .tuple #[nodeZ, .bool false]) (by simp [results, Tryz.results103, go_sem, m0, m1, m2, nodeZ]) rfl ⟨rfl, gr_laid3n (HG1.out.trans (gr_drewN w1 0 none)) (Nat.le_refl _) _ _ _⟩
  · have hmm : ((m' : Nat) : Int) < ((m' : Nat) : Int) + 1 := by omega
    have hle : ((n : Nat) : Int) ≤ ((f : Nat) : Int) := by omega
    go_enter Tryz.func103, Tryz.ntmps103
    go_wp2_with fail
    go_quiet (fail)
    go_wp2_with fail
    clear e0 e2 x0 x1 x2 y0 y1 y2 hcell
    have HL : C3 (laid3 (w1.drewN nq) w.heap.size (.int .u8 0) (.int .u8 0) (.slice none 0 0)) w.heap.size (.int .u8 0) (.int .u8 0) (.slice none 0 0) 52 := C3.laid (x := .int .u8 0) (y := .int .u8 0) (z := .slice none 0 0) HX1.out
    have m0 := HL.c0
    have m1 := HL.c1
    have m2 := HL.c2
    unfold laid3 at m0 m1 m2
    exact bodyPost_ret (v := .tuple #[nodeZ, .bool false]) (by simp [results, Tryz.results103, go_sem, m0, m1, m2, nodeZ]) rfl ⟨rfl, gr_laid3n (HG1.out.trans (gr_drewN w1 nq none)) (Nat.le_refl _) _ _ _⟩

/-- The last node of a row. -/
theorem own_lastN {w : World} {base n c : Nat} {A : Option Addr} {xs : List (Int × Int × Value)} {x : Int × Int × Value} (h : w.ownsRow base 52 3 (.slice A (n + 1) c) (n + 1) (flat3 (xs ++ [x]))) :
    ∃ g, A = some ⟨g, 0, none⟩ ∧ g < w.heap.size ∧ n + 1 ≤ c ∧ xs.length = n ∧ w.cell? ⟨g, n * 3, none⟩ = some (.int .u8 x.1) ∧ w.cell? ⟨g, n * 3 + 1, none⟩ = some (.int .u8 x.2.1) ∧ w.cell? ⟨g, n * 3 + 2, none⟩ = some x.2.2 := by
  have hl := h.1
  rw [flat3_length] at hl
  simp at hl
  have hln : xs.length = n := by omega
  rcases h.2 with ⟨_, hn⟩ | ⟨g, cap, cur, hv, hb, hg, hnc, hcm, hcs, htake⟩
  · omega
  · cases hv
    have ha := flat3_at (xs ++ [x]) n x (by rw [List.getElem?_append_right (by omega)]; simp [hln])
    exact ⟨g, rfl, (Array.getElem?_eq_some_iff.1 hg).1, hnc, hln, own_cell h ha.1, own_cell h ha.2.1, own_cell h ha.2.2⟩

theorem c3_set {w : World} {b q i : Nat} {x y z u : Value} {t : TypeId} (h : C3 w b x y z t) (hne : b ≠ q) : C3 (w.setCell ⟨q, i, none⟩ u) b x y z t := h.grown (gr_set w q i u) (fun e => hne (by simpa using e))
theorem c3_laid {w : World} {b q : Nat} {x y z u v s : Value} {t : TypeId} (h : C3 w b x y z t) (hne : b ≠ q) : C3 (laid3 w q u v s) b x y z t := by
  unfold laid3
  exact c3_set (c3_set (c3_set h hne) hne) hne
theorem chg_set {wr : Nat → Prop} {U V : World} {g i : Nat} {v : Value} (hu : Chg wr U V) (hg : wr g) : Chg wr U (V.setCell ⟨g, i, none⟩ v) :=
  hu.trans (Chg.row (wr := wr) (gr_set V g i v) (fun k hk => by cases hk; exact hg)) (fun _ _ e => e) (fun _ _ e => e)
theorem chg_laid {wr : Nat → Prop} {U V : World} {g : Nat} {x y z : Value} (hu : Chg wr U V) (hg : wr g) : Chg wr U (laid3 V g x y z) := by
  unfold laid3
  exact chg_set (chg_set (chg_set hu hg) hg) hg
theorem chg_drew {wr : Nat → Prop} {U V : World} (hu : Chg wr U V) : Chg wr U V.drew := hu.trans (Chg.grown (wr := wr) (gr_drewN V 1 none)) (fun _ _ e => e) (fun _ _ e => e)

theorem c3_drew {w : World} {b : Nat} {x y z : Value} {t : TypeId} (h : C3 w b x y z t) : C3 w.drew b x y z t := h

theorem spop_end {w V2 : World} {b r q : Nat} {v0 v1 v2 u x y z : Value} (hb : C3 V2 b v0 v1 v2 129) (hx : C3 V2 r (.int .u8 0) (.int .u8 0) (.slice none 0 0) 52) (hg : w.grownBy V2 none) (hr : w.heap.size ≤ r) (hq : w.heap.size ≤ q) (h1 : b ≠ q) (h2 : b ≠ r) (h3 : r ≠ q) :
    C3 (laid3 ((laid3 V2 q x y z).setCell ⟨b, 0, none⟩ u) r x y z) r x y z 52 ∧ C3 (laid3 ((laid3 V2 q x y z).setCell ⟨b, 0, none⟩ u) r x y z) b u v1 v2 129 ∧ Chg (fun k => k = b) w (laid3 ((laid3 V2 q x y z).setCell ⟨b, 0, none⟩ u) r x y z) := by
  have h0 : Chg (fun k => k = b ∨ w.heap.size ≤ k) w V2 := Chg.grown hg
  refine ⟨(c3_set (c3_laid hx h3) h2.symm).laid, c3_laid ((c3_laid hb h1).set0 u) h2, ?_⟩
  exact (chg_laid (chg_set (chg_laid h0 (.inr hq)) (.inl rfl)) (.inr hr)).mono (fun i hi e => e.elim id (fun e => by omega))

set_option maxRecDepth 100000 in
set_option maxHeartbeats 1000000 in
theorem spop_some (n0 b : Nat) (A : Option Addr) (n c f : Nat) (v1 v2 : Value) (xa xc : Int) (A0 : Option Addr) (k0 c0 : Nat) (xs : List (Int × Int × Value)) (w : World) (h : C3 w b (.slice A (n + 1) c) v1 v2 129) (ho : w.ownsRow n0 52 3 (.slice A (n + 1) c) (n + 1) (flat3 (xs ++ [(xa, xc, .slice A0 k0 c0)]))) (hf : FloorAt w v2 f) (hn : f ≤ n) (hnn : n ≤ 1000000) :
    Calls Tryz.prog 103 #[.pointer (some ⟨b, 0, none⟩)] w fun e w' => e = .returned (.tuple #[.agg #[.int .u8 xa, .int .u8 xc, .slice A0 k0 c0], .bool true]) ∧ Chg (fun k => k = b) w w' ∧ C3 w' b (.slice A n c) v1 v2 129 := by
  obtain ⟨gr, rfl, hgr, hnc, _, u0, u1, u2⟩ := own_lastN ho
  have hgb : gr ≠ b := fun e => own_not ho h (by decide) (by rw [e]; rfl)
  obtain ⟨w1, hw1⟩ : ∃ z, w.alloc (.cells #[.int .u8 0, .int .u8 0, .slice none 0 0] 52) = z := ⟨_, rfl⟩
  have g1 : w.grownBy w1 none := by rw [← hw1]; exact World.grownBy_alloc _ _ _
  have hsz1 : w1.heap.size = w.heap.size + 1 := by rw [← hw1]; simp
  have hx1 : C3 w1 w.heap.size (.int .u8 0) (.int .u8 0) (.slice none 0 0) 52 := by rw [← hw1]; exact c3_new w _ _ _ _
  have hb1 := h.grown g1 (by simp)
  have e0 := hb1.c0
  have e2 := hb1.c2
  have hc0 : ¬ c = 0 := by omega
  have hlt : ((n : Nat) : Int) < ((n : Nat) : Int) + 1 := by omega
  have t0 := g1.cell u0 (by simp)
  have t1 := g1.cell u1 (by simp)
  have t2 := g1.cell u2 (by simp)
  have HG1 := Lib.hid g1
  have HX1 := Lib.hid hx1
  have HB1 := Lib.hid hb1
  have HSZ := Lib.hid (And.intro hsz1 (And.intro h.lt hgr))
  obtain ⟨A2, m, c2, rfl, hm, hc⟩ := hf.grown g1
  have hle : ¬ (((n : Nat) : Int) + 1 ≤ ((f : Nat) : Int)) := by omega
  clear h ho hf g1 hb1 hx1 u0 u1 u2 hsz1 hgr
  -- the two boxes and the builder, in whatever world that has them
  rcases hc with ⟨rfl, rfl⟩ | ⟨m', g, rfl, rfl, hgl, hcell⟩
  · go_enter Tryz.func103, Tryz.ntmps103
    go_wp2_with fail
    obtain ⟨V2, hV2⟩ : ∃ z, w1.drew.alloc (.cells #[.int .u8 0, .int .u8 0, .slice none 0 0] 52) = z := ⟨_, rfl⟩
    have gV2 : w1.grownBy V2 none := by rw [← hV2]; exact (gr_drewN w1 (0 + 1) none).trans (World.grownBy_alloc (w1.drewN (0 + 1)) _ none)
    have hb2 := HB1.out.grown gV2 (by simp)
    have hx2 := HX1.out.grown gV2 (by simp)
    have hq2 : C3 V2 w1.heap.size (.int .u8 0) (.int .u8 0) (.slice none 0 0) 52 := by rw [← hV2]; exact c3_new (w1.drewN (0 + 1)) _ _ _ _
    have a0 := hb2.c0
    have af := hb2.f 0
    have s0 := gV2.cell t0 (by simp)
    have s1 := gV2.cell t1 (by simp)
    have s2 := gV2.cell t2 (by simp)
    have q0 := hq2.c0
    have q1 := hq2.c1
    have q2 := hq2.c2
    have q3 := hq2.f 0
    have q4 := hq2.f 1
    have q5 := hq2.f 2
    have p0 := hx2.c0
    have p1 := hx2.c1
    have p2 := hx2.c2
    have p3 := hx2.f 0
    have p4 := hx2.f 1
    have p5 := hx2.f 2
    obtain ⟨hsz1, hbl, hgl2⟩ := HSZ.out
    have n1 : ¬ b = w1.heap.size := by omega
    have n2 : ¬ w1.heap.size = b := by omega
    have n3 : ¬ w.heap.size = b := by omega
    have n4 : ¬ b = w.heap.size := by omega
    have n5 : ¬ w.heap.size = w1.heap.size := by omega
    have n6 : ¬ w1.heap.size = w.heap.size := by omega
    have n7 : ¬ gr = w1.heap.size := by omega
    have n8 : ¬ gr = b := hgb
    have HB2 := Lib.hid hb2
    have HX2 := Lib.hid hx2
    have HQ2 := Lib.hid hq2
    have HGV := Lib.hid gV2
    clear gV2 hb2 hx2 hq2
    clear hsz1
    go_region
    go_wp2_with fail
    go_region
    go_wp2_with fail
    clear a0 af s0 s1 s2 q0 q1 q2 q3 q4 q5 p0 p1 p2 p3 p4 p5
    obtain ⟨hL, hBB, hCC⟩ := spop_end (x := .int .u8 xa) (y := .int .u8 xc) (z := .slice A0 k0 c0) (u := .slice (some ⟨gr, 0, none⟩) n c) HB2.out HX2.out (HG1.out.trans HGV.out) (Nat.le_refl _) HG1.out.size n1 n4 n5
    have hL' := c3_drew hL
    have hBB' := c3_drew hBB
    have m0 := hL'.c0
    have m1 := hL'.c1
    have m2 := hL'.c2
    have hCC' := chg_drew hCC
    unfold laid3 at m0 m1 m2 hCC' hBB'
    clear hL hL' hBB hCC
    exact bodyPost_ret (v := .tuple #[.agg #[.int .u8 xa, .int .u8 xc, .slice A0 k0 c0], .bool true]) (by simp [results, Tryz.results103, go_sem, m0, m1, m2]) rfl ⟨rfl, hCC', hBB'⟩
  · have hmm : ((m' : Nat) : Int) < ((m' : Nat) : Int) + 1 := by omega
    go_enter Tryz.func103, Tryz.ntmps103
    go_wp2_with fail
    go_quiet (fail)
    go_wp2_with fail
    obtain ⟨V2, hV2⟩ : ∃ z, (w1.drewN (nq + 1)).alloc (.cells #[.int .u8 0, .int .u8 0, .slice none 0 0] 52) = z := ⟨_, rfl⟩
    have gV2 : w1.grownBy V2 none := by rw [← hV2]; exact (gr_drewN w1 (nq + 1) none).trans (World.grownBy_alloc (w1.drewN (nq + 1)) _ none)
    have hb2 := HB1.out.grown gV2 (by simp)
    have hx2 := HX1.out.grown gV2 (by simp)
    have hq2 : C3 V2 w1.heap.size (.int .u8 0) (.int .u8 0) (.slice none 0 0) 52 := by rw [← hV2]; exact c3_new (w1.drewN (nq + 1)) _ _ _ _
    have a0 := hb2.c0
    have af := hb2.f 0
    have s0 := gV2.cell t0 (by simp)
    have s1 := gV2.cell t1 (by simp)
    have s2 := gV2.cell t2 (by simp)
    have q0 := hq2.c0
    have q1 := hq2.c1
    have q2 := hq2.c2
    have q3 := hq2.f 0
    have q4 := hq2.f 1
    have q5 := hq2.f 2
    have p0 := hx2.c0
    have p1 := hx2.c1
    have p2 := hx2.c2
    have p3 := hx2.f 0
    have p4 := hx2.f 1
    have p5 := hx2.f 2
    obtain ⟨hsz1, hbl, hgl2⟩ := HSZ.out
    have n1 : ¬ b = w1.heap.size := by omega
    have n2 : ¬ w1.heap.size = b := by omega
    have n3 : ¬ w.heap.size = b := by omega
    have n4 : ¬ b = w.heap.size := by omega
    have n5 : ¬ w.heap.size = w1.heap.size := by omega
    have n6 : ¬ w1.heap.size = w.heap.size := by omega
    have n7 : ¬ gr = w1.heap.size := by omega
    have n8 : ¬ gr = b := hgb
    have HB2 := Lib.hid hb2
    have HX2 := Lib.hid hx2
    have HQ2 := Lib.hid hq2
    have HGV := Lib.hid gV2
    clear gV2 hb2 hx2 hq2
    clear hsz1
    go_region
    go_wp2_with fail
    go_region
    go_wp2_with fail
    clear a0 af s0 s1 s2 q0 q1 q2 q3 q4 q5 p0 p1 p2 p3 p4 p5
    obtain ⟨hL, hBB, hCC⟩ := spop_end (x := .int .u8 xa) (y := .int .u8 xc) (z := .slice A0 k0 c0) (u := .slice (some ⟨gr, 0, none⟩) n c) HB2.out HX2.out (HG1.out.trans HGV.out) (Nat.le_refl _) HG1.out.size n1 n4 n5
    have hL' := c3_drew hL
    have hBB' := c3_drew hBB
    have m0 := hL'.c0
    have m1 := hL'.c1
    have m2 := hL'.c2
    have hCC' := chg_drew hCC
    unfold laid3 at m0 m1 m2 hCC' hBB'
    clear hL hL' hBB hCC
    exact bodyPost_ret (v := .tuple #[.agg #[.int .u8 xa, .int .u8 xc, .slice A0 k0 c0], .bool true]) (by simp [results, Tryz.results103, go_sem, m0, m1, m2]) rfl ⟨rfl, hCC', hBB'⟩

end Go.Proofs.YtohdlnkkchijnaaGreatDoor
