/- What the model's l5Env.depth does at loops. -/
import Derived.Test.YtjcbhjldanakeaaSDep
namespace Go.Proofs.Ytjcbhjldanakeaa
open Go.RowKit

set_option maxRecDepth 100000 in
set_option maxHeartbeats 2000000 in
theorem sdep_loop0 (a d1 a2 b2 a3 b3 : Int) (k : Nat) (A A2 A3 : Option Addr) (c k2 c2 k3 c3 g : Nat) (en : Int → Int) (w : World) (hk0 : 0 < k) (hd : d1 < 1) (he : EnvAt w g en)
    (hne : ∀ x, (Value.slice A 2 c).ownBlock = some x → x ≠ g)
    (ho : w.ownsRow 0 40 3 (.slice A 2 c) 2 (flat3 [(a2, b2, .slice A2 k2 c2), (a3, b3, .slice A3 k3 c3)]))
    (ih1 : ∀ u : World, w.grownBy u (some g) → EnvAt u g en → Calls Try.prog 44 #[.pointer (some ⟨g, 0, none⟩), .agg #[.int .u8 a2, .int .u8 b2, .slice A2 k2 c2]] u (SDP d1 g en u)) :
    Calls Try.prog 44 #[.pointer (some ⟨g, 0, none⟩), .agg #[.int .u8 a, .int .u8 (k : Int), .slice A 2 c]] w (SDP (-1) g en w) := by
  obtain ⟨-, -, hrow⟩ := srow3 (xs := [(a2, b2, .slice A2 k2 c2), (a3, b3, .slice A3 k3 c3)]) ho
  obtain ⟨gr, rfl, hgr1, hcell⟩ := hrow (by omega)
  obtain ⟨q0, q1, q2⟩ := hcell 0 _ rfl
  simp only [Nat.zero_mul, Nat.zero_add] at q0 q1 q2
  have HX := Lib.hid (c3_new w (.int .u8 a) (.int .u8 (k : Int)) (.slice (some ⟨gr, 0, none⟩) 2 c) 40)
  have x0 := HX.out.c0
  have x1 := HX.out.c1
  have x2 := HX.out.c2
  have HG := Lib.hid (World.grownBy_alloc w (.cells #[.int .u8 a, .int .u8 (k : Int), .slice (some ⟨gr, 0, none⟩) 2 c] 40) none)
  have h0 := HG.out.cell q0 (by simp)
  have h1 := HG.out.cell q1 (by simp)
  have h2 := HG.out.cell q2 (by simp)
  have HE := Lib.hid (he.grown HG.out)
  have hlt : g < w.heap.size := he.lt
  have hkz : ((k : Int) == 0) = false := by rw [beq_eq_false_iff_ne]; omega
  have HC1 := Lib.hid ih1
  clear hcell hrow ho ih1 q0 q1 q2 he hne
  go_enter Try.func44, Try.ntmps44
  go_wp2_with fail
  refine (HC1.out _ (gr_some g HG.out) HE.out).mono ?_
  rintro e w1 ⟨rfl, hg1, he1⟩
  have HG1 := Lib.hid hg1
  have HE1 := Lib.hid he1
  have y1 := hg1.cell x1 (by simp; omega)
  have HGG := Lib.hid ((gr_some g HG.out).trans hg1)
  clear hg1 he1 x0 x1 x2 h0 h1 h2
  go_wp2_with fail
  go_ret
  exact ⟨rfl, HGG.out, HE1.out⟩

set_option maxRecDepth 100000 in
set_option maxHeartbeats 4000000 in
theorem sdep_loop1 (a d1 d2 a2 b2 a3 b3 : Int) (k : Nat) (A A2 A3 : Option Addr) (c k2 c2 k3 c3 g : Nat) (en : Int → Int) (w : World) (ha : a = 91 ∨ a = 123) (hk0 : 0 < k) (hk : k < 256) (hd : 1 ≤ d1) (hd1 : d1 ≤ 3) (hd2 : -1 ≤ d2 ∧ d2 ≤ 3) (he : EnvAt w g en)
    (hne : ∀ x, (Value.slice A 2 c).ownBlock = some x → x ≠ g)
    (ho : w.ownsRow 0 40 3 (.slice A 2 c) 2 (flat3 [(a2, b2, .slice A2 k2 c2), (a3, b3, .slice A3 k3 c3)]))
    (ih1 : ∀ u : World, w.grownBy u (some g) → EnvAt u g en → Calls Try.prog 44 #[.pointer (some ⟨g, 0, none⟩), .agg #[.int .u8 a2, .int .u8 b2, .slice A2 k2 c2]] u (SDP d1 g en u))
    (ih2 : ∀ u : World, w.grownBy u (some g) → EnvAt u g (upd en k (d1 - 1)) → Calls Try.prog 44 #[.pointer (some ⟨g, 0, none⟩), .agg #[.int .u8 a3, .int .u8 b3, .slice A3 k3 c3]] u (SDP d2 g (upd en k (d1 - 1)) u)) :
    Calls Try.prog 44 #[.pointer (some ⟨g, 0, none⟩), .agg #[.int .u8 a, .int .u8 (k : Int), .slice A 2 c]] w (SDP (dLoop a d1 d2) g en w) := by
  obtain ⟨-, -, hrow⟩ := srow3 (xs := [(a2, b2, .slice A2 k2 c2), (a3, b3, .slice A3 k3 c3)]) ho
  obtain ⟨gr, rfl, hgr1, hcell⟩ := hrow (by omega)
  obtain ⟨q0, q1, q2⟩ := hcell 0 _ rfl
  obtain ⟨q3, q4, q5⟩ := hcell 1 _ rfl
  simp only [Nat.zero_mul, Nat.zero_add, Nat.one_mul] at q0 q1 q2 q3 q4 q5
  have HX := Lib.hid (c3_new w (.int .u8 a) (.int .u8 (k : Int)) (.slice (some ⟨gr, 0, none⟩) 2 c) 40)
  have x0 := HX.out.c0
  have x1 := HX.out.c1
  have x2 := HX.out.c2
  have HG := Lib.hid (World.grownBy_alloc w (.cells #[.int .u8 a, .int .u8 (k : Int), .slice (some ⟨gr, 0, none⟩) 2 c] 40) none)
  have h0 := HG.out.cell q0 (by simp)
  have h1 := HG.out.cell q1 (by simp)
  have h2 := HG.out.cell q2 (by simp)
  have h3 := HG.out.cell q3 (by simp)
  have h4 := HG.out.cell q4 (by simp)
  have h5 := HG.out.cell q5 (by simp)
  have HE := Lib.hid (he.grown HG.out)
  have hlt : g < w.heap.size := he.lt
  have hneg : gr ≠ g := hne gr rfl
  have hkz : ((k : Int) == 0) = false := by rw [beq_eq_false_iff_ne]; omega
  have hd0 : ¬ (d1 < 1) := by omega
  have wr1 : IntKind.i64.wrap (d1 - 1) = d1 - 1 := IntWalk.i64_in _ (by omega)
  have wr2 : IntKind.i64.wrap (d2 + 1) = d2 + 1 := IntWalk.i64_in _ (by omega)
  have HC1 := Lib.hid ih1
  have HC2 := Lib.hid ih2
  have HA := Lib.hid ha
  clear hcell hrow ho ih1 ih2 q0 q1 q2 q3 q4 q5 he hne ha
  go_enter Try.func44, Try.ntmps44
  go_wp2_with fail
  refine (HC1.out _ (gr_some g HG.out) HE.out).mono ?_
  rintro e w1 ⟨rfl, hg1, he1⟩
  have HE1 := Lib.hid he1
  have y0 := hg1.cell x0 (by simp; omega)
  have y1 := hg1.cell x1 (by simp; omega)
  have y2 := hg1.cell x2 (by simp; omega)
  have z3 := hg1.cell h3 (by simp; exact hneg)
  have z4 := hg1.cell h4 (by simp; exact hneg)
  have z5 := hg1.cell h5 (by simp; exact hneg)
  have HGG := Lib.hid ((gr_some g HG.out).trans hg1)
  have hold := he1.cell hk
  have hfr := he1.frozen k
  obtain ⟨old, hO⟩ : ∃ o, en (k : Int) = o := ⟨_, rfl⟩
  rw [hO] at hold
  have HO := Lib.hid hO
  have HB : Hid (w.heap.size ≠ g) := Lib.hid (by omega)
  have HR : Hid (gr ≠ g) := Lib.hid hneg
  clear hg1 he1 x0 x1 x2 h0 h1 h2 h3 h4 h5 hO
  go_wp2_with fail
  go_quiet (fail)
  go_wp2_with fail
  go_region
  go_wp2_with fail
  have HS := Lib.hid ((HE1.out.grown (gr_drewN w1 (nq + 1) none)).set k (d1 - 1))
  refine (HC2.out _ ((HGG.out.trans (gr_drewN w1 (nq + 1) _)).trans HS.out.2) HS.out.1).mono ?_
  rintro e w2 ⟨rfl, hg2, he2⟩
  have hch := ((gr_drewN w1 (nq + 1) (some g)).trans HS.out.2).trans hg2
  have HG2 := Lib.hid (HGG.out.trans hch)
  have v0 := hch.cell y0 (by simp; exact HB.out)
  have v1 := hch.cell y1 (by simp; exact HB.out)
  have hcell2 := he2.cell hk
  have hfr2 := he2.frozen k
  obtain ⟨mid, hM⟩ : ∃ o, upd en (k : Int) (d1 - 1) (k : Int) = o := ⟨_, rfl⟩
  rw [hM] at hcell2
  have HE2 := Lib.hid he2
  clear hg2 he2 hch hM y0 y1 y2 z3 z4 z5 hold hfr
  go_wp2_with fail
  go_region
  have HS2 := Lib.hid ((HE2.out.grown (gr_drewN w2 1 none)).set k old)
  have HEND : Hid (w.grownBy ((w2.drewN 1).setCell ⟨g, k, none⟩ (.int .i64 old)) (some g) ∧ EnvAt ((w2.drewN 1).setCell ⟨g, k, none⟩ (.int .i64 old)) g en) := Lib.hid ⟨(HG2.out.trans (gr_drewN w2 1 _)).trans HS2.out.2, by
    have := HS2.out.1
    rw [show upd (upd en (k : Int) (d1 - 1)) (k : Int) old = en from by rw [← HO.out]; exact upd_back en _ _] at this
    exact this⟩
  clear HS HS2 HE2 HG2
  rcases HA.out with rfl | rfl
  · go_wp2_with fail
    all_goals
      go_ret
      refine ⟨ret_i ?_, HEND.out.1, HEND.out.2⟩
      unfold dLoop
      (repeat' split) <;> omega
  · go_wp2_with fail
    all_goals
      go_ret
      refine ⟨ret_i ?_, HEND.out.1, HEND.out.2⟩
      try simp only [bne_iff_ne, bne_eq_false_iff_eq, ne_eq] at *
      unfold dLoop
      (repeat' split) <;> omega

end Go.Proofs.Ytjcbhjldanakeaa
