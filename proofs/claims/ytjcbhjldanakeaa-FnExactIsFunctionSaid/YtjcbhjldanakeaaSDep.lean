/- What the model's l5Env.depth does at digits, variables, prefixes and pairs. -/
import Derived.Test.YtjcbhjldanakeaaSEnv
import Derived.Test.YtjcbhjldanakeaaSLev
import Derived.Deep.RegionLaw
namespace Go.Proofs.Ytjcbhjldanakeaa
open Go.RowKit

/-- How it ends: with the depth; the array says what it said; nothing else has turned. -/
def SDP (x : Int) (g : Nat) (en : Int → Int) (w : World) (e : Ending) (w' : World) : Prop := e = .returned (.int .i64 x) ∧ w.grownBy w' (some g) ∧ EnvAt w' g en

theorem gr_some {w w' : World} (g : Nat) (h : w.grownBy w' none) : w.grownBy w' (some g) := ⟨h.os, h.tape, h.output, h.size, fun k hk _ => h.block k hk (by simp)⟩

set_option maxRecDepth 100000 in
set_option maxHeartbeats 1000000 in
theorem sdep_dig (b : Int) (A : Option Addr) (c g : Nat) (en : Int → Int) (w : World) (he : EnvAt w g en) :
    Calls Try.prog 44 #[.pointer (some ⟨g, 0, none⟩), .agg #[.int .u8 48, .int .u8 b, .slice A 0 c]] w (SDP 0 g en w) := by
  have HX := Lib.hid (c3_new w (.int .u8 48) (.int .u8 b) (.slice A 0 c) 40)
  have x0 := HX.out.c0
  have x2 := HX.out.c2
  have HE := Lib.hid he
  clear he
  go_enter Try.func44, Try.ntmps44
  go_wp2_with fail
  go_ret
  exact ⟨rfl, gr_some g (World.grownBy_alloc _ _ _), HE.out.grown (World.grownBy_alloc _ _ _)⟩

set_option maxRecDepth 100000 in
set_option maxHeartbeats 1000000 in
theorem sdep_var (k : Nat) (hk : k < 256) (A : Option Addr) (c g : Nat) (en : Int → Int) (w : World) (he : EnvAt w g en) :
    Calls Try.prog 44 #[.pointer (some ⟨g, 0, none⟩), .agg #[.int .u8 97, .int .u8 (k : Int), .slice A 0 c]] w (SDP (en k) g en w) := by
  have HX := Lib.hid (c3_new w (.int .u8 97) (.int .u8 (k : Int)) (.slice A 0 c) 40)
  have x0 := HX.out.c0
  have x1 := HX.out.c1
  have x2 := HX.out.c2
  have HG := Lib.hid (World.grownBy_alloc w (.cells #[.int .u8 97, .int .u8 (k : Int), .slice A 0 c] 40) none)
  have HE := Lib.hid (he.grown HG.out)
  have hcell := HE.out.cell hk
  generalize en (k : Int) = r at hcell ⊢
  clear he
  go_enter Try.func44, Try.ntmps44
  go_wp2_with fail
  go_quiet (fail)
  go_wp2_with fail
  go_ret
  exact ⟨rfl, (gr_some g HG.out).trans (gr_drewN _ _ _), HE.out.grown (gr_drewN _ _ _)⟩

set_option maxRecDepth 100000 in
set_option maxHeartbeats 2000000 in
theorem sdep_pre (a d a2 b2 : Int) (A A2 : Option Addr) (c k2 c2 g : Nat) (en : Int → Int) (w : World) (hd : -1 ≤ d ∧ d ≤ 3) (he : EnvAt w g en)
    (ho : w.ownsRow 0 40 3 (.slice A 1 c) 1 (flat3 [(a2, b2, .slice A2 k2 c2)]))
    (ih : ∀ u : World, w.grownBy u (some g) → EnvAt u g en → Calls Try.prog 44 #[.pointer (some ⟨g, 0, none⟩), .agg #[.int .u8 a2, .int .u8 b2, .slice A2 k2 c2]] u (SDP d g en u)) :
    Calls Try.prog 44 #[.pointer (some ⟨g, 0, none⟩), .agg #[.int .u8 a, .int .u8 0, .slice A 1 c]] w (SDP (dOne a d) g en w) := by
  obtain ⟨-, -, hrow⟩ := srow3 (xs := [(a2, b2, .slice A2 k2 c2)]) ho
  obtain ⟨gr, rfl, hgr1, hcell⟩ := hrow (by omega)
  obtain ⟨q0, q1, q2⟩ := hcell 0 _ rfl
  simp only [Nat.zero_mul, Nat.zero_add] at q0 q1 q2
  have HX := Lib.hid (c3_new w (.int .u8 a) (.int .u8 0) (.slice (some ⟨gr, 0, none⟩) 1 c) 40)
  have x0 := HX.out.c0
  have x2 := HX.out.c2
  have HG := Lib.hid (World.grownBy_alloc w (.cells #[.int .u8 a, .int .u8 0, .slice (some ⟨gr, 0, none⟩) 1 c] 40) none)
  have h0 := HG.out.cell q0 (by simp)
  have h1 := HG.out.cell q1 (by simp)
  have h2 := HG.out.cell q2 (by simp)
  have HE := Lib.hid (he.grown HG.out)
  have hlt : g < w.heap.size := he.lt
  have HD := Lib.hid (fun w => done_any a d w hd)
  generalize dOne a d = r at HD ⊢
  have HC := Lib.hid ih
  clear hcell hrow ho ih q0 q1 q2 he
  go_enter Try.func44, Try.ntmps44
  go_wp2_with fail
  go_region_law (first
    | (go_simp
       go_at_call 70
       refine (HD.out _).mono ?_
       rintro e wb ⟨rfl, rfl⟩
       have HDONE := Lib.hid True.intro)
    | (go_simp
       go_at_call 44
       refine (HC.out _ ((gr_some g HG.out).trans (gr_drewN _ 1 _)) (HE.out.grown (gr_drewN _ 1 _))).mono ?_
       rintro e wa ⟨rfl, hga, hea⟩
       have HGa := Lib.hid ((gr_drewN (w.alloc (.cells #[.int .u8 a, .int .u8 0, .slice (some ⟨gr, 0, none⟩) 1 c] 40)) 1 (some g)).trans hga)
       have HEa := Lib.hid hea
       have x0a := HGa.out.cell x0 (by simp; omega)
       clear hga hea))
  all_goals
    go_wp2_with fail
  all_goals
    go_ret
    exact ⟨rfl, (gr_some g HG.out).trans HGa.out, HEa.out⟩

set_option maxRecDepth 100000 in
set_option maxHeartbeats 2000000 in
theorem sdep_two (a d1 d2 a2 b2 a3 b3 : Int) (A A2 A3 : Option Addr) (c k2 c2 k3 c3 g : Nat) (en : Int → Int) (w : World) (he : EnvAt w g en)
    (hne : ∀ x, (Value.slice A 2 c).ownBlock = some x → x ≠ g)
    (ho : w.ownsRow 0 40 3 (.slice A 2 c) 2 (flat3 [(a2, b2, .slice A2 k2 c2), (a3, b3, .slice A3 k3 c3)]))
    (ih1 : ∀ u : World, w.grownBy u (some g) → EnvAt u g en → Calls Try.prog 44 #[.pointer (some ⟨g, 0, none⟩), .agg #[.int .u8 a2, .int .u8 b2, .slice A2 k2 c2]] u (SDP d1 g en u))
    (ih2 : ∀ u : World, w.grownBy u (some g) → EnvAt u g en → Calls Try.prog 44 #[.pointer (some ⟨g, 0, none⟩), .agg #[.int .u8 a3, .int .u8 b3, .slice A3 k3 c3]] u (SDP d2 g en u)) :
    Calls Try.prog 44 #[.pointer (some ⟨g, 0, none⟩), .agg #[.int .u8 a, .int .u8 0, .slice A 2 c]] w (SDP (dTwo a d1 d2) g en w) := by
  obtain ⟨-, -, hrow⟩ := srow3 (xs := [(a2, b2, .slice A2 k2 c2), (a3, b3, .slice A3 k3 c3)]) ho
  obtain ⟨gr, rfl, hgr1, hcell⟩ := hrow (by omega)
  obtain ⟨q0, q1, q2⟩ := hcell 0 _ rfl
  obtain ⟨q3, q4, q5⟩ := hcell 1 _ rfl
  simp only [Nat.zero_mul, Nat.zero_add, Nat.one_mul] at q0 q1 q2 q3 q4 q5
  have HX := Lib.hid (c3_new w (.int .u8 a) (.int .u8 0) (.slice (some ⟨gr, 0, none⟩) 2 c) 40)
  have x0 := HX.out.c0
  have x1 := HX.out.c1
  have x2 := HX.out.c2
  have HG := Lib.hid (World.grownBy_alloc w (.cells #[.int .u8 a, .int .u8 0, .slice (some ⟨gr, 0, none⟩) 2 c] 40) none)
  have h0 := HG.out.cell q0 (by simp)
  have h1 := HG.out.cell q1 (by simp)
  have h2 := HG.out.cell q2 (by simp)
  have h3 := HG.out.cell q3 (by simp)
  have h4 := HG.out.cell q4 (by simp)
  have h5 := HG.out.cell q5 (by simp)
  have HE := Lib.hid (he.grown HG.out)
  have hlt : g < w.heap.size := he.lt
  have hneg : gr ≠ g := hne gr rfl
  have HD := Lib.hid (fun w => dtwo_any a d1 d2 w)
  generalize dTwo a d1 d2 = r at HD ⊢
  have HC1 := Lib.hid ih1
  have HC2 := Lib.hid ih2
  clear hcell hrow ho ih1 ih2 q0 q1 q2 q3 q4 q5 he hne
  go_enter Try.func44, Try.ntmps44
  go_wp2_with fail
  refine (HC1.out _ (gr_some g HG.out) HE.out).mono ?_
  rintro e w1 ⟨rfl, hg1, he1⟩
  have HG1 := Lib.hid hg1
  have HE1 := Lib.hid he1
  have y0 := hg1.cell x0 (by simp; omega)
  have y1 := hg1.cell x1 (by simp; omega)
  have y2 := hg1.cell x2 (by simp; omega)
  have z3 := hg1.cell h3 (by simp; exact hneg)
  have z4 := hg1.cell h4 (by simp; exact hneg)
  have z5 := hg1.cell h5 (by simp; exact hneg)
  have HGG := Lib.hid ((gr_some g HG.out).trans hg1)
  clear hg1 he1 x0 x1 x2 h0 h1 h2 h3 h4 h5
  go_wp2_with fail
  go_region_law (first
    | (go_simp
       go_at_call 71
       refine (HD.out _).mono ?_
       rintro e wb ⟨rfl, rfl⟩
       have HDONE := Lib.hid True.intro)
    | (go_simp
       go_at_call 44
       refine (HC2.out _ (HGG.out.trans (gr_drewN w1 1 _)) (HE1.out.grown (gr_drewN w1 1 _))).mono ?_
       rintro e wa ⟨rfl, hga, hea⟩
       have HGa := Lib.hid ((gr_drewN w1 1 (some g)).trans hga)
       have HEa := Lib.hid hea
       have x0a := HGa.out.cell y0 (by simp; omega)
       clear hga hea))
  all_goals
    go_wp2_with fail
  all_goals
    go_ret
    exact ⟨rfl, HGG.out.trans HGa.out, HEa.out⟩

end Go.Proofs.Ytjcbhjldanakeaa
