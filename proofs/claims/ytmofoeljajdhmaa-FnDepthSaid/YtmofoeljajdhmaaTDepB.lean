/- DepthOfTerm and IsFunction, both sides, as the laws want them. -/
import Derived.Test.YtmofoeljajdhmaaTDep
import Derived.Test.YtmofoeljajdhmaaOwn
import Derived.Deep.WholeRow
import Derived.Great.Walk
import Derived.Test.YtmofoeljajdhmaaSLev
import Derived.Deep.RegionLaw
import Derived.Test.YtmofoeljajdhmaaTDepA
import Derived.Test.YtmofoeljajdhmaaTSign
namespace Go.Proofs.Ytmofoeljajdhmaa
section
open Go.RowKit

abbrev TE : TypeId := 187
def pve (P : List Int) : Array Value := (P.map (Value.int .i64)).toArray
theorem pve_size (P : List Int) : (pve P).size = P.length := by simp [pve]
theorem zeroE : (∀ w, (zeroValue TE).run Try.prog w = .ok (.agg (Array.replicate 256 (.int .i64 0))) w) ∧ (Try.prog.info? TE).map (·.size) = some 256 := zero_of_info (by kernel_rfl)
theorem underE : Try.prog.underlying TE = some (.array 256 3) := by kernel_rfl
theorem pve_zero : pve (List.replicate 256 0) = Array.replicate 256 (.int .i64 0) := by
  simp only [pve, List.map_replicate, List.toArray_replicate]

/-- A block that holds an array of 256 numbers. -/
def A256 (w : World) (g : Nat) (P : List Int) : Prop := w.heap[g]? = some (.cells (pve P) TE (0, 0)) ∧ P.length = 256
theorem A256.lt {w : World} {g : Nat} {P : List Int} (h : A256 w g P) : g < w.heap.size := (Array.getElem?_eq_some_iff.1 h.1).1
theorem A256.new (w : World) {P : List Int} (h : P.length = 256) : A256 (w.alloc (.cells (pve P) TE)) w.heap.size P := ⟨heap_alloc_last w _, h⟩
theorem A256.grown {w w' : World} {g : Nat} {P : List Int} {row : Option Nat} (h : A256 w g P) (hg : w.grownBy w' row) (hne : some g ≠ row) : A256 w' g P := ⟨(hg.block g h.lt hne).trans h.1, h.2⟩
theorem A256.own {w : World} {g : Nat} {P : List Int} (h : A256 w g P) : w.ownsRow 0 TE 1 (.slice (some ⟨g, 0, none⟩) 256 256) 256 (P.map (Value.int .i64)) :=
  ⟨by simp [h.2], .inr ⟨g, 256, pve P, rfl, Nat.zero_le _, h.1, Nat.le_refl _, by simp [maxLen], by rw [pve_size, h.2], by simp [pve]; rw [← h.2, ← List.length_map (f := Value.int .i64), List.take_length]⟩⟩
theorem A256.cell {w : World} {g : Nat} {P : List Int} (h : A256 w g P) {j : Nat} {x : Int} (hj : P[j]? = some x) : w.cell? ⟨g, j, none⟩ = some (.int .i64 x) := by
  have hl := (List.getElem?_eq_some_iff.1 hj).1
  have h1 := h.own.cellAt j (by have := h.2; omega)
  rw [h1, List.getElem?_map, hj]
  rfl
theorem A256.frozen {w : World} {g : Nat} {P : List Int} (h : A256 w g P) (j : Nat) : w.frozen? ⟨g, j, none⟩ = false := h.own.frozenAt j
theorem A256.set {w : World} {g : Nat} {P : List Int} (h : A256 w g P) (j : Nat) (x : Int) : A256 (w.setCell ⟨g, j, none⟩ (.int .i64 x)) g (P.set j x) ∧ w.grownBy (w.setCell ⟨g, j, none⟩ (.int .i64 x)) (some g) := by
  refine ⟨⟨?_, by rw [List.length_set]; exact h.2⟩, (h.own.stored j _).2⟩
  rw [heap_setCell_same w g j (pve P) TE (.int .i64 x) h.1]
  simp [pve, List.map_set]

/-- .. that says what depths variables have. -/
def EnvAt (w : World) (g : Nat) (e : Int → Int) : Prop := ∃ P, A256 w g P ∧ ∀ k : Nat, k < 256 → P[k]? = some (e (k : Int))
theorem EnvAt.lt {w : World} {g : Nat} {e : Int → Int} (h : EnvAt w g e) : g < w.heap.size := by
  obtain ⟨P, h1, _⟩ := h
  exact h1.lt
theorem EnvAt.grown {w w' : World} {g : Nat} {e : Int → Int} (h : EnvAt w g e) (hg : w.grownBy w' none) : EnvAt w' g e := by
  obtain ⟨P, h1, h2⟩ := h
  exact ⟨P, h1.grown hg (by simp), h2⟩
theorem EnvAt.cell {w : World} {g : Nat} {e : Int → Int} (h : EnvAt w g e) {k : Nat} (hk : k < 256) : w.cell? ⟨g, k, none⟩ = some (.int .i64 (e (k : Int))) := by
  obtain ⟨P, h1, h2⟩ := h
  exact h1.cell (h2 k hk)
theorem EnvAt.frozen {w : World} {g : Nat} {e : Int → Int} (h : EnvAt w g e) (k : Nat) : w.frozen? ⟨g, k, none⟩ = false := by
  obtain ⟨P, h1, _⟩ := h
  exact h1.frozen k
theorem EnvAt.set {w : World} {g : Nat} {e : Int → Int} (h : EnvAt w g e) (k : Nat) (d : Int) : EnvAt (w.setCell ⟨g, k, none⟩ (.int .i64 d)) g (upd e k d) ∧ w.grownBy (w.setCell ⟨g, k, none⟩ (.int .i64 d)) (some g) := by
  obtain ⟨P, h1, h2⟩ := h
  refine ⟨⟨_, (h1.set k d).1, fun j hj => ?_⟩, (h1.set k d).2⟩
  rw [List.getElem?_set]
  unfold upd
  by_cases hjk : k = j
  · subst hjk
    simp
    rw [h1.2]; exact hj
  · have : ¬ ((j : Int) = (k : Int)) := by omega
    rw [if_neg hjk, if_neg this]
    exact h2 j hj
theorem upd_back (e : Int → Int) (k d : Int) : upd (upd e k d) k (e k) = e := by
  funext c
  unfold upd
  by_cases h : c = k
  · rw [if_pos h, h]
  · rw [if_neg h, if_neg h]

set_option maxRecDepth 100000 in
set_option maxHeartbeats 2000000 in
theorem sstart_any (w : World) :
    Calls Try.prog 91 #[] w fun e w' => ∃ g, e = .returned (.pointer (some ⟨g, 0, none⟩)) ∧ w.heap.size ≤ g ∧ w.grownBy w' none ∧ EnvAt w' g env0 := by
  have hz : ∀ w, (zeroValue 187).run Try.prog w = .ok (.agg (Array.replicate 256 (.int .i64 0))) w := zeroE.1
  have HA0 := Lib.hid (by have := A256.new w (P := List.replicate 256 0) (by simp); rw [pve_zero] at this; exact this)
  have HG0 := Lib.hid (World.grownBy_alloc w (.cells (Array.replicate 256 (.int .i64 0)) TE) none)
  go_enter Try.func91, Try.ntmps91
  go_wp2_with fail
  go_loopw [5] (fun i wr => ∃ (j : Nat) (P : List Int), j ≤ 256 ∧ i = .int .i64 j ∧ Hid (A256 wr w.heap.size P) ∧ Hid (∀ k : Nat, k < j → P[k]? = some (-1)) ∧ Hid (w.grownBy wr none)) (fun i _ => 256 - (intOf i).toNat)
  case atStart => exact ⟨0, _, Nat.zero_le _, rfl, HA0, Lib.hid (fun k hk => by omega), HG0⟩
  case round =>
    obtain ⟨j, P, hj, rfl, ha, hp, hgr⟩ := hrel
    have hfr := ha.out.frozen
    by_cases hlt : j < 256
    · have hpl := ha.out.2
      obtain ⟨x, hx⟩ : ∃ x, P[j]? = some x := ⟨_, List.getElem?_eq_getElem (by omega)⟩
      have hcell := ha.out.cell hx
      have hset := ha.out.set j (-1)
      have HST := Lib.hid hset
      have HP2 : Hid (∀ k : Nat, k < j + 1 → (P.set j (-1))[k]? = some (-1)) := Lib.hid (fun k hk => by
        rw [List.getElem?_set]
        by_cases hjk : j = k
        · rw [if_pos hjk, if_pos (by rw [hpl]; exact hlt)]
        · rw [if_neg hjk]; exact hp.out k (by omega))
      clear hset hx hpl
      go_wp2_with fail
      go_roundw
      case rel => exact ⟨j + 1, _, by omega, by go_num, Lib.hid HST.out.1, HP2, Lib.hid (gr_new hgr.out HST.out.2 (Nat.le_refl _))⟩
      case measure => simp [intOf]; omega
    · obtain rfl : j = 256 := by omega
      have he : EnvAt wr w.heap.size (fun _ => -1) := ⟨P, ha.out, hp.out⟩
      have h1 := he.set 97 1
      have h2 := h1.1.set 98 2
      have HE1 := Lib.hid h1
      have HE2 := Lib.hid h2
      have c97 := he.cell (k := 97) (by omega)
      have c98 := h1.1.cell (k := 98) (by omega)
      have f98 := h1.1.frozen 98
      have hfr97 := he.frozen 97
      clear h1 h2 he
      go_wp2_with fail
      go_ret
      refine ⟨_, rfl, Nat.le_refl _, gr_new (gr_new hgr.out HE1.out.2 (Nat.le_refl _)) HE2.out.2 (Nat.le_refl _), ?_⟩
      have := HE2.out.1
      rw [show env0 = upd (upd (fun _ => -1) ((97 : Nat) : Int) 1) ((98 : Nat) : Int) 2 from by
        funext c
        unfold env0 upd
        by_cases h1 : c = 97
        · subst h1; rfl
        · simp [h1]]
      exact this
end

section
open Go.RowKit

/-- How it ends: with the depth; the array says what it said; nothing else has turned. -/
def SDP (x : Int) (g : Nat) (en : Int → Int) (w : World) (e : Ending) (w' : World) : Prop := e = .returned (.int .i64 x) ∧ w.grownBy w' (some g) ∧ EnvAt w' g en

theorem gr_some {w w' : World} (g : Nat) (h : w.grownBy w' none) : w.grownBy w' (some g) := ⟨h.os, h.tape, h.output, h.size, fun k hk _ => h.block k hk (by simp)⟩

set_option maxRecDepth 100000 in
set_option maxHeartbeats 1000000 in
theorem sdep_dig (b : Int) (A : Option Addr) (c g : Nat) (en : Int → Int) (w : World) (he : EnvAt w g en) :
    Calls Try.prog 92 #[.pointer (some ⟨g, 0, none⟩), .agg #[.int .u8 48, .int .u8 b, .slice A 0 c]] w (SDP 0 g en w) := by
  have HX := Lib.hid (c3_new w (.int .u8 48) (.int .u8 b) (.slice A 0 c) 70)
  have x0 := HX.out.c0
  have x2 := HX.out.c2
  have HE := Lib.hid he
  clear he
  go_enter Try.func92, Try.ntmps92
  go_wp2_with fail
  go_ret
  exact ⟨rfl, gr_some g (World.grownBy_alloc _ _ _), HE.out.grown (World.grownBy_alloc _ _ _)⟩

set_option maxRecDepth 100000 in
set_option maxHeartbeats 1000000 in
theorem sdep_var (k : Nat) (hk : k < 256) (A : Option Addr) (c g : Nat) (en : Int → Int) (w : World) (he : EnvAt w g en) :
    Calls Try.prog 92 #[.pointer (some ⟨g, 0, none⟩), .agg #[.int .u8 97, .int .u8 (k : Int), .slice A 0 c]] w (SDP (en k) g en w) := by
  have HX := Lib.hid (c3_new w (.int .u8 97) (.int .u8 (k : Int)) (.slice A 0 c) 70)
  have x0 := HX.out.c0
  have x1 := HX.out.c1
  have x2 := HX.out.c2
  have HG := Lib.hid (World.grownBy_alloc w (.cells #[.int .u8 97, .int .u8 (k : Int), .slice A 0 c] 70) none)
  have HE := Lib.hid (he.grown HG.out)
  have hcell := HE.out.cell hk
  generalize en (k : Int) = r at hcell ⊢
  clear he
  go_enter Try.func92, Try.ntmps92
  go_wp2_with fail
  go_quiet (fail)
  go_wp2_with fail
  go_ret
  exact ⟨rfl, (gr_some g HG.out).trans (gr_drewN _ _ _), HE.out.grown (gr_drewN _ _ _)⟩

set_option maxRecDepth 100000 in
set_option maxHeartbeats 2000000 in
theorem sdep_pre (a d a2 b2 : Int) (A A2 : Option Addr) (c k2 c2 g : Nat) (en : Int → Int) (w : World) (hd : -1 ≤ d ∧ d ≤ 3) (he : EnvAt w g en)
    (ho : w.ownsRow 0 70 3 (.slice A 1 c) 1 (flat3 [(a2, b2, .slice A2 k2 c2)]))
    (ih : ∀ u : World, w.grownBy u (some g) → EnvAt u g en → Calls Try.prog 92 #[.pointer (some ⟨g, 0, none⟩), .agg #[.int .u8 a2, .int .u8 b2, .slice A2 k2 c2]] u (SDP d g en u)) :
    Calls Try.prog 92 #[.pointer (some ⟨g, 0, none⟩), .agg #[.int .u8 a, .int .u8 0, .slice A 1 c]] w (SDP (dOne a d) g en w) := by
  obtain ⟨-, -, hrow⟩ := srow3 (xs := [(a2, b2, .slice A2 k2 c2)]) ho
  obtain ⟨gr, rfl, hgr1, hcell⟩ := hrow (by omega)
  obtain ⟨q0, q1, q2⟩ := hcell 0 _ rfl
  simp only [Nat.zero_mul, Nat.zero_add] at q0 q1 q2
  have HX := Lib.hid (c3_new w (.int .u8 a) (.int .u8 0) (.slice (some ⟨gr, 0, none⟩) 1 c) 70)
  have x0 := HX.out.c0
  have x2 := HX.out.c2
  have HG := Lib.hid (World.grownBy_alloc w (.cells #[.int .u8 a, .int .u8 0, .slice (some ⟨gr, 0, none⟩) 1 c] 70) none)
  have h0 := HG.out.cell q0 (by simp)
  have h1 := HG.out.cell q1 (by simp)
  have h2 := HG.out.cell q2 (by simp)
  have HE := Lib.hid (he.grown HG.out)
  have hlt : g < w.heap.size := he.lt
  have HD := Lib.hid (fun w => done_any a d w hd)
  generalize dOne a d = r at HD ⊢
  have HC := Lib.hid ih
  clear hcell hrow ho ih q0 q1 q2 he
  go_enter Try.func92, Try.ntmps92
  go_wp2_with fail
  go_region_law (first
    | (go_simp
       go_at_call 150
       refine (HD.out _).mono ?_
       rintro e wb ⟨rfl, rfl⟩
       have HDONE := Lib.hid True.intro)
    | (go_simp
       go_at_call 92
       refine (HC.out _ ((gr_some g HG.out).trans (gr_drewN _ 1 _)) (HE.out.grown (gr_drewN _ 1 _))).mono ?_
       rintro e wa ⟨rfl, hga, hea⟩
       have HGa := Lib.hid ((gr_drewN (w.alloc (.cells #[.int .u8 a, .int .u8 0, .slice (some ⟨gr, 0, none⟩) 1 c] 70)) 1 (some g)).trans hga)
       have HEa := Lib.hid hea
       have x0a := HGa.out.cell x0 (by simp; omega)
       clear hga hea))
  all_goals
    go_wp2_with fail
  all_goals
    go_ret
    exact ⟨rfl, (gr_some g HG.out).trans HGa.out, HEa.out⟩

set_option maxRecDepth 100000 in
set_option maxHeartbeats 2000000 in
theorem sdep_two (a d1 d2 a2 b2 a3 b3 : Int) (A A2 A3 : Option Addr) (c k2 c2 k3 c3 g : Nat) (en : Int → Int) (w : World) (he : EnvAt w g en)
    (hne : ∀ x, (Value.slice A 2 c).ownBlock = some x → x ≠ g)
    (ho : w.ownsRow 0 70 3 (.slice A 2 c) 2 (flat3 [(a2, b2, .slice A2 k2 c2), (a3, b3, .slice A3 k3 c3)]))
    (ih1 : ∀ u : World, w.grownBy u (some g) → EnvAt u g en → Calls Try.prog 92 #[.pointer (some ⟨g, 0, none⟩), .agg #[.int .u8 a2, .int .u8 b2, .slice A2 k2 c2]] u (SDP d1 g en u))
    (ih2 : ∀ u : World, w.grownBy u (some g) → EnvAt u g en → Calls Try.prog 92 #[.pointer (some ⟨g, 0, none⟩), .agg #[.int .u8 a3, .int .u8 b3, .slice A3 k3 c3]] u (SDP d2 g en u)) :
    Calls Try.prog 92 #[.pointer (some ⟨g, 0, none⟩), .agg #[.int .u8 a, .int .u8 0, .slice A 2 c]] w (SDP (dTwo a d1 d2) g en w) := by
  obtain ⟨-, -, hrow⟩ := srow3 (xs := [(a2, b2, .slice A2 k2 c2), (a3, b3, .slice A3 k3 c3)]) ho
  obtain ⟨gr, rfl, hgr1, hcell⟩ := hrow (by omega)
  obtain ⟨q0, q1, q2⟩ := hcell 0 _ rfl
  obtain ⟨q3, q4, q5⟩ := hcell 1 _ rfl
  simp only [Nat.zero_mul, Nat.zero_add, Nat.one_mul] at q0 q1 q2 q3 q4 q5
  have HX := Lib.hid (c3_new w (.int .u8 a) (.int .u8 0) (.slice (some ⟨gr, 0, none⟩) 2 c) 70)
  have x0 := HX.out.c0
  have x1 := HX.out.c1
  have x2 := HX.out.c2
  have HG := Lib.hid (World.grownBy_alloc w (.cells #[.int .u8 a, .int .u8 0, .slice (some ⟨gr, 0, none⟩) 2 c] 70) none)
  have h0 := HG.out.cell q0 (by simp)
  have h1 := HG.out.cell q1 (by simp)
  have h2 := HG.out.cell q2 (by simp)
  have h3 := HG.out.cell q3 (by simp)
  have h4 := HG.out.cell q4 (by simp)
  have h5 := HG.out.cell q5 (by simp)
  have HE := Lib.hid (he.grown HG.out)
  have hlt : g < w.heap.size := he.lt
  have hneg : gr ≠ g := hne gr rfl
  have HD := Lib.hid (fun w => dtwo_any a d1 d2 w)
  generalize dTwo a d1 d2 = r at HD ⊢
  have HC1 := Lib.hid ih1
  have HC2 := Lib.hid ih2
  clear hcell hrow ho ih1 ih2 q0 q1 q2 q3 q4 q5 he hne
  go_enter Try.func92, Try.ntmps92
  go_wp2_with fail
  refine (HC1.out _ (gr_some g HG.out) HE.out).mono ?_
  rintro e w1 ⟨rfl, hg1, he1⟩
  have HG1 := Lib.hid hg1
  have HE1 := Lib.hid he1
  have y0 := hg1.cell x0 (by simp; omega)
  have y1 := hg1.cell x1 (by simp; omega)
  have y2 := hg1.cell x2 (by simp; omega)
  have z3 := hg1.cell h3 (by simp; exact hneg)
  have z4 := hg1.cell h4 (by simp; exact hneg)
  have z5 := hg1.cell h5 (by simp; exact hneg)
  have HGG := Lib.hid ((gr_some g HG.out).trans hg1)
  clear hg1 he1 x0 x1 x2 h0 h1 h2 h3 h4 h5
  go_wp2_with fail
  go_region_law (first
    | (go_simp
       go_at_call 151
       refine (HD.out _).mono ?_
       rintro e wb ⟨rfl, rfl⟩
       have HDONE := Lib.hid True.intro)
    | (go_simp
       go_at_call 92
       refine (HC2.out _ (HGG.out.trans (gr_drewN w1 1 _)) (HE1.out.grown (gr_drewN w1 1 _))).mono ?_
       rintro e wa ⟨rfl, hga, hea⟩
       have HGa := Lib.hid ((gr_drewN w1 1 (some g)).trans hga)
       have HEa := Lib.hid hea
       have x0a := HGa.out.cell y0 (by simp; omega)
       clear hga hea))
  all_goals
    go_wp2_with fail
  all_goals
    go_ret
    exact ⟨rfl, HGG.out.trans HGa.out, HEa.out⟩
end

section
open Go.RowKit

set_option maxRecDepth 100000 in
set_option maxHeartbeats 2000000 in
theorem sdep_loop0 (a d1 a2 b2 a3 b3 : Int) (k : Nat) (A A2 A3 : Option Addr) (c k2 c2 k3 c3 g : Nat) (en : Int → Int) (w : World) (hk0 : 0 < k) (hd : d1 < 1) (he : EnvAt w g en)
    (hne : ∀ x, (Value.slice A 2 c).ownBlock = some x → x ≠ g)
    (ho : w.ownsRow 0 70 3 (.slice A 2 c) 2 (flat3 [(a2, b2, .slice A2 k2 c2), (a3, b3, .slice A3 k3 c3)]))
    (ih1 : ∀ u : World, w.grownBy u (some g) → EnvAt u g en → Calls Try.prog 92 #[.pointer (some ⟨g, 0, none⟩), .agg #[.int .u8 a2, .int .u8 b2, .slice A2 k2 c2]] u (SDP d1 g en u)) :
    Calls Try.prog 92 #[.pointer (some ⟨g, 0, none⟩), .agg #[.int .u8 a, .int .u8 (k : Int), .slice A 2 c]] w (SDP (-1) g en w) := by
  obtain ⟨-, -, hrow⟩ := srow3 (xs := [(a2, b2, .slice A2 k2 c2), (a3, b3, .slice A3 k3 c3)]) ho
  obtain ⟨gr, rfl, hgr1, hcell⟩ := hrow (by omega)
  obtain ⟨q0, q1, q2⟩ := hcell 0 _ rfl
  simp only [Nat.zero_mul, Nat.zero_add] at q0 q1 q2
  have HX := Lib.hid (c3_new w (.int .u8 a) (.int .u8 (k : Int)) (.slice (some ⟨gr, 0, none⟩) 2 c) 70)
  have x0 := HX.out.c0
  have x1 := HX.out.c1
  have x2 := HX.out.c2
  have HG := Lib.hid (World.grownBy_alloc w (.cells #[.int .u8 a, .int .u8 (k : Int), .slice (some ⟨gr, 0, none⟩) 2 c] 70) none)
  have h0 := HG.out.cell q0 (by simp)
  have h1 := HG.out.cell q1 (by simp)
  have h2 := HG.out.cell q2 (by simp)
  have HE := Lib.hid (he.grown HG.out)
  have hlt : g < w.heap.size := he.lt
  have hkz : ((k : Int) == 0) = false := by rw [beq_eq_false_iff_ne]; omega
  have HC1 := Lib.hid ih1
  clear hcell hrow ho ih1 q0 q1 q2 he hne
  go_enter Try.func92, Try.ntmps92
  go_wp2_with fail
  refine (HC1.out _ (gr_some g HG.out) HE.out).mono ?_
  rintro e w1 ⟨rfl, hg1, he1⟩
  have HG1 := Lib.hid hg1
  have HE1 := Lib.hid he1
  have y1 := hg1.cell x1 (by simp; omega)
  have HGG := Lib.hid ((gr_some g HG.out).trans hg1)
  clear hg1 he1 x0 x1 x2 h0 h1 h2
  go_wp2_with fail
  go_ret
  exact ⟨rfl, HGG.out, HE1.out⟩

set_option maxRecDepth 100000 in
set_option maxHeartbeats 4000000 in
theorem sdep_loop1 (a d1 d2 a2 b2 a3 b3 : Int) (k : Nat) (A A2 A3 : Option Addr) (c k2 c2 k3 c3 g : Nat) (en : Int → Int) (w : World) (ha : a = 91 ∨ a = 123) (hk0 : 0 < k) (hk : k < 256) (hd : 1 ≤ d1) (hd1 : d1 ≤ 3) (hd2 : -1 ≤ d2 ∧ d2 ≤ 3) (he : EnvAt w g en)
    (hne : ∀ x, (Value.slice A 2 c).ownBlock = some x → x ≠ g)
    (ho : w.ownsRow 0 70 3 (.slice A 2 c) 2 (flat3 [(a2, b2, .slice A2 k2 c2), (a3, b3, .slice A3 k3 c3)]))
    (ih1 : ∀ u : World, w.grownBy u (some g) → EnvAt u g en → Calls Try.prog 92 #[.pointer (some ⟨g, 0, none⟩), .agg #[.int .u8 a2, .int .u8 b2, .slice A2 k2 c2]] u (SDP d1 g en u))
    (ih2 : ∀ u : World, w.grownBy u (some g) → EnvAt u g (upd en k (d1 - 1)) → Calls Try.prog 92 #[.pointer (some ⟨g, 0, none⟩), .agg #[.int .u8 a3, .int .u8 b3, .slice A3 k3 c3]] u (SDP d2 g (upd en k (d1 - 1)) u)) :
    Calls Try.prog 92 #[.pointer (some ⟨g, 0, none⟩), .agg #[.int .u8 a, .int .u8 (k : Int), .slice A 2 c]] w (SDP (dLoop a d1 d2) g en w) := by
  obtain ⟨-, -, hrow⟩ := srow3 (xs := [(a2, b2, .slice A2 k2 c2), (a3, b3, .slice A3 k3 c3)]) ho
  obtain ⟨gr, rfl, hgr1, hcell⟩ := hrow (by omega)
  obtain ⟨q0, q1, q2⟩ := hcell 0 _ rfl
  obtain ⟨q3, q4, q5⟩ := hcell 1 _ rfl
  simp only [Nat.zero_mul, Nat.zero_add, Nat.one_mul] at q0 q1 q2 q3 q4 q5
  have HX := Lib.hid (c3_new w (.int .u8 a) (.int .u8 (k : Int)) (.slice (some ⟨gr, 0, none⟩) 2 c) 70)
  have x0 := HX.out.c0
  have x1 := HX.out.c1
  have x2 := HX.out.c2
  have HG := Lib.hid (World.grownBy_alloc w (.cells #[.int .u8 a, .int .u8 (k : Int), .slice (some ⟨gr, 0, none⟩) 2 c] 70) none)
  have h0 := HG.out.cell q0 (by simp)
  have h1 := HG.out.cell q1 (by simp)
  have h2 := HG.out.cell q2 (by simp)
  have h3 := HG.out.cell q3 (by simp)
  have h4 := HG.out.cell q4 (by simp)
  have h5 := HG.out.cell q5 (by simp)
  have HE := Lib.hid (he.grown HG.out)
  have hlt : g < w.heap.size := he.lt
  have hneg : gr ≠ g := hne gr rfl
  have hkz : ((k : Int) == 0) = false := by rw [beq_eq_false_iff_ne]; omega
  have hd0 : ¬ (d1 < 1) := by omega
  have wr1 : IntKind.i64.wrap (d1 - 1) = d1 - 1 := IntWalk.i64_in _ (by omega)
  have wr2 : IntKind.i64.wrap (d2 + 1) = d2 + 1 := IntWalk.i64_in _ (by omega)
  have HC1 := Lib.hid ih1
  have HC2 := Lib.hid ih2
  have HA := Lib.hid ha
  clear hcell hrow ho ih1 ih2 q0 q1 q2 q3 q4 q5 he hne ha
  go_enter Try.func92, Try.ntmps92
  go_wp2_with fail
  refine (HC1.out _ (gr_some g HG.out) HE.out).mono ?_
  rintro e w1 ⟨rfl, hg1, he1⟩
  have HE1 := Lib.hid he1
  have y0 := hg1.cell x0 (by simp; omega)
  have y1 := hg1.cell x1 (by simp; omega)
  have y2 := hg1.cell x2 (by simp; omega)
  have z3 := hg1.cell h3 (by simp; exact hneg)
  have z4 := hg1.cell h4 (by simp; exact hneg)
  have z5 := hg1.cell h5 (by simp; exact hneg)
  have HGG := Lib.hid ((gr_some g HG.out).trans hg1)
  have hold := he1.cell hk
  have hfr := he1.frozen k
  obtain ⟨old, hO⟩ : ∃ o, en (k : Int) = o := ⟨_, rfl⟩
  rw [hO] at hold
  have HO := Lib.hid hO
  have HB : Hid (w.heap.size ≠ g) := Lib.hid (by omega)
  have HR : Hid (gr ≠ g) := Lib.hid hneg
  clear hg1 he1 x0 x1 x2 h0 h1 h2 h3 h4 h5 hO
  go_wp2_with fail
  go_quiet (fail)
  go_wp2_with fail
  go_region
  go_wp2_with fail
  have HS := Lib.hid ((HE1.out.grown (gr_drewN w1 (nq + 1) none)).set k (d1 - 1))
  refine (HC2.out _ ((HGG.out.trans (gr_drewN w1 (nq + 1) _)).trans HS.out.2) HS.out.1).mono ?_
  rintro e w2 ⟨rfl, hg2, he2⟩
  have hch := ((gr_drewN w1 (nq + 1) (some g)).trans HS.out.2).trans hg2
  have HG2 := Lib.hid (HGG.out.trans hch)
  have v0 := hch.cell y0 (by simp; exact HB.out)
  have v1 := hch.cell y1 (by simp; exact HB.out)
  have hcell2 := he2.cell hk
  have hfr2 := he2.frozen k
  obtain ⟨mid, hM⟩ : ∃ o, upd en (k : Int) (d1 - 1) (k : Int) = o := ⟨_, rfl⟩
  rw [hM] at hcell2
  have HE2 := Lib.hid he2
  clear hg2 he2 hch hM y0 y1 y2 z3 z4 z5 hold hfr
  go_wp2_with fail
  go_region
  have HS2 := Lib.hid ((HE2.out.grown (gr_drewN w2 1 none)).set k old)
  have HEND : Hid (w.grownBy ((w2.drewN 1).setCell ⟨g, k, none⟩ (.int .i64 old)) (some g) ∧ EnvAt ((w2.drewN 1).setCell ⟨g, k, none⟩ (.int .i64 old)) g en) := Lib.hid ⟨(HG2.out.trans (gr_drewN w2 1 _)).trans HS2.out.2, by
    have := HS2.out.1
    rw [show upd (upd en (k : Int) (d1 - 1)) (k : Int) old = en from by rw [← HO.out]; exact upd_back en _ _] at this
    exact this⟩
  clear HS HS2 HE2 HG2
  rcases HA.out with rfl | rfl
  · go_wp2_with fail
    all_goals
      go_ret
      refine ⟨ret_i ?_, HEND.out.1, HEND.out.2⟩
      unfold dLoop
      (repeat' split) <;> omega
  · go_wp2_with fail
    all_goals
      go_ret
      refine ⟨ret_i ?_, HEND.out.1, HEND.out.2⟩
      try simp only [bne_iff_ne, bne_eq_false_iff_eq, ne_eq] at *
      unfold dLoop
      (repeat' split) <;> omega
end

section
open Go.RowKit

theorem SN.grownG {w w' : World} {S : Nat → Prop} {t : Tm} {x : Int × Int × Value} {g : Nat} (h : SN w S t x) (hS : ∀ b, S b → b ≠ g) (hg : w.grownBy w' (some g)) : SN w' S t x :=
  h.keep (fun b hb hl => hg.block b hl (by simp; exact hS b hb)) (fun _ hb _ => hb) t x

theorem slice_form {w : World} {e : TypeId} {size n : Nat} {sv : Value} {xs : List Value} (h : w.ownsRow 0 e size sv n xs) : ∃ A c, sv = .slice A n c := by
  obtain ⟨A, m, c, rfl⟩ := own_form h
  exact ⟨A, c, by rw [own_len h]⟩

set_option maxRecDepth 100000 in
theorem sdep_any : ∀ (n : Nat) (t : Tm) (S : Nat → Prop) (x : Int × Int × Value) (g : Nat) (en : Int → Int) (w : World), t.size ≤ n → t.Ok → (∀ c, -1 ≤ en c ∧ en c ≤ 3) → SN w S t x → (∀ b, S b → b ≠ g) → EnvAt w g en →
    Calls Try.prog 92 #[.pointer (some ⟨g, 0, none⟩), .agg #[.int .u8 x.1, .int .u8 x.2.1, x.2.2]] w (SDP (t.depth en) g en w)
  | 0, t, _, _, _, _, _, hn, _, _, _, _, _ => by have := t.size_pos; omega
  | n + 1, .dig c, S, (x1, x2, x3), g, en, w, hn, ho, hen, h, hS, he => by
    obtain ⟨h1, h2, h3, _⟩ := h
    obtain ⟨A, cc, h4⟩ := slice_form h3
    simp only at h1 h2 h4
    subst h1 h4
    exact sdep_dig _ A cc g en w he
  | n + 1, .var c, S, (x1, x2, x3), g, en, w, hn, ho, hen, h, hS, he => by
    obtain ⟨h1, h2, h3, _⟩ := h
    obtain ⟨A, cc, h4⟩ := slice_form h3
    simp only at h1 h2 h4
    subst h1 h2 h4
    have hv := vb ho
    have := sdep_var x2.toNat (by omega) A cc g en w he
    rw [show ((x2.toNat : Nat) : Int) = x2 from by omega] at this
    exact this
  | n + 1, .pre c s, S, (x1, x2, x3), g, en, w, hn, ho, hen, h, hS, he => by
    obtain ⟨h1, h2, y, h3, _, hy⟩ := h
    obtain ⟨A, cc, h4⟩ := slice_form h3
    simp only at h1 h2 h4 h3
    subst h1 h2 h4
    obtain ⟨y1, y2, y3⟩ := y
    obtain ⟨A2, k2, c2, h5⟩ := hy.form
    simp only at h5
    subst h5
    simp only [Tm.size] at hn
    exact sdep_pre x1 (s.depth en) y1 y2 A A2 cc k2 c2 g en w (s.depth_bd en hen) he h3 (fun u hu hue => sdep_any n s S (y1, y2, .slice A2 k2 c2) g en u (by omega) ho.2 hen (hy.grownG hS hu) hS hue)
  | n + 1, .two c s t, S, (x1, x2, x3), g, en, w, hn, ho, hen, h, hS, he => by
    obtain ⟨h1, h2, y, z, h3, hb, hy, hz⟩ := h
    obtain ⟨A, cc, h4⟩ := slice_form h3
    simp only at h1 h2 h4 h3 hb
    subst h1 h2 h4
    obtain ⟨y1, y2, y3⟩ := y
    obtain ⟨A2, k2, c2, h5⟩ := hy.form
    simp only at h5
    subst h5
    obtain ⟨z1, z2, z3⟩ := z
    obtain ⟨A3, k3, c3, h6⟩ := hz.form
    simp only at h6
    subst h6
    simp only [Tm.size] at hn
    exact sdep_two x1 (s.depth en) (t.depth en) y1 y2 z1 z2 A A2 A3 cc k2 c2 k3 c3 g en w he (fun x hx => hS x (hb x hx)) h3
      (fun u hu hue => sdep_any n s S (y1, y2, .slice A2 k2 c2) g en u (by omega) ho.2.1 hen (hy.grownG hS hu) hS hue)
      (fun u hu hue => sdep_any n t S (z1, z2, .slice A3 k3 c3) g en u (by omega) ho.2.2 hen (hz.grownG hS hu) hS hue)
  | n + 1, .loop c i s t, S, (x1, x2, x3), g, en, w, hn, ho, hen, h, hS, he => by
    obtain ⟨h1, h2, y, z, h3, hb, hy, hz⟩ := h
    obtain ⟨A, cc, h4⟩ := slice_form h3
    simp only at h1 h2 h4 h3 hb
    subst h1 h2 h4
    obtain ⟨y1, y2, y3⟩ := y
    obtain ⟨A2, k2, c2, h5⟩ := hy.form
    simp only at h5
    subst h5
    obtain ⟨z1, z2, z3⟩ := z
    obtain ⟨A3, k3, c3, h6⟩ := hz.form
    simp only at h6
    subst h6
    simp only [Tm.size] at hn
    have hl := lb ho.2.1
    have hl0 := isL_ge ho.2.1
    have hd1 := s.depth_bd en hen
    have hxk : ((x2.toNat : Nat) : Int) = x2 := by omega
    simp only [Tm.depth]
    by_cases hd : 1 ≤ s.depth en
    · rw [if_pos hd]
      have hbu := upd_bd hen x2 (d := s.depth en - 1) (by omega)
      have hd2 := t.depth_bd _ hbu
      have := sdep_loop1 x1 (s.depth en) (t.depth (upd en x2 (s.depth en - 1))) y1 y2 z1 z2 x2.toNat A A2 A3 cc k2 c2 k3 c3 g en w ho.1 (by omega) (by omega) hd hd1.2 hd2 he (fun x hx => hS x (hb x hx)) h3
        (fun u hu hue => sdep_any n s S (y1, y2, .slice A2 k2 c2) g en u (by omega) ho.2.2.1 hen (hy.grownG hS hu) hS hue)
        (fun u hu hue => by rw [hxk] at hue ⊢; exact sdep_any n t S (z1, z2, .slice A3 k3 c3) g _ u (by omega) ho.2.2.2 hbu (hz.grownG hS hu) hS hue)
      rw [hxk] at this
      exact this
    · rw [if_neg hd]
      have := sdep_loop0 x1 (s.depth en) y1 y2 z1 z2 x2.toNat A A2 A3 cc k2 c2 k3 c3 g en w (by omega) (by omega) he (fun x hx => hS x (hb x hx)) h3
        (fun u hu hue => sdep_any n s S (y1, y2, .slice A2 k2 c2) g en u (by omega) ho.2.2.1 hen (hy.grownG hS hu) hS hue)
      rw [hxk] at this
      exact this

set_option maxRecDepth 100000 in
set_option maxHeartbeats 2000000 in
theorem tdepth_spec (s : ByteArray) (hs : s.size ≤ 1048576) (w : World) :
    Calls Try.prog 33 #[.string s] w (DepP (depthA s) w) := by
  have H := Lib.hid (sterm_any s hs w)
  obtain ⟨r, hb⟩ : ∃ b, depthA s = b := ⟨_, rfl⟩
  rw [hb]
  have HB := Lib.hid hb
  clear hb
  go_enter Try.func33, Try.ntmps33
  go_wp2_with fail
  refine H.out.mono ?_
  intro e w1 hp
  unfold STermPost at hp
  have hb := HB.out
  unfold depthA at hb
  cases hr : readT s with
  | none =>
    rw [hr] at hp hb
    subst hb
    obtain ⟨rfl, hg⟩ := hp
    have HG := Lib.hid hg
    clear hg hr
    go_wp2_with fail
    go_ret
    exact ⟨rfl, HG.out.trans (World.grownBy_alloc _ _ _)⟩
  | some t =>
    rw [hr] at hp hb
    obtain ⟨a, d, A, k, c, rfl, hg, ha⟩ := hp
    have HG := Lib.hid (hg.trans (World.grownBy_alloc w1 (.cells #[.int .u8 a, .int .u8 d, .slice A k c] 70) none))
    have HX := Lib.hid (c3_new w1 (.int .u8 a) (.int .u8 d) (.slice A k c) 70)
    have x0 := HX.out.c0
    have x1 := HX.out.c1
    have x2 := HX.out.c2
    have hok := readT_some hr
    have HR : Hid (t.depth env0 = r) := Lib.hid hb
    have HA : Hid (SN w1 (fun b => b < w1.heap.size) t (a, d, .slice A k c)) := Lib.hid (ha.keep (fun _ _ _ => rfl) (fun b _ hl => hl) _ _)
    have HOK := Lib.hid hok.2.2.1
    have HSZ := Lib.hid hok.2.2.2
    have HCALL : Hid (∀ (g : Nat) (u : World), (w1.alloc (.cells #[.int .u8 a, .int .u8 d, .slice A k c] 70)).heap.size ≤ g → (w1.alloc (.cells #[.int .u8 a, .int .u8 d, .slice A k c] 70)).grownBy u none → EnvAt u g env0 →
        Calls Try.prog 92 #[.pointer (some ⟨g, 0, none⟩), .agg #[.int .u8 a, .int .u8 d, .slice A k c]] u (SDP r g env0 u)) := Lib.hid (fun g u hge hu hue => by
      rw [← HR.out]
      exact sdep_any 80 t _ (a, d, .slice A k c) g env0 u HSZ.out HOK.out env0_bd ((HA.out.grown (World.grownBy_alloc w1 _ none)).grown hu) (fun b (hb : b < w1.heap.size) => by rw [World.size_alloc] at hge; omega) hue)
    clear hg hr hb ha hok
    go_wp2_with fail
    go_region_law (first
      | (go_simp
         go_at_call 92
         refine (HCALL.out _ _ HGE.out HG2.out HE2.out).mono ?_
         rintro e w3 ⟨rfl, hg3, -⟩
         have HG3 := Lib.hid hg3
         clear hg3)
      | (go_simp
         go_at_call 91
         refine (sstart_any _).mono ?_
         rintro e w2 ⟨g, rfl, hge, hg2, he2⟩
         have hg2' := (gr_drewN (w1.alloc (.cells #[.int .u8 a, .int .u8 d, .slice A k c] 70)) 1 none).trans hg2
         have HG2 := Lib.hid hg2'
         have x0a := hg2'.cell x0 (by simp)
         have x1a := hg2'.cell x1 (by simp)
         have x2a := hg2'.cell x2 (by simp)
         have HGE : Hid ((w1.alloc (.cells #[.int .u8 a, .int .u8 d, .slice A k c] 70)).heap.size ≤ g) := Lib.hid hge
         have HE2 := Lib.hid he2
         clear hge hg2 he2 hg2'))
    all_goals
      go_wp2_with fail
    all_goals
      go_ret
      exact ⟨rfl, gr_new (HG.out.trans HG2.out) HG3.out (Nat.le_trans HG.out.size HGE.out)⟩
end

section
open Go.RowKit

def tdepA (s : ByteArray) : Int := depthA s
def tfunA (s : ByteArray) : Bool := decide (0 ≤ depthA s)
theorem tdep_spec (s : ByteArray) (hs : s.size ≤ 1048576) (w : World) : Calls Try.prog 33 #[.string s] w fun e w' => e = .returned (.int .i64 (tdepA s)) ∧ w.grownBy w' none := tdepth_spec s hs w
theorem tdep_impl (s : ByteArray) (_ : s.size ≤ 1048576) (w : World) : Calls Try.prog 32 #[.string s] w fun e w' => e = .returned (.int .i64 (tdepA s)) ∧ w.grownBy w' none := tdepth_impl s w
theorem tfun_impl (s : ByteArray) (_ : s.size ≤ 1048576) (w : World) : Calls Try.prog 34 #[.string s] w fun e w' => e = .returned (.bool (tfunA s)) ∧ w.grownBy w' none := tisfun_impl s w

set_option maxRecDepth 100000 in
set_option maxHeartbeats 1000000 in
theorem tfun_spec (s : ByteArray) (hs : s.size ≤ 1048576) (w : World) : Calls Try.prog 35 #[.string s] w fun e w' => e = .returned (.bool (tfunA s)) ∧ w.grownBy w' none := by
  have H := Lib.hid (tdep_spec s hs w)
  unfold tfunA
  unfold tdepA at H
  generalize depthA s = r at H ⊢
  go_enter Try.func35, Try.ntmps35
  go_wp2_with fail
  refine H.out.mono ?_
  rintro e w1 ⟨rfl, hg1⟩
  have HG1 := Lib.hid hg1
  clear hg1
  go_wp2_with fail
  go_ret
  exact ⟨rfl, HG1.out⟩
end

end Go.Proofs.Ytmofoeljajdhmaa
