/- 13 texts in one: SRl SRlT SRlG SRlL SRlN SRlF SCnt TSignF STxtA TRepV SRepV SRlU SRlR. -/
import Derived.Test.YtboddoaekcchpaaGreatZV1
import Derived.Test.YtboddoaekcchpaaGreatAri
import Derived.Test.YtboddoaekcchpaaGreatRTurn
import Derived.Test.YtboddoaekcchpaaGreatRLoop
import Derived.Test.YtboddoaekcchpaaGreatRNeut
import Derived.Deep.RegionHeld3
import Derived.Test.YtboddoaekcchpaaGreatRFold
import Derived.Test.YtboddoaekcchpaaGreatSmp
import Derived.Test.YtboddoaekcchpaaGreatOwn
import Derived.Test.YtboddoaekcchpaaGreatSTxt
import Derived.Test.YtboddoaekcchpaaGreatInvR
import Derived.Test.YtboddoaekcchpaaGreatTBindA
import Derived.Test.YtboddoaekcchpaaGreatTText
namespace Go.Proofs.YtboddoaekcchpaaGreat
/- SRl -/
section
open Go.RowKit

theorem gr_laid3n {w w1 : World} {b : Nat} (h : w.grownBy w1 none) (hb : w.heap.size ≤ b) (x y z : Value) : w.grownBy (laid3 w1 b x y z) none :=
  gr_none (gr_laid3 (g := b) (gr_some2 h) hb x y z) hb
theorem laid3_size (w : World) (b : Nat) (x y z : Value) : (laid3 w b x y z).heap.size = w.heap.size := by simp [laid3, World.setCell]

/-- How a rule of the model ends. -/
def SRuP (o : Option Tm) (S : Nat → Prop) (w : World) (e : Ending) (w' : World) : Prop :=
  ∃ a b A k c, e = .returned (.tuple #[.agg #[.int .u8 a, .int .u8 b, .slice A k c], .bool o.isSome]) ∧ w.grownBy w' none ∧ ∀ q, o = some q → SN w' (fun x => S x ∨ w.heap.size ≤ x) q (a, b, .slice A k c)

/-- The sign of a node says whether it is a digit. -/
theorem SN.dgt {w : World} {S : Nat → Prop} {t : Tm} {a b : Int} {sv : Value} (ho : t.Ok) (h : SN w S t (a, b, sv)) (v : Int) : t.digIs v = (a == 48 && b == v) := by
  cases t with
  | dig c => obtain ⟨h1, h2, _⟩ := h; simp only at h1 h2; subst h1 h2; simp only [Tm.digIs]; by_cases e : b = v <;> simp [e]
  | var c => obtain ⟨h1, _⟩ := h; simp only at h1; subst h1; rfl
  | pre c s => obtain ⟨h1, _⟩ := h; have := isP_ge ho.1; simp only at h1; simp [Tm.digIs, show ¬ a = 48 by omega]
  | two c s t =>
    obtain ⟨h1, _⟩ := h
    have h2 := ho.1
    simp only [isB, decide_eq_true_eq] at h2
    simp only at h1; simp [Tm.digIs, show ¬ a = 48 by omega]
  | loop c i s t => obtain ⟨h1, _⟩ := h; have := ho.1; simp only at h1; simp [Tm.digIs, show ¬ a = 48 by omega]

set_option maxRecDepth 100000 in
set_option maxHeartbeats 1000000 in
theorem sdig_any (t : Tm) (S : Nat → Prop) (a b : Int) (A : Option Addr) (k c : Nat) (d : Int) (w : World) (ho : t.Ok) (h : SN w S t (a, b, .slice A k c)) (hb0 : 0 ≤ b) (hb1 : b ≤ 255) :
    Calls Tryz.prog 123 #[.agg #[.int .u8 a, .int .u8 b, .slice A k c], .int .i64 d] w fun e w' => e = .returned (.bool (t.digIs (48 + d))) ∧ w.grownBy w' none := by
  have HD := Lib.hid (h.dgt ho (48 + d))
  have HX := Lib.hid (c3_new w (.int .u8 a) (.int .u8 b) (.slice A k c) 57)
  have x0 := HX.out.c0
  have x1 := HX.out.c1
  obtain ⟨r, hr⟩ : ∃ r, t.digIs (48 + d) = r := ⟨_, rfl⟩
  rw [hr] at HD ⊢
  clear h ho hr
  by_cases h48 : a = 48
  · subst h48
    have HE : Hid (r = (b - 48 == d)) := Lib.hid (by rw [HD.out]; simp only [beq_self_eq_true, Bool.true_and]; rw [Bool.eq_iff_iff, beq_iff_eq, beq_iff_eq]; omega)
    go_enter Tryz.func123, Tryz.ntmps123
    go_wp2_with fail
    go_ret
    refine ⟨?_, World.grownBy_alloc _ _ _⟩
    rw [HE.out]
    rfl
  · have hb : (a == 48) = false := by rw [beq_eq_false_iff_ne]; exact h48
    have HE : Hid (r = false) := Lib.hid (by rw [HD.out, hb]; rfl)
    clear h48
    go_enter Tryz.func123, Tryz.ntmps123
    go_wp2_with fail
    go_ret
    refine ⟨?_, World.grownBy_alloc _ _ _⟩
    rw [HE.out]
    rfl

set_option maxRecDepth 100000 in
set_option maxHeartbeats 2000000 in
theorem sconst_any (v : Int) (S : Nat → Prop) (w : World) (h0 : 0 ≤ v) (h1 : v ≤ 81) :
    Calls Tryz.prog 121 #[.int .i64 v] w (SRuP (if v ≤ 9 then some (.dig (48 + v)) else none) S w) := by
  obtain ⟨h, hh⟩ : ∃ h, w.heap.size = h := ⟨_, rfl⟩
  obtain ⟨w1, hw1⟩ : ∃ w1, w.alloc (.cells #[.int .u8 0, .int .u8 0, .slice none 0 0] TN) = w1 := ⟨_, rfl⟩
  have z1 : w1.heap.size = h + 1 := by rw [← hw1, World.size_alloc, hh]
  have k1 : C3 w1 h (.int .u8 0) (.int .u8 0) (.slice none 0 0) TN := by rw [← hw1, ← hh]; exact c3_new _ _ _ _ _
  have g1 : w.grownBy w1 none := by rw [← hw1]; exact World.grownBy_alloc _ _ _
  have HI := Lib.hid (fun w => in_any v 0 9 _ rfl w)
  have K1 := Lib.hid k1
  have G1 := Lib.hid g1
  have HH := Lib.hid hh
  by_cases h9 : v ≤ 9
  · have hd : decide (0 ≤ v ∧ v ≤ 9) = true := by simp; omega
    rw [hd] at HI
    rw [if_pos h9]
    go_enter Tryz.func121, Tryz.ntmps121
    go_wp2_with fail
    refine (HI.out _).mono ?_
    rintro e w2 ⟨rfl, rfl⟩
    have r0 := k1.c0
    have r1 := k1.c1
    have r2 := k1.c2
    have f0 := k1.f 0
    have f1 := k1.f 1
    have f2 := k1.f 2
    clear k1 g1 hw1 hh
    go_wp2_with fail
    have HL := Lib.hid ((K1.out.laid (x' := .int .u8 48) (y' := .int .u8 (48 + v)) (z' := .slice (some ⟨h + 1, 0, none⟩) 0 0)).alloc (.cells #[] TN))
    have HG : Hid (w.grownBy ((laid3 w2 h (.int .u8 48) (.int .u8 (48 + v)) (.slice (some ⟨h + 1, 0, none⟩) 0 0)).alloc (.cells #[] TN)) none) := Lib.hid ((gr_laid3n G1.out (by have := HH.out; omega) _ _ _).trans (World.grownBy_alloc _ _ _))
    have n0 := HL.out.c0
    have n1 := HL.out.c1
    have n2 := HL.out.c2
    have HO : Hid (((laid3 w2 h (.int .u8 48) (.int .u8 (48 + v)) (.slice (some ⟨h + 1, 0, none⟩) 0 0)).alloc (.cells #[] TN)).ownsRow 0 TN 3 (.slice (some ⟨h + 1, 0, none⟩) 0 0) 0 []) := Lib.hid (by
      have hz : (laid3 w2 h (.int .u8 48) (.int .u8 (48 + v)) (.slice (some ⟨h + 1, 0, none⟩) 0 0)).heap.size = h + 1 := by rw [laid3_size]; exact z1
      have := World.ownsRow_made (base := 0) (e := TN) (size := 3) (laid3 w2 h (.int .u8 48) (.int .u8 (48 + v)) (.slice (some ⟨h + 1, 0, none⟩) 0 0)) #[] 0 (by omega) (by simp) (by simp)
      rw [hz] at this
      exact this)
    clear r0 r1 r2 f0 f1 f2
    unfold laid3 at n0 n1 n2
    refine bodyPost_ret (v := .tuple #[.agg #[.int .u8 48, .int .u8 (48 + v), .slice (some ⟨h + 1, 0, none⟩) 0 0], .bool true]) (by simp [results, Tryz.results121, go_sem, n0, n1, n2]) rfl ?_
    refine ⟨_, _, _, _, _, rfl, HG.out, fun q hq => ?_⟩
    cases hq
    exact ⟨rfl, rfl, HO.out, fun g hg => .inr (by simp [Value.ownBlock] at hg; have := HH.out; omega)⟩
  · have hd : decide (0 ≤ v ∧ v ≤ 9) = false := by simp; omega
    rw [hd] at HI
    rw [if_neg h9]
    go_enter Tryz.func121, Tryz.ntmps121
    go_wp2_with fail
    refine (HI.out _).mono ?_
    rintro e w2 ⟨rfl, rfl⟩
    have r0 := k1.c0
    have r1 := k1.c1
    have r2 := k1.c2
    have f0 := k1.f 0
    have f1 := k1.f 1
    have f2 := k1.f 2
    clear k1 g1 hw1 hh
    go_wp2_with fail
    have HL := Lib.hid (K1.out.laid (x' := .int .u8 0) (y' := .int .u8 0) (z' := .slice none 0 0))
    have HG : Hid (w.grownBy (laid3 w2 h (.int .u8 0) (.int .u8 0) (.slice none 0 0)) none) := Lib.hid (gr_laid3n G1.out (by have := HH.out; omega) _ _ _)
    have n0 := HL.out.c0
    have n1 := HL.out.c1
    have n2 := HL.out.c2
    clear r0 r1 r2 f0 f1 f2
    unfold laid3 at n0 n1 n2
    refine bodyPost_ret (v := .tuple #[.agg #[.int .u8 0, .int .u8 0, .slice none 0 0], .bool false]) (by simp [results, Tryz.results121, go_sem, n0, n1, n2]) rfl ?_
    exact ⟨_, _, _, _, _, rfl, HG.out, fun q hq => by cases hq⟩
end

/- SRlT -/
section
open Go.RowKit

/-- How many parts a node has. -/
theorem SN.cnt {w : World} {S : Nat → Prop} {t : Tm} {a b : Int} {A : Option Addr} {k c : Nat} (h : SN w S t (a, b, .slice A k c)) : k = t.kids.length := by
  obtain ⟨xs, ho, ha⟩ := h.kids
  obtain ⟨hk, -, -⟩ := srow3 ho
  rw [hk, All2.length _ _ ha]
theorem kids_pre {t : Tm} (h : t.isPrf = false) : (((t.kids.length : Nat) : Int) != 1) = true := by
  cases t <;> simp [Tm.kids, Tm.isPrf] at h ⊢
/-- The node of a part. -/
theorem SN.part {w : World} {S : Nat → Prop} {t x : Tm} {a b : Int} {A : Option Addr} {k c j : Nat} (h : SN w S t (a, b, .slice A k c)) (hj : t.kids[j]? = some x) :
    ∃ g a2 b2 A2 k2 c2, A = some ⟨g, 0, none⟩ ∧ S g ∧ j < k ∧ w.cell? ⟨g, j * 3, none⟩ = some (.int .u8 a2) ∧ w.cell? ⟨g, j * 3 + 1, none⟩ = some (.int .u8 b2) ∧ w.cell? ⟨g, j * 3 + 2, none⟩ = some (.slice A2 k2 c2) ∧ SN w S x (a2, b2, .slice A2 k2 c2) := by
  obtain ⟨xs, ho, ha⟩ := h.kids
  obtain ⟨hk, -, hrow⟩ := srow3 ho
  have hl := All2.length _ _ ha
  have hjl : j < t.kids.length := (List.getElem?_eq_some_iff.1 hj).1
  obtain ⟨g, rfl, _, hcell⟩ := hrow (by omega)
  obtain ⟨tj, ⟨a2, b2, sv2⟩, htj, hxj, hpj⟩ := ha.get (j := j) (by omega)
  rw [hj] at htj
  cases htj
  obtain ⟨A2, k2, c2, hsv⟩ := hpj.form
  simp only at hsv
  subst hsv
  obtain ⟨q0, q1, q2⟩ := hcell j _ hxj
  refine ⟨g, a2, b2, A2, k2, c2, rfl, ?_, by omega, q0, q1, q2, hpj⟩
  have hown : ∀ g', (Value.slice (some ⟨g, 0, none⟩) k c).ownBlock = some g' → S g' := by
    cases t with
    | dig d => cases hj
    | var d => cases hj
    | pre d s => obtain ⟨_, _, _, _, hS, _⟩ := h; exact hS
    | two d s t => obtain ⟨_, _, _, _, _, hS, _⟩ := h; exact hS
    | loop d i s t => obtain ⟨_, _, _, _, _, hS, _⟩ := h; exact hS
  exact hown g rfl
theorem SN.sgn82 {w : World} {S : Nat → Prop} {t : Tm} {a b : Int} {sv : Value} (ho : t.Ok) (h : SN w S t (a, b, sv)) (ha : a = 82) : ∃ q, t = .pre 82 q := by
  cases t with
  | dig c => obtain ⟨h1, _⟩ := h; simp only at h1; omega
  | var c => obtain ⟨h1, _⟩ := h; simp only at h1; omega
  | pre c s => obtain ⟨h1, _⟩ := h; simp only at h1; exact ⟨s, by rw [← h1, ha]⟩
  | two c s t =>
    obtain ⟨h1, _⟩ := h
    have h2 := ho.1
    simp only [isB, decide_eq_true_eq] at h2
    simp only at h1; omega
  | loop c i s t => obtain ⟨h1, _⟩ := h; have := ho.1; simp only at h1; omega
theorem rTurn_82 {c : Int} {s : Tm} (h : ∀ q, s ≠ .pre 82 q) : rTurn (.pre c s) = none := by
  cases s <;> try rfl
  rename_i d q
  have : ¬ d = 82 := fun e => h q (by rw [e])
  simp [rTurn, this]
theorem row3_new {w : World} {k : Nat} {a b : Int} {sv : Value} (hk : w.heap.size = k) : (w.alloc (.cells #[.int .u8 a, .int .u8 b, sv] TN)).ownsRow 0 TN 3 (.slice (some ⟨k, 0, none⟩) 1 1) 1 (flat3 [(a, b, sv)]) := by
  subst hk
  exact ⟨by simp [flat3], .inr ⟨w.heap.size, 1, #[.int .u8 a, .int .u8 b, sv], rfl, Nat.zero_le _, heap_alloc_new w _, Nat.le_refl _, by unfold maxLen; omega, rfl, rfl⟩⟩

set_option maxRecDepth 100000 in
set_option maxHeartbeats 8000000 in
theorem srturn_any (t : Tm) (S : Nat → Prop) (a b : Int) (A : Option Addr) (k c : Nat) (w : World) (ho : t.Ok) (_hS : ∀ x, S x → x < w.heap.size) (h : SN w S t (a, b, .slice A k c)) :
    Calls Tryz.prog 106 #[.agg #[.int .u8 a, .int .u8 b, .slice A k c]] w (SRuP (rTurn t) S w) := by
  obtain ⟨h0, hh⟩ : ∃ h, w.heap.size = h := ⟨_, rfl⟩
  obtain ⟨w1, hw1⟩ : ∃ w1, w.alloc (.cells #[.int .u8 a, .int .u8 b, .slice A k c] TN) = w1 := ⟨_, rfl⟩
  have z1 : w1.heap.size = h0 + 1 := by rw [← hw1, World.size_alloc, hh]
  obtain ⟨w2, hw2⟩ : ∃ w2, w1.alloc (.cells #[.int .u8 0, .int .u8 0, .slice none 0 0] TN) = w2 := ⟨_, rfl⟩
  have z2 : w2.heap.size = h0 + 2 := by rw [← hw2, World.size_alloc, z1]
  have k1 : C3 w2 h0 (.int .u8 a) (.int .u8 b) (.slice A k c) TN := by rw [← hw2, ← hw1, ← hh]; exact (c3_new _ _ _ _ _).alloc _
  have k2 : C3 w2 (h0 + 1) (.int .u8 0) (.int .u8 0) (.slice none 0 0) TN := by rw [← hw2, ← z1]; exact c3_new _ _ _ _ _
  have g2 : w.grownBy w2 none := by rw [← hw2, ← hw1]; exact (World.grownBy_alloc _ _ none).trans (World.grownBy_alloc _ _ none)
  have K2 := Lib.hid k2
  have G2 := Lib.hid g2
  have HH := Lib.hid hh
  have p0 := k1.c0
  have p1 := k1.c1
  have p2 := k1.c2
  have r0 := k2.c0
  have r1 := k2.c1
  have r2 := k2.c2
  have f0 := k2.f 0
  have f1 := k2.f 1
  have f2 := k2.f 2
  cases hl : t.isPrf with
  | false =>
    have hk : ((k : Int) != 1) = true := by rw [h.cnt]; exact kids_pre hl
    rw [rTurn_no hl]
    clear h k1 k2 g2 ho _hS hl
    go_enter Tryz.func106, Tryz.ntmps106
    go_wp2_with fail
    have HL := Lib.hid (K2.out.laid (x' := .int .u8 0) (y' := .int .u8 0) (z' := .slice none 0 0))
    have HG : Hid (w.grownBy (laid3 w2 (h0 + 1) (.int .u8 0) (.int .u8 0) (.slice none 0 0)) none) := Lib.hid (gr_laid3n G2.out (by have := HH.out; omega) _ _ _)
    have n0 := HL.out.c0
    have n1 := HL.out.c1
    have n2 := HL.out.c2
    clear f0 f1 f2
    unfold laid3 at n0 n1 n2
    refine bodyPost_ret (v := .tuple #[.agg #[.int .u8 0, .int .u8 0, .slice none 0 0], .bool false]) (by simp [results, Tryz.results106, go_sem, n0, n1, n2]) rfl ?_
    exact ⟨_, _, _, _, _, rfl, HG.out, fun q hq => by cases hq⟩
  | true =>
    obtain ⟨d, s, rfl⟩ : ∃ d s, t = .pre d s := by cases t <;> first | exact ⟨_, _, rfl⟩ | cases hl
    obtain ⟨g, a2, b2, A2, k3, c2, rfl, hg, hk0, q0, q1, q2, hs⟩ := h.part (j := 0) (x := s) rfl
    simp only [Nat.zero_mul, Nat.zero_add] at q0 q1 q2
    have hk : ((k : Int) != 1) = false := by rw [h.cnt]; rfl
    have m0 := g2.cell q0 (by simp)
    have m2 := g2.cell q2 (by simp)
    obtain rfl : a = d := h.1
    have hoc := ho.2
    by_cases h82 : a2 = 82
    · subst h82
      obtain ⟨q, rfl⟩ := hs.sgn82 hoc rfl
      obtain ⟨g', a3, b3, A3, k4, c3, rfl, hg', hk1, t0, t1, t2, hq⟩ := hs.part (j := 0) (x := q) rfl
      simp only [Nat.zero_mul, Nat.zero_add] at t0 t1 t2
      have l0 := g2.cell t0 (by simp)
      have l1 := g2.cell t1 (by simp)
      have l2 := g2.cell t2 (by simp)
      have hk1i : (0 : Int) < (k3 : Int) := by omega
      have hk0i : (0 : Int) < (k : Int) := by omega
      have HQ := Lib.hid hq
      obtain ⟨w3, hw3⟩ : ∃ w3, w2.alloc (.cells #[.int .u8 a3, .int .u8 b3, .slice A3 k4 c3] TN) = w3 := ⟨_, rfl⟩
      have z3 : w3.heap.size = h0 + 3 := by rw [← hw3, World.size_alloc, z2]
      have k1' : C3 w3 h0 (.int .u8 a) (.int .u8 b) (.slice (some ⟨g, 0, none⟩) k c) TN := by rw [← hw3]; exact k1.alloc _
      have k2' : C3 w3 (h0 + 1) (.int .u8 0) (.int .u8 0) (.slice none 0 0) TN := by rw [← hw3]; exact k2.alloc _
      have k3' : C3 w3 (h0 + 2) (.int .u8 a3) (.int .u8 b3) (.slice A3 k4 c3) TN := by rw [← hw3, ← z2]; exact c3_new _ _ _ _ _
      have g3 : w.grownBy w3 none := by rw [← hw3]; exact g2.trans (World.grownBy_alloc _ _ none)
      have K3 := Lib.hid k2'
      have G3 := Lib.hid g3
      have u0 := k1'.c0
      have u1 := k1'.c1
      have u2 := k1'.c2
      have v0 := k2'.c0
      have v1 := k2'.c1
      have v2 := k2'.c2
      have e0 := k2'.f 0
      have e1 := k2'.f 1
      have e2 := k2'.f 2
      have i0 := k3'.c0
      have i1 := k3'.c1
      have i2 := k3'.c2

      have y0 := g3.cell t0 (by simp)
      have HAP := Lib.hid (isP_ge ho.1)
      by_cases h82 : a = 82
      · subst h82
        rw [show rTurn (.pre 82 (.pre 82 q)) = some q by simp [rTurn]]
        clear h k1 k2 g2 ho _hS hl hs hg q0 q1 q2 hoc hg' t0 t1 t2 hq k1' k2' k3' g3
        go_enter Tryz.func106, Tryz.ntmps106
        go_wp2_with fail
        have HL := Lib.hid (K3.out.laid (x' := .int .u8 a3) (y' := .int .u8 b3) (z' := .slice A3 k4 c3))
        have HG : Hid (w.grownBy (laid3 w3 (h0 + 1) (.int .u8 a3) (.int .u8 b3) (.slice A3 k4 c3)) none) := Lib.hid (gr_laid3n G3.out (by have := HH.out; omega) _ _ _)
        have n0 := HL.out.c0
        have n1 := HL.out.c1
        have n2 := HL.out.c2
        clear e0 e1 e2
        unfold laid3 at n0 n1 n2
        refine bodyPost_ret (v := .tuple #[.agg #[.int .u8 a3, .int .u8 b3, .slice A3 k4 c3], .bool true]) (by simp [results, Tryz.results106, go_sem, n0, n1, n2]) rfl ?_
        refine ⟨_, _, _, _, _, rfl, HG.out, fun q hq => ?_⟩
        cases hq
        exact HQ.out.keep (fun b _ hl => HG.out.block b hl (by simp)) (fun b hb _ => .inl hb) _ _

      · have b82 : (a == 82) = false := by rw [beq_eq_false_iff_ne]; exact h82
        by_cases hin : a = 83 ∨ a = 77 ∨ a = 78
        · rw [show rTurn (.pre a (.pre 82 q)) = some (.pre a q) by simp [rTurn, h82, hin]]
          clear h k1 k2 g2 ho _hS hl hs hg q0 q1 q2 hoc hg' t0 t1 t2 hq k1' k2' k3' g3 h82
          go_enter Tryz.func106, Tryz.ntmps106
          rcases hin with rfl | rfl | rfl
          · go_wp2_with fail
            have HL := Lib.hid ((K3.out.laid (x' := .int .u8 83) (y' := .int .u8 0) (z' := .slice (some ⟨h0 + 3, 0, none⟩) 1 1)).alloc (.cells #[.int .u8 a3, .int .u8 b3, .slice A3 k4 c3] TN))
            have HG : Hid (w.grownBy ((laid3 w3 (h0 + 1) (.int .u8 83) (.int .u8 0) (.slice (some ⟨h0 + 3, 0, none⟩) 1 1)).alloc (.cells #[.int .u8 a3, .int .u8 b3, .slice A3 k4 c3] TN)) none) := Lib.hid ((gr_laid3n G3.out (by have := HH.out; omega) _ _ _).trans (World.grownBy_alloc _ _ _))
            have n0 := HL.out.c0
            have n1 := HL.out.c1
            have n2 := HL.out.c2
            clear e0 e1 e2
            unfold laid3 at n0 n1 n2
            refine bodyPost_ret (v := .tuple #[.agg #[.int .u8 83, .int .u8 0, .slice (some ⟨h0 + 3, 0, none⟩) 1 1], .bool true]) (by simp [results, Tryz.results106, go_sem, n0, n1, n2]) rfl ?_
            refine ⟨_, _, _, _, _, rfl, HG.out, fun q hq => ?_⟩
            cases hq
            refine ⟨rfl, rfl, (a3, b3, .slice A3 k4 c3), row3_new ((laid3_size _ _ _ _ _).trans z3), fun g hg => .inr ?_, HQ.out.keep (fun b _ hl => HG.out.block b hl (by simp)) (fun b hb _ => .inl hb) _ _⟩
            simp [Value.ownBlock] at hg
            have := HH.out
            omega

          · go_wp2_with fail
            have HL := Lib.hid ((K3.out.laid (x' := .int .u8 77) (y' := .int .u8 0) (z' := .slice (some ⟨h0 + 3, 0, none⟩) 1 1)).alloc (.cells #[.int .u8 a3, .int .u8 b3, .slice A3 k4 c3] TN))
            have HG : Hid (w.grownBy ((laid3 w3 (h0 + 1) (.int .u8 77) (.int .u8 0) (.slice (some ⟨h0 + 3, 0, none⟩) 1 1)).alloc (.cells #[.int .u8 a3, .int .u8 b3, .slice A3 k4 c3] TN)) none) := Lib.hid ((gr_laid3n G3.out (by have := HH.out; omega) _ _ _).trans (World.grownBy_alloc _ _ _))
            have n0 := HL.out.c0
            have n1 := HL.out.c1
            have n2 := HL.out.c2
            clear e0 e1 e2
            unfold laid3 at n0 n1 n2
            refine bodyPost_ret (v := .tuple #[.agg #[.int .u8 77, .int .u8 0, .slice (some ⟨h0 + 3, 0, none⟩) 1 1], .bool true]) (by simp [results, Tryz.results106, go_sem, n0, n1, n2]) rfl ?_
            refine ⟨_, _, _, _, _, rfl, HG.out, fun q hq => ?_⟩
            cases hq
            refine ⟨rfl, rfl, (a3, b3, .slice A3 k4 c3), row3_new ((laid3_size _ _ _ _ _).trans z3), fun g hg => .inr ?_, HQ.out.keep (fun b _ hl => HG.out.block b hl (by simp)) (fun b hb _ => .inl hb) _ _⟩
            simp [Value.ownBlock] at hg
            have := HH.out
            omega

          · go_wp2_with fail
            have HL := Lib.hid ((K3.out.laid (x' := .int .u8 78) (y' := .int .u8 0) (z' := .slice (some ⟨h0 + 3, 0, none⟩) 1 1)).alloc (.cells #[.int .u8 a3, .int .u8 b3, .slice A3 k4 c3] TN))
            have HG : Hid (w.grownBy ((laid3 w3 (h0 + 1) (.int .u8 78) (.int .u8 0) (.slice (some ⟨h0 + 3, 0, none⟩) 1 1)).alloc (.cells #[.int .u8 a3, .int .u8 b3, .slice A3 k4 c3] TN)) none) := Lib.hid ((gr_laid3n G3.out (by have := HH.out; omega) _ _ _).trans (World.grownBy_alloc _ _ _))
            have n0 := HL.out.c0
            have n1 := HL.out.c1
            have n2 := HL.out.c2
            clear e0 e1 e2
            unfold laid3 at n0 n1 n2
            refine bodyPost_ret (v := .tuple #[.agg #[.int .u8 78, .int .u8 0, .slice (some ⟨h0 + 3, 0, none⟩) 1 1], .bool true]) (by simp [results, Tryz.results106, go_sem, n0, n1, n2]) rfl ?_
            refine ⟨_, _, _, _, _, rfl, HG.out, fun q hq => ?_⟩
            cases hq
            refine ⟨rfl, rfl, (a3, b3, .slice A3 k4 c3), row3_new ((laid3_size _ _ _ _ _).trans z3), fun g hg => .inr ?_, HQ.out.keep (fun b _ hl => HG.out.block b hl (by simp)) (fun b hb _ => .inl hb) _ _⟩
            simp [Value.ownBlock] at hg
            have := HH.out
            omega

        · rw [show rTurn (.pre a (.pre 82 q)) = none by simp [rTurn, h82, hin]]
          have b1 : (a == 83) = false := by rw [beq_eq_false_iff_ne]; omega
          have b2 : (a == 77) = false := by rw [beq_eq_false_iff_ne]; omega
          have b3 : (a == 78) = false := by rw [beq_eq_false_iff_ne]; omega
          clear h k1 k2 g2 ho _hS hl hs hg q0 q1 q2 hoc hg' t0 t1 t2 hq k1' k2' k3' g3 h82 hin
          go_enter Tryz.func106, Tryz.ntmps106
          go_wp2_with fail
          have HL := Lib.hid (K3.out.laid (x' := .int .u8 0) (y' := .int .u8 0) (z' := .slice none 0 0))
          have HG : Hid (w.grownBy (laid3 w3 (h0 + 1) (.int .u8 0) (.int .u8 0) (.slice none 0 0)) none) := Lib.hid (gr_laid3n G3.out (by have := HH.out; omega) _ _ _)
          have n0 := HL.out.c0
          have n1 := HL.out.c1
          have n2 := HL.out.c2
          clear e0 e1 e2
          unfold laid3 at n0 n1 n2
          refine bodyPost_ret (v := .tuple #[.agg #[.int .u8 0, .int .u8 0, .slice none 0 0], .bool false]) (by simp [results, Tryz.results106, go_sem, n0, n1, n2]) rfl ?_
          exact ⟨_, _, _, _, _, rfl, HG.out, fun q hq => by cases hq⟩

    · have hb : (a2 != 82) = true := by simp [h82]
      rw [rTurn_82 (fun q e => h82 (by rw [e] at hs; exact hs.1))]
      clear h k1 k2 g2 ho _hS hl hs hg q0 q1 q2 h82 hoc
      go_enter Tryz.func106, Tryz.ntmps106
      go_wp2_with fail
      have HL := Lib.hid (K2.out.laid (x' := .int .u8 0) (y' := .int .u8 0) (z' := .slice none 0 0))
      have HG : Hid (w.grownBy (laid3 w2 (h0 + 1) (.int .u8 0) (.int .u8 0) (.slice none 0 0)) none) := Lib.hid (gr_laid3n G2.out (by have := HH.out; omega) _ _ _)
      have n0 := HL.out.c0
      have n1 := HL.out.c1
      have n2 := HL.out.c2
      clear f0 f1 f2
      unfold laid3 at n0 n1 n2
      refine bodyPost_ret (v := .tuple #[.agg #[.int .u8 0, .int .u8 0, .slice none 0 0], .bool false]) (by simp [results, Tryz.results106, go_sem, n0, n1, n2]) rfl ?_
      exact ⟨_, _, _, _, _, rfl, HG.out, fun q hq => by cases hq⟩
end

/- SRlG -/
section
open Go.RowKit

/-- What a node's sign says of its term. -/
theorem SN.kind {w : World} {S : Nat → Prop} {t : Tm} {a b : Int} {sv : Value} (ho : t.Ok) (h : SN w S t (a, b, sv)) :
    (a = 48 ∧ ∃ c, t = .dig c) ∨ (a = 97 ∧ ∃ c, t = .var c) ∨ (isP a = true ∧ b = 0 ∧ ∃ s, t = .pre a s) ∨ (isB a = true ∧ b = 0 ∧ ∃ s u, t = .two a s u) ∨ ((a = 91 ∨ a = 123) ∧ isL b = true ∧ ∃ s u, t = .loop a b s u) := by
  cases t with
  | dig c => obtain ⟨h1, _⟩ := h; exact .inl ⟨h1, c, rfl⟩
  | var c => obtain ⟨h1, _⟩ := h; exact .inr (.inl ⟨h1, c, rfl⟩)
  | pre c s => obtain ⟨h1, h2, _⟩ := h; simp only at h1 h2; subst h1; exact .inr (.inr (.inl ⟨ho.1, h2, s, rfl⟩))
  | two c s u => obtain ⟨h1, h2, _⟩ := h; simp only at h1 h2; subst h1; exact .inr (.inr (.inr (.inl ⟨ho.1, h2, s, u, rfl⟩)))
  | loop c i s u => obtain ⟨h1, h2, _⟩ := h; simp only at h1 h2; subst h1 h2; exact .inr (.inr (.inr (.inr ⟨ho.1, ho.2.1, s, u, rfl⟩)))
theorem SN.is91 {w : World} {S : Nat → Prop} {t : Tm} {b : Int} {sv : Value} (ho : t.Ok) (h : SN w S t (91, b, sv)) : ∃ s u, t = .loop 91 b s u ∧ isL b = true := by
  rcases h.kind ho with ⟨h1, _⟩ | ⟨h1, _⟩ | ⟨h1, _⟩ | ⟨h1, _⟩ | ⟨_, h2, s, u, h3⟩
  · omega
  · omega
  · cases h1
  · cases h1
  · exact ⟨s, u, h3, h2⟩
theorem SN.is78 {w : World} {S : Nat → Prop} {t : Tm} {b : Int} {sv : Value} (ho : t.Ok) (h : SN w S t (78, b, sv)) : ∃ s, t = .pre 78 s := by
  rcases h.kind ho with ⟨h1, _⟩ | ⟨h1, _⟩ | ⟨_, _, s, h3⟩ | ⟨h1, _⟩ | ⟨h1, _⟩
  · omega
  · omega
  · exact ⟨s, h3⟩
  · cases h1
  · omega
theorem rLen_78 {w : World} {S : Nat → Prop} {t : Tm} {a b : Int} {sv : Value} (h : SN w S t (a, b, sv)) (ha : a ≠ 78) : rLen t = none := by
  cases t <;> try rfl
  rename_i c s
  have : ¬ c = 78 := fun e => ha (h.1.trans e)
  cases s <;> first | rfl | simp [rLen, this]
theorem rLen_91 {w : World} {S : Nat → Prop} {s : Tm} {a b : Int} {sv : Value} {c : Int} (h : SN w S s (a, b, sv)) (ha : a ≠ 91) : rLen (.pre c s) = none := by
  cases s <;> try rfl
  rename_i d i q u
  have : ¬ d = 91 := fun e => ha (h.1.trans e)
  simp [rLen, this]

set_option maxRecDepth 100000 in
set_option maxHeartbeats 8000000 in
theorem srlen_any (t : Tm) (S : Nat → Prop) (a b : Int) (A : Option Addr) (k c : Nat) (w : World) (ho : t.Ok) (_hS : ∀ x, S x → x < w.heap.size) (h : SN w S t (a, b, .slice A k c)) :
    Calls Tryz.prog 108 #[.agg #[.int .u8 a, .int .u8 b, .slice A k c]] w (SRuP (rLen t) S w) := by
  obtain ⟨h0, hh⟩ : ∃ h, w.heap.size = h := ⟨_, rfl⟩
  obtain ⟨w1, hw1⟩ : ∃ w1, w.alloc (.cells #[.int .u8 a, .int .u8 b, .slice A k c] TN) = w1 := ⟨_, rfl⟩
  have z1 : w1.heap.size = h0 + 1 := by rw [← hw1, World.size_alloc, hh]
  obtain ⟨w2, hw2⟩ : ∃ w2, w1.alloc (.cells #[.int .u8 0, .int .u8 0, .slice none 0 0] TN) = w2 := ⟨_, rfl⟩
  have z2 : w2.heap.size = h0 + 2 := by rw [← hw2, World.size_alloc, z1]
  have k1 : C3 w2 h0 (.int .u8 a) (.int .u8 b) (.slice A k c) TN := by rw [← hw2, ← hw1, ← hh]; exact (c3_new _ _ _ _ _).alloc _
  have k2 : C3 w2 (h0 + 1) (.int .u8 0) (.int .u8 0) (.slice none 0 0) TN := by rw [← hw2, ← z1]; exact c3_new _ _ _ _ _
  have g2 : w.grownBy w2 none := by rw [← hw2, ← hw1]; exact (World.grownBy_alloc _ _ none).trans (World.grownBy_alloc _ _ none)
  have K2 := Lib.hid k2
  have G2 := Lib.hid g2
  have HH := Lib.hid hh
  have p0 := k1.c0
  have p1 := k1.c1
  have p2 := k1.c2
  have r0 := k2.c0
  have r1 := k2.c1
  have r2 := k2.c2
  have f0 := k2.f 0
  have f1 := k2.f 1
  have f2 := k2.f 2
  by_cases h78 : a = 78
  · subst h78
    obtain ⟨s, rfl⟩ := h.is78 ho
    obtain ⟨g, a2, b2, A2, k3, c2, rfl, hg, hk0, q0, q1, q2, hs⟩ := h.part (j := 0) (x := s) rfl
    simp only [Nat.zero_mul, Nat.zero_add] at q0 q1 q2
    have hk : ((k : Int) != 1) = false := by rw [h.cnt]; rfl
    have hk0i : (0 : Int) < (k : Int) := by omega
    have m0 := g2.cell q0 (by simp)
    have m2 := g2.cell q2 (by simp)
    by_cases h91 : a2 = 91
    · subst h91
      obtain ⟨q, u, rfl, _⟩ := hs.is91 ho.2
      obtain ⟨g', a3, b3, A3, k4, c3, rfl, hg', hk1, t0, t1, t2, hq⟩ := hs.part (j := 0) (x := q) rfl
      simp only [Nat.zero_mul, Nat.zero_add] at t0 t1 t2
      have l0 := g2.cell t0 (by simp)
      have l1 := g2.cell t1 (by simp)
      have l2 := g2.cell t2 (by simp)
      have hk1i : (0 : Int) < (k3 : Int) := by omega
      have HQ := Lib.hid hq
      rw [show rLen (.pre 78 (.loop 91 b2 q u)) = some (.pre 78 q) by simp [rLen]]
      clear h k1 k2 g2 ho _hS hs hg q0 q1 q2 hg' t0 t1 t2 hq
      go_enter Tryz.func108, Tryz.ntmps108
      go_wp2_with fail
      have HL := Lib.hid ((K2.out.laid (x' := .int .u8 78) (y' := .int .u8 0) (z' := .slice (some ⟨h0 + 2, 0, none⟩) 1 1)).alloc (.cells #[.int .u8 a3, .int .u8 b3, .slice A3 k4 c3] TN))
      have HG : Hid (w.grownBy ((laid3 w2 (h0 + 1) (.int .u8 78) (.int .u8 0) (.slice (some ⟨h0 + 2, 0, none⟩) 1 1)).alloc (.cells #[.int .u8 a3, .int .u8 b3, .slice A3 k4 c3] TN)) none) := Lib.hid ((gr_laid3n G2.out (by have := HH.out; omega) _ _ _).trans (World.grownBy_alloc _ _ _))
      have n0 := HL.out.c0
      have n1 := HL.out.c1
      have n2 := HL.out.c2
      clear f0 f1 f2
      unfold laid3 at n0 n1 n2
      refine bodyPost_ret (v := .tuple #[.agg #[.int .u8 78, .int .u8 0, .slice (some ⟨h0 + 2, 0, none⟩) 1 1], .bool true]) (by simp [results, Tryz.results108, go_sem, n0, n1, n2]) rfl ?_
      refine ⟨_, _, _, _, _, rfl, HG.out, fun q hq => ?_⟩
      cases hq
      refine ⟨rfl, rfl, (a3, b3, .slice A3 k4 c3), row3_new ((laid3_size _ _ _ _ _).trans z2), fun g hg => .inr ?_, HQ.out.keep (fun b _ hl => HG.out.block b hl (by simp)) (fun b hb _ => .inl hb) _ _⟩
      simp [Value.ownBlock] at hg
      have := HH.out
      omega
    · have hb : (a2 != 91) = true := by simp [h91]
      rw [rLen_91 hs h91]
      clear h k1 k2 g2 ho _hS hs hg q0 q1 q2 h91
      go_enter Tryz.func108, Tryz.ntmps108
      go_wp2_with fail
      have HL := Lib.hid (K2.out.laid (x' := .int .u8 0) (y' := .int .u8 0) (z' := .slice none 0 0))
      have HG : Hid (w.grownBy (laid3 w2 (h0 + 1) (.int .u8 0) (.int .u8 0) (.slice none 0 0)) none) := Lib.hid (gr_laid3n G2.out (by have := HH.out; omega) _ _ _)
      have n0 := HL.out.c0
      have n1 := HL.out.c1
      have n2 := HL.out.c2
      clear f0 f1 f2
      unfold laid3 at n0 n1 n2
      refine bodyPost_ret (v := .tuple #[.agg #[.int .u8 0, .int .u8 0, .slice none 0 0], .bool false]) (by simp [results, Tryz.results108, go_sem, n0, n1, n2]) rfl ?_
      exact ⟨_, _, _, _, _, rfl, HG.out, fun q hq => by cases hq⟩
  · have hb : (a != 78) = true := by simp [h78]
    rw [rLen_78 h h78]
    clear h k1 k2 g2 ho _hS h78
    go_enter Tryz.func108, Tryz.ntmps108
    go_wp2_with fail
    have HL := Lib.hid (K2.out.laid (x' := .int .u8 0) (y' := .int .u8 0) (z' := .slice none 0 0))
    have HG : Hid (w.grownBy (laid3 w2 (h0 + 1) (.int .u8 0) (.int .u8 0) (.slice none 0 0)) none) := Lib.hid (gr_laid3n G2.out (by have := HH.out; omega) _ _ _)
    have n0 := HL.out.c0
    have n1 := HL.out.c1
    have n2 := HL.out.c2
    clear f0 f1 f2
    unfold laid3 at n0 n1 n2
    refine bodyPost_ret (v := .tuple #[.agg #[.int .u8 0, .int .u8 0, .slice none 0 0], .bool false]) (by simp [results, Tryz.results108, go_sem, n0, n1, n2]) rfl ?_
    exact ⟨_, _, _, _, _, rfl, HG.out, fun q hq => by cases hq⟩
end

/- SRlL -/
section
open Go.RowKit

theorem SN.vars {w : World} {S : Nat → Prop} {t : Tm} {a b : Int} {sv : Value} (ho : t.Ok) (h : SN w S t (a, b, sv)) (v : Int) : t.varIs v = (a == 97 && b == v) := by
  cases t with
  | dig c => obtain ⟨h1, _⟩ := h; simp only at h1; subst h1; rfl
  | var c => obtain ⟨h1, h2, _⟩ := h; simp only at h1 h2; subst h1 h2; simp only [Tm.varIs]; by_cases e : b = v <;> simp [e]
  | pre c s => obtain ⟨h1, _⟩ := h; have := isP_ge ho.1; simp only at h1; simp [Tm.varIs, show ¬ a = 97 by omega]
  | two c s t => obtain ⟨h1, _⟩ := h; have := isB_ge ho.1; simp only at h1; simp [Tm.varIs, show ¬ a = 97 by omega]
  | loop c i s t => obtain ⟨h1, _⟩ := h; have := ho.1; simp only at h1; simp [Tm.varIs, show ¬ a = 97 by omega]
theorem SN.con {w : World} {S : Nat → Prop} {t : Tm} {a b : Int} {sv : Value} (ho : t.Ok) (h : SN w S t (a, b, sv)) : t.isCon = (a == 48 && b != 48) := by
  cases t with
  | dig c => obtain ⟨h1, h2, _⟩ := h; simp only at h1 h2; subst h1 h2; simp only [Tm.isCon]; by_cases e : b = 48 <;> simp [e]
  | var c => obtain ⟨h1, _⟩ := h; simp only at h1; subst h1; rfl
  | pre c s => obtain ⟨h1, _⟩ := h; have := isP_ge ho.1; simp only at h1; simp [Tm.isCon, show ¬ a = 48 by omega]
  | two c s t =>
    obtain ⟨h1, _⟩ := h
    have h2 := ho.1
    simp only [isB, decide_eq_true_eq] at h2
    simp only at h1; simp [Tm.isCon, show ¬ a = 48 by omega]
  | loop c i s t => obtain ⟨h1, _⟩ := h; have := ho.1; simp only at h1; simp [Tm.isCon, show ¬ a = 48 by omega]
theorem kids_two {t : Tm} (h1 : t.isTwo = false) (h2 : t.isLp = false) : (((t.kids.length : Nat) : Int) != 2) = true := by
  cases t <;> simp [Tm.kids, Tm.isTwo, Tm.isLp] at h1 h2 ⊢

set_option maxRecDepth 100000 in
set_option maxHeartbeats 8000000 in
theorem srloop_any (t : Tm) (S : Nat → Prop) (a b : Int) (A : Option Addr) (k c : Nat) (w : World) (ho : t.Ok) (_hS : ∀ x, S x → x < w.heap.size) (h : SN w S t (a, b, .slice A k c)) :
    Calls Tryz.prog 107 #[.agg #[.int .u8 a, .int .u8 b, .slice A k c]] w (SRuP (rLoop t) S w) := by
  obtain ⟨h0, hh⟩ : ∃ h, w.heap.size = h := ⟨_, rfl⟩
  obtain ⟨w1, hw1⟩ : ∃ w1, w.alloc (.cells #[.int .u8 a, .int .u8 b, .slice A k c] TN) = w1 := ⟨_, rfl⟩
  have z1 : w1.heap.size = h0 + 1 := by rw [← hw1, World.size_alloc, hh]
  obtain ⟨w2, hw2⟩ : ∃ w2, w1.alloc (.cells #[.int .u8 0, .int .u8 0, .slice none 0 0] TN) = w2 := ⟨_, rfl⟩
  have z2 : w2.heap.size = h0 + 2 := by rw [← hw2, World.size_alloc, z1]
  have k1 : C3 w2 h0 (.int .u8 a) (.int .u8 b) (.slice A k c) TN := by rw [← hw2, ← hw1, ← hh]; exact (c3_new _ _ _ _ _).alloc _
  have k2 : C3 w2 (h0 + 1) (.int .u8 0) (.int .u8 0) (.slice none 0 0) TN := by rw [← hw2, ← z1]; exact c3_new _ _ _ _ _
  have g2 : w.grownBy w2 none := by rw [← hw2, ← hw1]; exact (World.grownBy_alloc _ _ none).trans (World.grownBy_alloc _ _ none)
  have K2 := Lib.hid k2
  have G2 := Lib.hid g2
  have HH := Lib.hid hh
  have p0 := k1.c0
  have p1 := k1.c1
  have p2 := k1.c2
  have r0 := k2.c0
  have r1 := k2.c1
  have r2 := k2.c2
  have f0 := k2.f 0
  have f1 := k2.f 1
  have f2 := k2.f 2
  cases hl : t.isLp with
  | true =>
    obtain ⟨d, i, s, u, rfl⟩ : ∃ d i s u, t = .loop d i s u := by cases t <;> first | exact ⟨_, _, _, _, rfl⟩ | cases hl
    obtain ⟨g, a2, b2, A2, k3, c2, rfl, hg, hk0, q0, q1, q2, hs⟩ := h.part (j := 0) (x := s) rfl
    obtain ⟨g', a3, b3, A3, k4, c3, hgg, hg', hk1, t0, t1, t2, hu⟩ := h.part (j := 1) (x := u) rfl
    cases hgg
    simp only [Nat.zero_mul, Nat.zero_add, Nat.one_mul] at q0 q1 q2 t0 t1 t2
    obtain rfl : a = d := h.1
    obtain rfl : b = i := h.2.1
    have hib := isL_ge ho.2.1
    have hk : ((k : Int) != 2) = false := by rw [h.cnt]; rfl
    have hb0 : (b == 0) = false := by rw [beq_eq_false_iff_ne]; omega
    have hk0i : (0 : Int) < (k : Int) := by omega
    have hk1i : (1 : Int) < (k : Int) := by omega
    have l0 := g2.cell t0 (by simp)
    have l1 := g2.cell t1 (by simp)
    have l2 := g2.cell t2 (by simp)
    have HX := Lib.hid hs
    have hva := hu.vars ho.2.2.2 b
    have hco := hu.con ho.2.2.2
    have HAC := Lib.hid ho.1
    obtain ⟨r97, h97⟩ : ∃ r, (a3 == 97) = r := ⟨_, rfl⟩
    obtain ⟨rb, hrb⟩ : ∃ r, (b3 == b) = r := ⟨_, rfl⟩
    obtain ⟨r48, h48⟩ : ∃ r, (a3 == 48) = r := ⟨_, rfl⟩
    obtain ⟨rc, hrc⟩ : ∃ r, (b3 != 48) = r := ⟨_, rfl⟩
    rw [h97, hrb] at hva
    rw [h48, hrc] at hco
    have HVA := Lib.hid hva
    have HCO := Lib.hid hco
    obtain ⟨w3, hw3⟩ : ∃ w3, w2.alloc (.cells #[.int .u8 a3, .int .u8 b3, .slice A3 k4 c3] TN) = w3 := ⟨_, rfl⟩
    have z3 : w3.heap.size = h0 + 3 := by rw [← hw3, World.size_alloc, z2]
    have k1' : C3 w3 h0 (.int .u8 a) (.int .u8 b) (.slice (some ⟨g, 0, none⟩) k c) TN := by rw [← hw3]; exact k1.alloc _
    have k2' : C3 w3 (h0 + 1) (.int .u8 0) (.int .u8 0) (.slice none 0 0) TN := by rw [← hw3]; exact k2.alloc _
    have k3' : C3 w3 (h0 + 2) (.int .u8 a3) (.int .u8 b3) (.slice A3 k4 c3) TN := by rw [← hw3, ← z2]; exact c3_new _ _ _ _ _
    have g3 : w.grownBy w3 none := by rw [← hw3]; exact g2.trans (World.grownBy_alloc _ _ none)
    have K3 := Lib.hid k2'
    have G3 := Lib.hid g3
    have u0 := k1'.c0
    have u1 := k1'.c1
    have u2 := k1'.c2
    have v0 := k2'.c0
    have v1 := k2'.c1
    have v2 := k2'.c2
    have e0 := k2'.f 0
    have e1 := k2'.f 1
    have e2 := k2'.f 2
    have i0 := k3'.c0
    have i1 := k3'.c1
    have i2 := k3'.c2
    have m0 := g3.cell q0 (by simp)
    have m1 := g3.cell q1 (by simp)
    have m2 := g3.cell q2 (by simp)
    clear h k1 k2 g2 ho _hS hl hs hg q0 q1 q2 hg' t0 t1 t2 hu k1' k2' k3' g3 hva hco
    rcases HAC.out with rfl | rfl
    · have HR : Hid (rLoop (.loop 91 b s u) = if (r97 && rb) = true then some s else none) := Lib.hid (by simp only [rLoop]; rw [HVA.out]; simp)
      cases r97
      · rw [show rLoop (.loop 91 b s u) = none from HR.out]
        go_enter Tryz.func107, Tryz.ntmps107
        go_wp2_with fail
        go_region
        all_goals
          go_wp2_with fail
          have HL := Lib.hid (K3.out.laid (x' := .int .u8 a2) (y' := .int .u8 b2) (z' := .slice A2 k3 c2))
          have HG : Hid (w.grownBy (laid3 w3 (h0 + 1) (.int .u8 a2) (.int .u8 b2) (.slice A2 k3 c2)) none) := Lib.hid (gr_laid3n G3.out (by have := HH.out; omega) _ _ _)
          have n0 := HL.out.c0
          have n1 := HL.out.c1
          have n2 := HL.out.c2
          clear e0 e1 e2
          unfold laid3 at n0 n1 n2
          refine bodyPost_ret (v := .tuple #[.agg #[.int .u8 a2, .int .u8 b2, .slice A2 k3 c2], .bool false]) (by simp [results, Tryz.results107, go_sem, n0, n1, n2]) rfl ?_
          exact ⟨_, _, _, _, _, rfl, HG.out.trans (gr_drewN _ 1 none), fun q hq => by cases hq⟩
      · cases rb
        · rw [show rLoop (.loop 91 b s u) = none from HR.out]
          go_enter Tryz.func107, Tryz.ntmps107
          go_wp2_with fail
          go_region
          all_goals
            go_wp2_with fail
            have HL := Lib.hid (K3.out.laid (x' := .int .u8 a2) (y' := .int .u8 b2) (z' := .slice A2 k3 c2))
            have HG : Hid (w.grownBy (laid3 w3 (h0 + 1) (.int .u8 a2) (.int .u8 b2) (.slice A2 k3 c2)) none) := Lib.hid (gr_laid3n G3.out (by have := HH.out; omega) _ _ _)
            have n0 := HL.out.c0
            have n1 := HL.out.c1
            have n2 := HL.out.c2
            clear e0 e1 e2
            unfold laid3 at n0 n1 n2
            refine bodyPost_ret (v := .tuple #[.agg #[.int .u8 a2, .int .u8 b2, .slice A2 k3 c2], .bool false]) (by simp [results, Tryz.results107, go_sem, n0, n1, n2]) rfl ?_
            exact ⟨_, _, _, _, _, rfl, HG.out.trans (gr_drewN _ 1 none), fun q hq => by cases hq⟩
        · rw [show rLoop (.loop 91 b s u) = some s from HR.out]
          go_enter Tryz.func107, Tryz.ntmps107
          go_wp2_with fail
          go_region
          all_goals
            go_wp2_with fail
            have HL := Lib.hid (K3.out.laid (x' := .int .u8 a2) (y' := .int .u8 b2) (z' := .slice A2 k3 c2))
            have HG : Hid (w.grownBy (laid3 w3 (h0 + 1) (.int .u8 a2) (.int .u8 b2) (.slice A2 k3 c2)) none) := Lib.hid (gr_laid3n G3.out (by have := HH.out; omega) _ _ _)
            have n0 := HL.out.c0
            have n1 := HL.out.c1
            have n2 := HL.out.c2
            clear e0 e1 e2
            unfold laid3 at n0 n1 n2
            refine bodyPost_ret (v := .tuple #[.agg #[.int .u8 a2, .int .u8 b2, .slice A2 k3 c2], .bool true]) (by simp [results, Tryz.results107, go_sem, n0, n1, n2]) rfl ?_
            refine ⟨_, _, _, _, _, rfl, HG.out.trans (gr_drewN _ 1 none), fun q hq => ?_⟩
            cases hq
            exact (HX.out.keep (fun b _ hl => HG.out.block b hl (by simp)) (fun b hb _ => .inl hb) _ _).grown (gr_drewN _ 1 none)
    · have HR : Hid (rLoop (.loop 123 b s u) = if (r48 && rc) = true then some s else none) := Lib.hid (by simp only [rLoop]; rw [HCO.out]; simp)
      cases r48
      · rw [show rLoop (.loop 123 b s u) = none from HR.out]
        go_enter Tryz.func107, Tryz.ntmps107
        go_wp2_with fail
        go_region
        all_goals
          go_wp2_with fail
          have HL := Lib.hid (K3.out.laid (x' := .int .u8 a2) (y' := .int .u8 b2) (z' := .slice A2 k3 c2))
          have HG : Hid (w.grownBy (laid3 w3 (h0 + 1) (.int .u8 a2) (.int .u8 b2) (.slice A2 k3 c2)) none) := Lib.hid (gr_laid3n G3.out (by have := HH.out; omega) _ _ _)
          have n0 := HL.out.c0
          have n1 := HL.out.c1
          have n2 := HL.out.c2
          clear e0 e1 e2
          unfold laid3 at n0 n1 n2
          refine bodyPost_ret (v := .tuple #[.agg #[.int .u8 a2, .int .u8 b2, .slice A2 k3 c2], .bool false]) (by simp [results, Tryz.results107, go_sem, n0, n1, n2]) rfl ?_
          exact ⟨_, _, _, _, _, rfl, HG.out.trans (gr_drewN _ 1 none), fun q hq => by cases hq⟩
      · cases rc
        · rw [show rLoop (.loop 123 b s u) = none from HR.out]
          go_enter Tryz.func107, Tryz.ntmps107
          go_wp2_with fail
          go_region
          all_goals
            go_wp2_with fail
            have HL := Lib.hid (K3.out.laid (x' := .int .u8 a2) (y' := .int .u8 b2) (z' := .slice A2 k3 c2))
            have HG : Hid (w.grownBy (laid3 w3 (h0 + 1) (.int .u8 a2) (.int .u8 b2) (.slice A2 k3 c2)) none) := Lib.hid (gr_laid3n G3.out (by have := HH.out; omega) _ _ _)
            have n0 := HL.out.c0
            have n1 := HL.out.c1
            have n2 := HL.out.c2
            clear e0 e1 e2
            unfold laid3 at n0 n1 n2
            refine bodyPost_ret (v := .tuple #[.agg #[.int .u8 a2, .int .u8 b2, .slice A2 k3 c2], .bool false]) (by simp [results, Tryz.results107, go_sem, n0, n1, n2]) rfl ?_
            exact ⟨_, _, _, _, _, rfl, HG.out.trans (gr_drewN _ 1 none), fun q hq => by cases hq⟩
        · rw [show rLoop (.loop 123 b s u) = some s from HR.out]
          go_enter Tryz.func107, Tryz.ntmps107
          go_wp2_with fail
          go_region
          all_goals
            go_wp2_with fail
            have HL := Lib.hid (K3.out.laid (x' := .int .u8 a2) (y' := .int .u8 b2) (z' := .slice A2 k3 c2))
            have HG : Hid (w.grownBy (laid3 w3 (h0 + 1) (.int .u8 a2) (.int .u8 b2) (.slice A2 k3 c2)) none) := Lib.hid (gr_laid3n G3.out (by have := HH.out; omega) _ _ _)
            have n0 := HL.out.c0
            have n1 := HL.out.c1
            have n2 := HL.out.c2
            clear e0 e1 e2
            unfold laid3 at n0 n1 n2
            refine bodyPost_ret (v := .tuple #[.agg #[.int .u8 a2, .int .u8 b2, .slice A2 k3 c2], .bool true]) (by simp [results, Tryz.results107, go_sem, n0, n1, n2]) rfl ?_
            refine ⟨_, _, _, _, _, rfl, HG.out.trans (gr_drewN _ 1 none), fun q hq => ?_⟩
            cases hq
            exact (HX.out.keep (fun b _ hl => HG.out.block b hl (by simp)) (fun b hb _ => .inl hb) _ _).grown (gr_drewN _ 1 none)
  | false =>
    rw [rLoop_no hl]
    cases h2 : t.isTwo with
    | true =>
      obtain ⟨d, s, u, rfl⟩ : ∃ d s u, t = .two d s u := by cases t <;> first | exact ⟨_, _, _, rfl⟩ | cases h2
      have hk : ((k : Int) != 2) = false := by rw [h.cnt]; rfl
      obtain rfl : b = 0 := h.2.1
      clear h k1 k2 g2 ho _hS hl h2
      go_enter Tryz.func107, Tryz.ntmps107
      go_wp2_with fail
      have HL := Lib.hid (K2.out.laid (x' := .int .u8 0) (y' := .int .u8 0) (z' := .slice none 0 0))
      have HG : Hid (w.grownBy (laid3 w2 (h0 + 1) (.int .u8 0) (.int .u8 0) (.slice none 0 0)) none) := Lib.hid (gr_laid3n G2.out (by have := HH.out; omega) _ _ _)
      have n0 := HL.out.c0
      have n1 := HL.out.c1
      have n2 := HL.out.c2
      clear f0 f1 f2
      unfold laid3 at n0 n1 n2
      refine bodyPost_ret (v := .tuple #[.agg #[.int .u8 0, .int .u8 0, .slice none 0 0], .bool false]) (by simp [results, Tryz.results107, go_sem, n0, n1, n2]) rfl ?_
      exact ⟨_, _, _, _, _, rfl, HG.out, fun q hq => by cases hq⟩
    | false =>
      have hk : ((k : Int) != 2) = true := by rw [h.cnt]; exact kids_two h2 hl
      clear h k1 k2 g2 ho _hS hl h2
      go_enter Tryz.func107, Tryz.ntmps107
      go_wp2_with fail
      have HL := Lib.hid (K2.out.laid (x' := .int .u8 0) (y' := .int .u8 0) (z' := .slice none 0 0))
      have HG : Hid (w.grownBy (laid3 w2 (h0 + 1) (.int .u8 0) (.int .u8 0) (.slice none 0 0)) none) := Lib.hid (gr_laid3n G2.out (by have := HH.out; omega) _ _ _)
      have n0 := HL.out.c0
      have n1 := HL.out.c1
      have n2 := HL.out.c2
      clear f0 f1 f2
      unfold laid3 at n0 n1 n2
      refine bodyPost_ret (v := .tuple #[.agg #[.int .u8 0, .int .u8 0, .slice none 0 0], .bool false]) (by simp [results, Tryz.results107, go_sem, n0, n1, n2]) rfl ?_
      exact ⟨_, _, _, _, _, rfl, HG.out, fun q hq => by cases hq⟩
end

/- SRlN -/
section
open Go.RowKit

theorem SN.byte {w : World} {S : Nat → Prop} {t : Tm} {a b : Int} {sv : Value} (ho : t.Ok) (h : SN w S t (a, b, sv)) : 0 ≤ b ∧ b ≤ 255 := by
  cases t with
  | dig c => obtain ⟨_, h2, _⟩ := h; simp only at h2; have := isD_ge ho; omega
  | var c => obtain ⟨_, h2, _⟩ := h; simp only at h2; have := isV_ge ho; omega
  | pre c s => obtain ⟨_, h2, _⟩ := h; simp only at h2; omega
  | two c s t => obtain ⟨_, h2, _⟩ := h; simp only at h2; omega
  | loop c i s t => obtain ⟨_, h2, _⟩ := h; simp only at h2; have := isL_ge ho.2.1; omega
theorem rNeut_no2 {t : Tm} (h : t.isTwo = false) : rNeut t = none := by cases t <;> first | rfl | cases h
theorem SN.name0 {w : World} {S : Nat → Prop} {t : Tm} {a b : Int} {sv : Value} (ho : t.Ok) (h : SN w S t (a, b, sv)) (h2 : t.isLp = true) : (b != 0) = true := by
  cases t <;> try cases h2
  obtain ⟨_, h3, _⟩ := h
  simp only at h3
  have := isL_ge ho.2.1
  simp; omega
theorem rNeut_43 {c : Int} {s t : Tm} (h : c = 43 ∨ c = 94) : rNeut (.two c s t) = if s.digIs 48 = true then some t else if t.digIs 48 = true then some s else none := by
  rcases h with rfl | rfl <;> simp [rNeut]
theorem rNeut_42 {s t : Tm} : rNeut (.two 42 s t) = if s.digIs 49 = true then some t else if t.digIs 49 = true then some s else none := by simp [rNeut]
theorem rNeut_45 {s t : Tm} : rNeut (.two 45 s t) = if t.digIs 48 = true then some s else none := by simp [rNeut]
theorem rNeut_ot {c : Int} {s t : Tm} (h1 : c ≠ 43) (h2 : c ≠ 94) (h3 : c ≠ 42) (h4 : c ≠ 45) : rNeut (.two c s t) = none := by simp [rNeut, h1, h2, h3, h4]
/-- The boxes of both parts. -/
structure NBx (w wx : World) (h0 : Nat) (a : Int) (sv : Value) (X Y : Value × Value × Value) (p q : Value) (bx bY : Nat) : Prop where
  px : p = .pointer (some ⟨bx, 0, none⟩)
  py : q = .pointer (some ⟨bY, 0, none⟩)
  kn : C3 wx h0 (.int .u8 a) (.int .u8 0) sv TN
  kr : C3 wx (h0 + 1) (.int .u8 0) (.int .u8 0) (.slice none 0 0) TN
  kx : C3 wx bx X.1 X.2.1 X.2.2 TN
  ky : C3 wx bY Y.1 Y.2.1 Y.2.2 TN
  gr : w.grownBy wx none
  nx : bx ≠ h0 + 1
  ny : bY ≠ h0 + 1
theorem C3.aside {w : World} {b g : Nat} {x y z u v t : Value} {ty : TypeId} (h : C3 w b x y z ty) (hne : b ≠ g) : C3 (laid3 w g u v t) b x y z ty := (laid3_heap w g u v t b hne).trans h

set_option maxRecDepth 100000 in
set_option maxHeartbeats 8000000 in
theorem srneut_any (t : Tm) (S : Nat → Prop) (a b : Int) (A : Option Addr) (k c : Nat) (w : World) (ho : t.Ok) (_hS : ∀ x, S x → x < w.heap.size) (h : SN w S t (a, b, .slice A k c)) :
    Calls Tryz.prog 105 #[.agg #[.int .u8 a, .int .u8 b, .slice A k c]] w (SRuP (rNeut t) S w) := by
  obtain ⟨h0, hh⟩ : ∃ h, w.heap.size = h := ⟨_, rfl⟩
  obtain ⟨w1, hw1⟩ : ∃ w1, w.alloc (.cells #[.int .u8 a, .int .u8 b, .slice A k c] TN) = w1 := ⟨_, rfl⟩
  have z1 : w1.heap.size = h0 + 1 := by rw [← hw1, World.size_alloc, hh]
  obtain ⟨w2, hw2⟩ : ∃ w2, w1.alloc (.cells #[.int .u8 0, .int .u8 0, .slice none 0 0] TN) = w2 := ⟨_, rfl⟩
  have z2 : w2.heap.size = h0 + 2 := by rw [← hw2, World.size_alloc, z1]
  have k1 : C3 w2 h0 (.int .u8 a) (.int .u8 b) (.slice A k c) TN := by rw [← hw2, ← hw1, ← hh]; exact (c3_new _ _ _ _ _).alloc _
  have k2 : C3 w2 (h0 + 1) (.int .u8 0) (.int .u8 0) (.slice none 0 0) TN := by rw [← hw2, ← z1]; exact c3_new _ _ _ _ _
  have g2 : w.grownBy w2 none := by rw [← hw2, ← hw1]; exact (World.grownBy_alloc _ _ none).trans (World.grownBy_alloc _ _ none)
  have K2 := Lib.hid k2
  have G2 := Lib.hid g2
  have HH := Lib.hid hh
  have p0 := k1.c0
  have p1 := k1.c1
  have p2 := k1.c2
  have r0 := k2.c0
  have r1 := k2.c1
  have r2 := k2.c2
  have f0 := k2.f 0
  have f1 := k2.f 1
  have f2 := k2.f 2
  cases hl : t.isTwo with
  | false =>
    rw [rNeut_no2 hl]
    cases h2 : t.isLp with
    | true =>
      have hk : ((k : Int) != 2) = false := by
        rw [h.cnt]
        cases t <;> simp [Tm.kids, Tm.isLp] at h2 ⊢
      have hb := h.name0 ho h2
      clear h k1 k2 g2 ho _hS hl h2
      go_enter Tryz.func105, Tryz.ntmps105
      go_wp2_with fail
      have HL := Lib.hid (K2.out.laid (x' := .int .u8 0) (y' := .int .u8 0) (z' := .slice none 0 0))
      have HG : Hid (w.grownBy (laid3 w2 (h0 + 1) (.int .u8 0) (.int .u8 0) (.slice none 0 0)) none) := Lib.hid (gr_laid3n G2.out (by have := HH.out; omega) _ _ _)
      have n0 := HL.out.c0
      have n1 := HL.out.c1
      have n2 := HL.out.c2
      clear f0 f1 f2
      unfold laid3 at n0 n1 n2
      refine bodyPost_ret (v := .tuple #[.agg #[.int .u8 0, .int .u8 0, .slice none 0 0], .bool false]) (by simp [results, Tryz.results105, go_sem, n0, n1, n2]) rfl ?_
      exact ⟨_, _, _, _, _, rfl, HG.out, fun q hq => by cases hq⟩
    | false =>
      have hk : ((k : Int) != 2) = true := by rw [h.cnt]; exact kids_two hl h2
      clear h k1 k2 g2 ho _hS hl h2
      go_enter Tryz.func105, Tryz.ntmps105
      go_wp2_with fail
      have HL := Lib.hid (K2.out.laid (x' := .int .u8 0) (y' := .int .u8 0) (z' := .slice none 0 0))
      have HG : Hid (w.grownBy (laid3 w2 (h0 + 1) (.int .u8 0) (.int .u8 0) (.slice none 0 0)) none) := Lib.hid (gr_laid3n G2.out (by have := HH.out; omega) _ _ _)
      have n0 := HL.out.c0
      have n1 := HL.out.c1
      have n2 := HL.out.c2
      clear f0 f1 f2
      unfold laid3 at n0 n1 n2
      refine bodyPost_ret (v := .tuple #[.agg #[.int .u8 0, .int .u8 0, .slice none 0 0], .bool false]) (by simp [results, Tryz.results105, go_sem, n0, n1, n2]) rfl ?_
      exact ⟨_, _, _, _, _, rfl, HG.out, fun q hq => by cases hq⟩
  | true =>
    obtain ⟨d, s, u, rfl⟩ : ∃ d s u, t = .two d s u := by cases t <;> first | exact ⟨_, _, _, rfl⟩ | cases hl
    obtain ⟨g, a2, b2, A2, k3, c2, rfl, hg, hk0, q0, q1, q2, hs⟩ := h.part (j := 0) (x := s) rfl
    obtain ⟨g', a3, b3, A3, k4, c3, hgg, hg', hk1, t0, t1, t2, hu⟩ := h.part (j := 1) (x := u) rfl
    cases hgg
    simp only [Nat.zero_mul, Nat.zero_add, Nat.one_mul] at q0 q1 q2 t0 t1 t2
    obtain rfl : a = d := h.1
    obtain rfl : b = 0 := h.2.1
    have hk : ((k : Int) != 2) = false := by rw [h.cnt]; rfl
    have hk0i : (0 : Int) < (k : Int) := by omega
    have hk1i : (1 : Int) < (k : Int) := by omega
    have l0 := g2.cell t0 (by simp)
    have l1 := g2.cell t1 (by simp)
    have l2 := g2.cell t2 (by simp)
    have m0 := g2.cell q0 (by simp)
    have m1 := g2.cell q1 (by simp)
    have m2 := g2.cell q2 (by simp)
    have HX := Lib.hid hs
    have HY := Lib.hid hu
    have HO := Lib.hid ho
    have K1 := Lib.hid k1
    obtain ⟨o, ho2⟩ : ∃ o, rNeut (.two a s u) = o := ⟨_, rfl⟩
    rw [ho2]
    have HO2 := Lib.hid ho2
    clear ho2
    clear h k1 k2 g2 ho _hS hl hs hg q0 q1 q2 hg' t0 t1 t2 hu
    have p2o := fun (o : Obj) => (World.grownBy_alloc w2 o none).cell p2 (by simp)
    have p2p := fun (o o' : Obj) => ((World.grownBy_alloc w2 o none).trans (World.grownBy_alloc _ o' none)).cell p2 (by simp)
    have l0o := fun (o : Obj) => (World.grownBy_alloc w2 o none).cell l0 (by simp)
    have l0p := fun (o o' : Obj) => ((World.grownBy_alloc w2 o none).trans (World.grownBy_alloc _ o' none)).cell l0 (by simp)
    have l1o := fun (o : Obj) => (World.grownBy_alloc w2 o none).cell l1 (by simp)
    have l1p := fun (o o' : Obj) => ((World.grownBy_alloc w2 o none).trans (World.grownBy_alloc _ o' none)).cell l1 (by simp)
    have l2o := fun (o : Obj) => (World.grownBy_alloc w2 o none).cell l2 (by simp)
    have l2p := fun (o o' : Obj) => ((World.grownBy_alloc w2 o none).trans (World.grownBy_alloc _ o' none)).cell l2 (by simp)
    have m0o := fun (o : Obj) => (World.grownBy_alloc w2 o none).cell m0 (by simp)
    have m0p := fun (o o' : Obj) => ((World.grownBy_alloc w2 o none).trans (World.grownBy_alloc _ o' none)).cell m0 (by simp)
    have m1o := fun (o : Obj) => (World.grownBy_alloc w2 o none).cell m1 (by simp)
    have m1p := fun (o o' : Obj) => ((World.grownBy_alloc w2 o none).trans (World.grownBy_alloc _ o' none)).cell m1 (by simp)
    have m2o := fun (o : Obj) => (World.grownBy_alloc w2 o none).cell m2 (by simp)
    have m2p := fun (o o' : Obj) => ((World.grownBy_alloc w2 o none).trans (World.grownBy_alloc _ o' none)).cell m2 (by simp)
    go_enter Tryz.func105, Tryz.ntmps105
    go_upto_region 3 with fail
    go_cut [4, 5] (fun p q wx => ∃ bx bY, NBx w wx h0 a (.slice (some ⟨g, 0, none⟩) k c) (.int .u8 a2, .int .u8 b2, .slice A2 k3 c2) (.int .u8 a3, .int .u8 b3, .slice A3 k4 c3) p q bx bY)
    case first =>
      go_region
      all_goals
        go_wp2_with fail
      all_goals
        go_meet
        first
          | exact ⟨h0 + 2, h0 + 2 + 1, rfl, rfl, (K1.out.alloc _).alloc _, (K2.out.alloc _).alloc _, ((show C3 (w2.alloc (.cells #[.int .u8 a2, .int .u8 b2, .slice A2 k3 c2] TN)) (h0 + 2) (.int .u8 a2) (.int .u8 b2) (.slice A2 k3 c2) TN from by rw [← z2]; exact c3_new _ _ _ _ _).alloc _), (show C3 ((w2.alloc (.cells #[.int .u8 a2, .int .u8 b2, .slice A2 k3 c2] TN)).alloc (.cells #[.int .u8 a3, .int .u8 b3, .slice A3 k4 c3] TN)) (h0 + 2 + 1) (.int .u8 a3) (.int .u8 b3) (.slice A3 k4 c3) TN from by rw [← z2, ← World.size_alloc w2 (.cells #[.int .u8 a2, .int .u8 b2, .slice A2 k3 c2] TN)]; exact c3_new _ _ _ _ _), G2.out.trans (((World.grownBy_alloc _ _ none).trans (World.grownBy_alloc _ _ none)).trans (gr_drewN _ 1 none)), by omega, by omega⟩
          | exact ⟨h0 + 2 + 1, h0 + 2, rfl, rfl, (K1.out.alloc _).alloc _, (K2.out.alloc _).alloc _, (show C3 ((w2.alloc (.cells #[.int .u8 a3, .int .u8 b3, .slice A3 k4 c3] TN)).alloc (.cells #[.int .u8 a2, .int .u8 b2, .slice A2 k3 c2] TN)) (h0 + 2 + 1) (.int .u8 a2) (.int .u8 b2) (.slice A2 k3 c2) TN from by rw [← z2, ← World.size_alloc w2 (.cells #[.int .u8 a3, .int .u8 b3, .slice A3 k4 c3] TN)]; exact c3_new _ _ _ _ _), ((show C3 (w2.alloc (.cells #[.int .u8 a3, .int .u8 b3, .slice A3 k4 c3] TN)) (h0 + 2) (.int .u8 a3) (.int .u8 b3) (.slice A3 k4 c3) TN from by rw [← z2]; exact c3_new _ _ _ _ _).alloc _), G2.out.trans (((World.grownBy_alloc _ _ none).trans (World.grownBy_alloc _ _ none)).trans (gr_drewN _ 1 none)), by omega, by omega⟩
    case rest =>
      obtain ⟨bx, bY, hB⟩ := hcut
      obtain ⟨rfl, rfl, kn, kr, kx, ky, gx, hnx, hny⟩ := hB
      have HNX := Lib.hid hnx
      have HNY := Lib.hid hny
      clear hnx hny
      have KR := Lib.hid kr
      have KX := Lib.hid kx
      have KY := Lib.hid ky
      have GX := Lib.hid gx
      have BX := Lib.hid (HX.out.byte HO.out.2.1)
      have BY := Lib.hid (HY.out.byte HO.out.2.2)
      have HDX := Lib.hid (fun (d : Int) (w' : World) (hg : w.grownBy w' none) => sdig_any s S a2 b2 A2 k3 c2 d w' HO.out.2.1 (HX.out.grown hg) BX.out.1 BX.out.2)
      have HDY := Lib.hid (fun (d : Int) (w' : World) (hg : w.grownBy w' none) => sdig_any u S a3 b3 A3 k4 c3 d w' HO.out.2.2 (HY.out.grown hg) BY.out.1 BY.out.2)
      clear m0 m1 m2 l0 l1 l2 p0 p1 p2 r0 r1 r2 f0 f1 f2 m0o m0p m1o m1p m2o m2p l0o l0p l1o l1p l2o l2p p2o p2p K2 K1 G2
      have a0 := kn.c0
      have x0 := kx.c0
      have x1 := kx.c1
      have x2 := kx.c2
      have y0 := ky.c0
      have y1 := ky.c1
      have y2 := ky.c2
      have r0 := kr.c0
      have r1 := kr.c1
      have r2 := kr.c2
      have f0 := kr.f 0
      have f1 := kr.f 1
      have f2 := kr.f 2
      clear kn kr kx ky gx
      by_cases h43 : a = 43 ∨ a = 94
      · rcases h43 with rfl | rfl
        · skip
          go_wp2_with fail
          refine (HDX.out 0 _ GX.out).mono ?_
          rintro e wy ⟨rfl, hgy⟩
          have GY := Lib.hid (GX.out.trans hgy)
          have KRwy := Lib.hid (KR.out.grown hgy (by simp))
          have KXwy := Lib.hid (KX.out.grown hgy (by simp))
          have KYwy := Lib.hid (KY.out.grown hgy (by simp))
          have x0wy := KXwy.out.c0
          have x1wy := KXwy.out.c1
          have x2wy := KXwy.out.c2
          have y0wy := KYwy.out.c0
          have y1wy := KYwy.out.c1
          have y2wy := KYwy.out.c2
          have r0wy := KRwy.out.c0
          have r1wy := KRwy.out.c1
          have r2wy := KRwy.out.c2
          have f0wy := KRwy.out.f 0
          have f1wy := KRwy.out.f 1
          have f2wy := KRwy.out.f 2
          clear x0 x1 x2 y0 y1 y2 r0 r1 r2 f0 f1 f2
          obtain ⟨d1, hd1⟩ : ∃ r, s.digIs (48 + 0) = r := ⟨_, rfl⟩
          have HD1 := Lib.hid hd1
          rw [hd1]
          clear hd1
          obtain ⟨d2, hd2⟩ : ∃ r, u.digIs (48 + 0) = r := ⟨_, rfl⟩
          have HD2 := Lib.hid hd2
          clear hd2
          cases d1
          · go_wp2_with fail
            go_region_held3 (fun w' => w'.cell? ⟨bx, 0, none⟩ = some (.int .u8 a2) ∧ w'.cell? ⟨bx, 1, none⟩ = some (.int .u8 b2) ∧ w'.cell? ⟨bx, 2, none⟩ = some (.slice A2 k3 c2) ∧ w'.cell? ⟨bY, 0, none⟩ = some (.int .u8 a3) ∧ w'.cell? ⟨bY, 1, none⟩ = some (.int .u8 b3) ∧ w'.cell? ⟨bY, 2, none⟩ = some (.slice A3 k4 c3)) (go_keep)
              (first
                | (go_at_call 123
                   (with_reducible refine (HDY.out 0 _ ?_).mono ?_)
                   · exact GY.out.trans (gr_drewN wy 1 none)
                   rintro e wz ⟨rfl, hgz⟩
                   have GZ := Lib.hid ((GY.out.trans (gr_drewN wy 1 none)).trans hgz)
                   have hgg := (hgy.trans ((gr_drewN wy 1 none).trans hgz))
                   have KRwz := Lib.hid (KR.out.grown hgg (by simp))
                   have KXwz := Lib.hid (KX.out.grown hgg (by simp))
                   have KYwz := Lib.hid (KY.out.grown hgg (by simp))
                   have x0wz := KXwz.out.c0
                   have x1wz := KXwz.out.c1
                   have x2wz := KXwz.out.c2
                   have y0wz := KYwz.out.c0
                   have y1wz := KYwz.out.c1
                   have y2wz := KYwz.out.c2
                   have r0wz := KRwz.out.c0
                   have r1wz := KRwz.out.c1
                   have r2wz := KRwz.out.c2
                   have f0wz := KRwz.out.f 0
                   have f1wz := KRwz.out.f 1
                   have f2wz := KRwz.out.f 2
                   have xx0 := fun (v0 v1 v2 : Value) => (KXwz.out.aside (g := h0 + 1) (u := v0) (v := v1) (t := v2) HNX.out).c0
                   have xx1 := fun (v0 v1 v2 : Value) => (KXwz.out.aside (g := h0 + 1) (u := v0) (v := v1) (t := v2) HNX.out).c1
                   have xx2 := fun (v0 v1 v2 : Value) => (KXwz.out.aside (g := h0 + 1) (u := v0) (v := v1) (t := v2) HNX.out).c2
                   have yy0 := fun (v0 v1 v2 : Value) => (KYwz.out.aside (g := h0 + 1) (u := v0) (v := v1) (t := v2) HNY.out).c0
                   have yy1 := fun (v0 v1 v2 : Value) => (KYwz.out.aside (g := h0 + 1) (u := v0) (v := v1) (t := v2) HNY.out).c1
                   have yy2 := fun (v0 v1 v2 : Value) => (KYwz.out.aside (g := h0 + 1) (u := v0) (v := v1) (t := v2) HNY.out).c2
                   simp only [laid3] at xx0 xx1 xx2 yy0 yy1 yy2
                   clear hgz hgg))
            go_wp2_with fail
            rw [show u.digIs 48 = d2 from HD2.out]
            cases d2
            · obtain rfl : o = none := by rw [← HO2.out, rNeut_43 (.inl rfl), if_neg (by rw [show s.digIs 48 = false from HD1.out]; decide), if_neg (by rw [show u.digIs 48 = false from HD2.out]; decide)]
              have HL := Lib.hid (KRwz.out.laid (x' := .int .u8 a2) (y' := .int .u8 b2) (z' := .slice A2 k3 c2))
              have HG : Hid (w.grownBy (laid3 wz (h0 + 1) (.int .u8 a2) (.int .u8 b2) (.slice A2 k3 c2)) none) := Lib.hid (gr_laid3n GZ.out (by have := HH.out; omega) _ _ _)
              have n0 := HL.out.c0
              have n1 := HL.out.c1
              have n2 := HL.out.c2

              unfold laid3 at n0 n1 n2
              refine bodyPost_ret (v := .tuple #[.agg #[.int .u8 a2, .int .u8 b2, .slice A2 k3 c2], .bool false]) (by simp [results, Tryz.results105, go_sem, n0, n1, n2]) rfl ?_
              exact ⟨_, _, _, _, _, rfl, HG.out, fun q hq => by cases hq⟩
            · obtain rfl : o = some s := by rw [← HO2.out, rNeut_43 (.inl rfl), if_neg (by rw [show s.digIs 48 = false from HD1.out]; decide), if_pos (show u.digIs 48 = true from HD2.out)]
              have HL := Lib.hid (KRwz.out.laid (x' := .int .u8 a2) (y' := .int .u8 b2) (z' := .slice A2 k3 c2))
              have HG : Hid (w.grownBy (laid3 wz (h0 + 1) (.int .u8 a2) (.int .u8 b2) (.slice A2 k3 c2)) none) := Lib.hid (gr_laid3n GZ.out (by have := HH.out; omega) _ _ _)
              have n0 := HL.out.c0
              have n1 := HL.out.c1
              have n2 := HL.out.c2

              unfold laid3 at n0 n1 n2
              refine bodyPost_ret (v := .tuple #[.agg #[.int .u8 a2, .int .u8 b2, .slice A2 k3 c2], .bool true]) (by simp [results, Tryz.results105, go_sem, n0, n1, n2]) rfl ?_
              refine ⟨_, _, _, _, _, rfl, HG.out, fun q hq => ?_⟩
              cases hq
              exact HX.out.keep (fun b _ hl => HG.out.block b hl (by simp)) (fun b hb _ => .inl hb) _ _
          · obtain rfl : o = some u := by rw [← HO2.out, rNeut_43 (.inl rfl), if_pos (show s.digIs 48 = true from HD1.out)]
            go_wp2_with fail
            have HL := Lib.hid (KRwy.out.laid (x' := .int .u8 a3) (y' := .int .u8 b3) (z' := .slice A3 k4 c3))
            have HG : Hid (w.grownBy (laid3 wy (h0 + 1) (.int .u8 a3) (.int .u8 b3) (.slice A3 k4 c3)) none) := Lib.hid (gr_laid3n GY.out (by have := HH.out; omega) _ _ _)
            have n0 := HL.out.c0
            have n1 := HL.out.c1
            have n2 := HL.out.c2

            unfold laid3 at n0 n1 n2
            refine bodyPost_ret (v := .tuple #[.agg #[.int .u8 a3, .int .u8 b3, .slice A3 k4 c3], .bool true]) (by simp [results, Tryz.results105, go_sem, n0, n1, n2]) rfl ?_
            refine ⟨_, _, _, _, _, rfl, HG.out, fun q hq => ?_⟩
            cases hq
            exact HY.out.keep (fun b _ hl => HG.out.block b hl (by simp)) (fun b hb _ => .inl hb) _ _
        · skip
          go_wp2_with fail
          refine (HDX.out 0 _ GX.out).mono ?_
          rintro e wy ⟨rfl, hgy⟩
          have GY := Lib.hid (GX.out.trans hgy)
          have KRwy := Lib.hid (KR.out.grown hgy (by simp))
          have KXwy := Lib.hid (KX.out.grown hgy (by simp))
          have KYwy := Lib.hid (KY.out.grown hgy (by simp))
          have x0wy := KXwy.out.c0
          have x1wy := KXwy.out.c1
          have x2wy := KXwy.out.c2
          have y0wy := KYwy.out.c0
          have y1wy := KYwy.out.c1
          have y2wy := KYwy.out.c2
          have r0wy := KRwy.out.c0
          have r1wy := KRwy.out.c1
          have r2wy := KRwy.out.c2
          have f0wy := KRwy.out.f 0
          have f1wy := KRwy.out.f 1
          have f2wy := KRwy.out.f 2
          clear x0 x1 x2 y0 y1 y2 r0 r1 r2 f0 f1 f2
          obtain ⟨d1, hd1⟩ : ∃ r, s.digIs (48 + 0) = r := ⟨_, rfl⟩
          have HD1 := Lib.hid hd1
          rw [hd1]
          clear hd1
          obtain ⟨d2, hd2⟩ : ∃ r, u.digIs (48 + 0) = r := ⟨_, rfl⟩
          have HD2 := Lib.hid hd2
          clear hd2
          cases d1
          · go_wp2_with fail
            go_region_held3 (fun w' => w'.cell? ⟨bx, 0, none⟩ = some (.int .u8 a2) ∧ w'.cell? ⟨bx, 1, none⟩ = some (.int .u8 b2) ∧ w'.cell? ⟨bx, 2, none⟩ = some (.slice A2 k3 c2) ∧ w'.cell? ⟨bY, 0, none⟩ = some (.int .u8 a3) ∧ w'.cell? ⟨bY, 1, none⟩ = some (.int .u8 b3) ∧ w'.cell? ⟨bY, 2, none⟩ = some (.slice A3 k4 c3)) (go_keep)
              (first
                | (go_at_call 123
                   (with_reducible refine (HDY.out 0 _ ?_).mono ?_)
                   · exact GY.out.trans (gr_drewN wy 1 none)
                   rintro e wz ⟨rfl, hgz⟩
                   have GZ := Lib.hid ((GY.out.trans (gr_drewN wy 1 none)).trans hgz)
                   have hgg := (hgy.trans ((gr_drewN wy 1 none).trans hgz))
                   have KRwz := Lib.hid (KR.out.grown hgg (by simp))
                   have KXwz := Lib.hid (KX.out.grown hgg (by simp))
                   have KYwz := Lib.hid (KY.out.grown hgg (by simp))
                   have x0wz := KXwz.out.c0
                   have x1wz := KXwz.out.c1
                   have x2wz := KXwz.out.c2
                   have y0wz := KYwz.out.c0
                   have y1wz := KYwz.out.c1
                   have y2wz := KYwz.out.c2
                   have r0wz := KRwz.out.c0
                   have r1wz := KRwz.out.c1
                   have r2wz := KRwz.out.c2
                   have f0wz := KRwz.out.f 0
                   have f1wz := KRwz.out.f 1
                   have f2wz := KRwz.out.f 2
                   have xx0 := fun (v0 v1 v2 : Value) => (KXwz.out.aside (g := h0 + 1) (u := v0) (v := v1) (t := v2) HNX.out).c0
                   have xx1 := fun (v0 v1 v2 : Value) => (KXwz.out.aside (g := h0 + 1) (u := v0) (v := v1) (t := v2) HNX.out).c1
                   have xx2 := fun (v0 v1 v2 : Value) => (KXwz.out.aside (g := h0 + 1) (u := v0) (v := v1) (t := v2) HNX.out).c2
                   have yy0 := fun (v0 v1 v2 : Value) => (KYwz.out.aside (g := h0 + 1) (u := v0) (v := v1) (t := v2) HNY.out).c0
                   have yy1 := fun (v0 v1 v2 : Value) => (KYwz.out.aside (g := h0 + 1) (u := v0) (v := v1) (t := v2) HNY.out).c1
                   have yy2 := fun (v0 v1 v2 : Value) => (KYwz.out.aside (g := h0 + 1) (u := v0) (v := v1) (t := v2) HNY.out).c2
                   simp only [laid3] at xx0 xx1 xx2 yy0 yy1 yy2
                   clear hgz hgg))
            go_wp2_with fail
            rw [show u.digIs 48 = d2 from HD2.out]
            cases d2
            · obtain rfl : o = none := by rw [← HO2.out, rNeut_43 (.inr rfl), if_neg (by rw [show s.digIs 48 = false from HD1.out]; decide), if_neg (by rw [show u.digIs 48 = false from HD2.out]; decide)]
              have HL := Lib.hid (KRwz.out.laid (x' := .int .u8 a2) (y' := .int .u8 b2) (z' := .slice A2 k3 c2))
              have HG : Hid (w.grownBy (laid3 wz (h0 + 1) (.int .u8 a2) (.int .u8 b2) (.slice A2 k3 c2)) none) := Lib.hid (gr_laid3n GZ.out (by have := HH.out; omega) _ _ _)
              have n0 := HL.out.c0
              have n1 := HL.out.c1
              have n2 := HL.out.c2

              unfold laid3 at n0 n1 n2
              refine bodyPost_ret (v := .tuple #[.agg #[.int .u8 a2, .int .u8 b2, .slice A2 k3 c2], .bool false]) (by simp [results, Tryz.results105, go_sem, n0, n1, n2]) rfl ?_
              exact ⟨_, _, _, _, _, rfl, HG.out, fun q hq => by cases hq⟩
            · obtain rfl : o = some s := by rw [← HO2.out, rNeut_43 (.inr rfl), if_neg (by rw [show s.digIs 48 = false from HD1.out]; decide), if_pos (show u.digIs 48 = true from HD2.out)]
              have HL := Lib.hid (KRwz.out.laid (x' := .int .u8 a2) (y' := .int .u8 b2) (z' := .slice A2 k3 c2))
              have HG : Hid (w.grownBy (laid3 wz (h0 + 1) (.int .u8 a2) (.int .u8 b2) (.slice A2 k3 c2)) none) := Lib.hid (gr_laid3n GZ.out (by have := HH.out; omega) _ _ _)
              have n0 := HL.out.c0
              have n1 := HL.out.c1
              have n2 := HL.out.c2

              unfold laid3 at n0 n1 n2
              refine bodyPost_ret (v := .tuple #[.agg #[.int .u8 a2, .int .u8 b2, .slice A2 k3 c2], .bool true]) (by simp [results, Tryz.results105, go_sem, n0, n1, n2]) rfl ?_
              refine ⟨_, _, _, _, _, rfl, HG.out, fun q hq => ?_⟩
              cases hq
              exact HX.out.keep (fun b _ hl => HG.out.block b hl (by simp)) (fun b hb _ => .inl hb) _ _
          · obtain rfl : o = some u := by rw [← HO2.out, rNeut_43 (.inr rfl), if_pos (show s.digIs 48 = true from HD1.out)]
            go_wp2_with fail
            have HL := Lib.hid (KRwy.out.laid (x' := .int .u8 a3) (y' := .int .u8 b3) (z' := .slice A3 k4 c3))
            have HG : Hid (w.grownBy (laid3 wy (h0 + 1) (.int .u8 a3) (.int .u8 b3) (.slice A3 k4 c3)) none) := Lib.hid (gr_laid3n GY.out (by have := HH.out; omega) _ _ _)
            have n0 := HL.out.c0
            have n1 := HL.out.c1
            have n2 := HL.out.c2

            unfold laid3 at n0 n1 n2
            refine bodyPost_ret (v := .tuple #[.agg #[.int .u8 a3, .int .u8 b3, .slice A3 k4 c3], .bool true]) (by simp [results, Tryz.results105, go_sem, n0, n1, n2]) rfl ?_
            refine ⟨_, _, _, _, _, rfl, HG.out, fun q hq => ?_⟩
            cases hq
            exact HY.out.keep (fun b _ hl => HG.out.block b hl (by simp)) (fun b hb _ => .inl hb) _ _
      · by_cases h42 : a = 42
        · subst h42
          go_wp2_with fail
          refine (HDX.out 1 _ GX.out).mono ?_
          rintro e wy ⟨rfl, hgy⟩
          have GY := Lib.hid (GX.out.trans hgy)
          have KRwy := Lib.hid (KR.out.grown hgy (by simp))
          have KXwy := Lib.hid (KX.out.grown hgy (by simp))
          have KYwy := Lib.hid (KY.out.grown hgy (by simp))
          have x0wy := KXwy.out.c0
          have x1wy := KXwy.out.c1
          have x2wy := KXwy.out.c2
          have y0wy := KYwy.out.c0
          have y1wy := KYwy.out.c1
          have y2wy := KYwy.out.c2
          have r0wy := KRwy.out.c0
          have r1wy := KRwy.out.c1
          have r2wy := KRwy.out.c2
          have f0wy := KRwy.out.f 0
          have f1wy := KRwy.out.f 1
          have f2wy := KRwy.out.f 2
          clear x0 x1 x2 y0 y1 y2 r0 r1 r2 f0 f1 f2
          obtain ⟨d1, hd1⟩ : ∃ r, s.digIs (48 + 1) = r := ⟨_, rfl⟩
          have HD1 := Lib.hid hd1
          rw [hd1]
          clear hd1
          obtain ⟨d2, hd2⟩ : ∃ r, u.digIs (48 + 1) = r := ⟨_, rfl⟩
          have HD2 := Lib.hid hd2
          clear hd2
          cases d1
          · go_wp2_with fail
            go_region_held3 (fun w' => w'.cell? ⟨bx, 0, none⟩ = some (.int .u8 a2) ∧ w'.cell? ⟨bx, 1, none⟩ = some (.int .u8 b2) ∧ w'.cell? ⟨bx, 2, none⟩ = some (.slice A2 k3 c2) ∧ w'.cell? ⟨bY, 0, none⟩ = some (.int .u8 a3) ∧ w'.cell? ⟨bY, 1, none⟩ = some (.int .u8 b3) ∧ w'.cell? ⟨bY, 2, none⟩ = some (.slice A3 k4 c3)) (go_keep)
              (first
                | (go_at_call 123
                   (with_reducible refine (HDY.out 1 _ ?_).mono ?_)
                   · exact GY.out.trans (gr_drewN wy 1 none)
                   rintro e wz ⟨rfl, hgz⟩
                   have GZ := Lib.hid ((GY.out.trans (gr_drewN wy 1 none)).trans hgz)
                   have hgg := (hgy.trans ((gr_drewN wy 1 none).trans hgz))
                   have KRwz := Lib.hid (KR.out.grown hgg (by simp))
                   have KXwz := Lib.hid (KX.out.grown hgg (by simp))
                   have KYwz := Lib.hid (KY.out.grown hgg (by simp))
                   have x0wz := KXwz.out.c0
                   have x1wz := KXwz.out.c1
                   have x2wz := KXwz.out.c2
                   have y0wz := KYwz.out.c0
                   have y1wz := KYwz.out.c1
                   have y2wz := KYwz.out.c2
                   have r0wz := KRwz.out.c0
                   have r1wz := KRwz.out.c1
                   have r2wz := KRwz.out.c2
                   have f0wz := KRwz.out.f 0
                   have f1wz := KRwz.out.f 1
                   have f2wz := KRwz.out.f 2
                   have xx0 := fun (v0 v1 v2 : Value) => (KXwz.out.aside (g := h0 + 1) (u := v0) (v := v1) (t := v2) HNX.out).c0
                   have xx1 := fun (v0 v1 v2 : Value) => (KXwz.out.aside (g := h0 + 1) (u := v0) (v := v1) (t := v2) HNX.out).c1
                   have xx2 := fun (v0 v1 v2 : Value) => (KXwz.out.aside (g := h0 + 1) (u := v0) (v := v1) (t := v2) HNX.out).c2
                   have yy0 := fun (v0 v1 v2 : Value) => (KYwz.out.aside (g := h0 + 1) (u := v0) (v := v1) (t := v2) HNY.out).c0
                   have yy1 := fun (v0 v1 v2 : Value) => (KYwz.out.aside (g := h0 + 1) (u := v0) (v := v1) (t := v2) HNY.out).c1
                   have yy2 := fun (v0 v1 v2 : Value) => (KYwz.out.aside (g := h0 + 1) (u := v0) (v := v1) (t := v2) HNY.out).c2
                   simp only [laid3] at xx0 xx1 xx2 yy0 yy1 yy2
                   clear hgz hgg))
            go_wp2_with fail
            rw [show u.digIs 49 = d2 from HD2.out]
            cases d2
            · obtain rfl : o = none := by rw [← HO2.out, rNeut_42, if_neg (by rw [show s.digIs 49 = false from HD1.out]; decide), if_neg (by rw [show u.digIs 49 = false from HD2.out]; decide)]
              have HL := Lib.hid (KRwz.out.laid (x' := .int .u8 a2) (y' := .int .u8 b2) (z' := .slice A2 k3 c2))
              have HG : Hid (w.grownBy (laid3 wz (h0 + 1) (.int .u8 a2) (.int .u8 b2) (.slice A2 k3 c2)) none) := Lib.hid (gr_laid3n GZ.out (by have := HH.out; omega) _ _ _)
              have n0 := HL.out.c0
              have n1 := HL.out.c1
              have n2 := HL.out.c2

              unfold laid3 at n0 n1 n2
              refine bodyPost_ret (v := .tuple #[.agg #[.int .u8 a2, .int .u8 b2, .slice A2 k3 c2], .bool false]) (by simp [results, Tryz.results105, go_sem, n0, n1, n2]) rfl ?_
              exact ⟨_, _, _, _, _, rfl, HG.out, fun q hq => by cases hq⟩
            · obtain rfl : o = some s := by rw [← HO2.out, rNeut_42, if_neg (by rw [show s.digIs 49 = false from HD1.out]; decide), if_pos (show u.digIs 49 = true from HD2.out)]
              have HL := Lib.hid (KRwz.out.laid (x' := .int .u8 a2) (y' := .int .u8 b2) (z' := .slice A2 k3 c2))
              have HG : Hid (w.grownBy (laid3 wz (h0 + 1) (.int .u8 a2) (.int .u8 b2) (.slice A2 k3 c2)) none) := Lib.hid (gr_laid3n GZ.out (by have := HH.out; omega) _ _ _)
              have n0 := HL.out.c0
              have n1 := HL.out.c1
              have n2 := HL.out.c2

              unfold laid3 at n0 n1 n2
              refine bodyPost_ret (v := .tuple #[.agg #[.int .u8 a2, .int .u8 b2, .slice A2 k3 c2], .bool true]) (by simp [results, Tryz.results105, go_sem, n0, n1, n2]) rfl ?_
              refine ⟨_, _, _, _, _, rfl, HG.out, fun q hq => ?_⟩
              cases hq
              exact HX.out.keep (fun b _ hl => HG.out.block b hl (by simp)) (fun b hb _ => .inl hb) _ _
          · obtain rfl : o = some u := by rw [← HO2.out, rNeut_42, if_pos (show s.digIs 49 = true from HD1.out)]
            go_wp2_with fail
            have HL := Lib.hid (KRwy.out.laid (x' := .int .u8 a3) (y' := .int .u8 b3) (z' := .slice A3 k4 c3))
            have HG : Hid (w.grownBy (laid3 wy (h0 + 1) (.int .u8 a3) (.int .u8 b3) (.slice A3 k4 c3)) none) := Lib.hid (gr_laid3n GY.out (by have := HH.out; omega) _ _ _)
            have n0 := HL.out.c0
            have n1 := HL.out.c1
            have n2 := HL.out.c2

            unfold laid3 at n0 n1 n2
            refine bodyPost_ret (v := .tuple #[.agg #[.int .u8 a3, .int .u8 b3, .slice A3 k4 c3], .bool true]) (by simp [results, Tryz.results105, go_sem, n0, n1, n2]) rfl ?_
            refine ⟨_, _, _, _, _, rfl, HG.out, fun q hq => ?_⟩
            cases hq
            exact HY.out.keep (fun b _ hl => HG.out.block b hl (by simp)) (fun b hb _ => .inl hb) _ _
        · by_cases h45 : a = 45
          · subst h45
            obtain ⟨d2, hd2⟩ : ∃ r, u.digIs (48 + 0) = r := ⟨_, rfl⟩
            have HD2 := Lib.hid hd2
            clear hd2
            go_wp2_with fail
            go_region_held3 (fun w' => w'.cell? ⟨bx, 0, none⟩ = some (.int .u8 a2) ∧ w'.cell? ⟨bx, 1, none⟩ = some (.int .u8 b2) ∧ w'.cell? ⟨bx, 2, none⟩ = some (.slice A2 k3 c2) ∧ w'.cell? ⟨bY, 0, none⟩ = some (.int .u8 a3) ∧ w'.cell? ⟨bY, 1, none⟩ = some (.int .u8 b3) ∧ w'.cell? ⟨bY, 2, none⟩ = some (.slice A3 k4 c3)) (go_keep)
              (first
                | (go_at_call 123
                   (with_reducible refine (HDY.out 0 _ ?_).mono ?_)
                   · exact GX.out.trans (gr_drewN wc 1 none)
                   rintro e wz ⟨rfl, hgz⟩
                   have GZ := Lib.hid ((GX.out.trans (gr_drewN wc 1 none)).trans hgz)
                   have hgg := ((gr_drewN wc 1 none).trans hgz)
                   have KRwz := Lib.hid (KR.out.grown hgg (by simp))
                   have KXwz := Lib.hid (KX.out.grown hgg (by simp))
                   have KYwz := Lib.hid (KY.out.grown hgg (by simp))
                   have x0wz := KXwz.out.c0
                   have x1wz := KXwz.out.c1
                   have x2wz := KXwz.out.c2
                   have y0wz := KYwz.out.c0
                   have y1wz := KYwz.out.c1
                   have y2wz := KYwz.out.c2
                   have r0wz := KRwz.out.c0
                   have r1wz := KRwz.out.c1
                   have r2wz := KRwz.out.c2
                   have f0wz := KRwz.out.f 0
                   have f1wz := KRwz.out.f 1
                   have f2wz := KRwz.out.f 2
                   have xx0 := fun (v0 v1 v2 : Value) => (KXwz.out.aside (g := h0 + 1) (u := v0) (v := v1) (t := v2) HNX.out).c0
                   have xx1 := fun (v0 v1 v2 : Value) => (KXwz.out.aside (g := h0 + 1) (u := v0) (v := v1) (t := v2) HNX.out).c1
                   have xx2 := fun (v0 v1 v2 : Value) => (KXwz.out.aside (g := h0 + 1) (u := v0) (v := v1) (t := v2) HNX.out).c2
                   have yy0 := fun (v0 v1 v2 : Value) => (KYwz.out.aside (g := h0 + 1) (u := v0) (v := v1) (t := v2) HNY.out).c0
                   have yy1 := fun (v0 v1 v2 : Value) => (KYwz.out.aside (g := h0 + 1) (u := v0) (v := v1) (t := v2) HNY.out).c1
                   have yy2 := fun (v0 v1 v2 : Value) => (KYwz.out.aside (g := h0 + 1) (u := v0) (v := v1) (t := v2) HNY.out).c2
                   simp only [laid3] at xx0 xx1 xx2 yy0 yy1 yy2
                   clear hgz hgg))
            go_wp2_with fail
            rw [show u.digIs 48 = d2 from HD2.out]
            cases d2
            · obtain rfl : o = none := by rw [← HO2.out, rNeut_45, if_neg (by rw [show u.digIs 48 = false from HD2.out]; decide)]
              have HL := Lib.hid (KRwz.out.laid (x' := .int .u8 a2) (y' := .int .u8 b2) (z' := .slice A2 k3 c2))
              have HG : Hid (w.grownBy (laid3 wz (h0 + 1) (.int .u8 a2) (.int .u8 b2) (.slice A2 k3 c2)) none) := Lib.hid (gr_laid3n GZ.out (by have := HH.out; omega) _ _ _)
              have n0 := HL.out.c0
              have n1 := HL.out.c1
              have n2 := HL.out.c2

              unfold laid3 at n0 n1 n2
              refine bodyPost_ret (v := .tuple #[.agg #[.int .u8 a2, .int .u8 b2, .slice A2 k3 c2], .bool false]) (by simp [results, Tryz.results105, go_sem, n0, n1, n2]) rfl ?_
              exact ⟨_, _, _, _, _, rfl, HG.out, fun q hq => by cases hq⟩
            · obtain rfl : o = some s := by rw [← HO2.out, rNeut_45, if_pos (show u.digIs 48 = true from HD2.out)]
              have HL := Lib.hid (KRwz.out.laid (x' := .int .u8 a2) (y' := .int .u8 b2) (z' := .slice A2 k3 c2))
              have HG : Hid (w.grownBy (laid3 wz (h0 + 1) (.int .u8 a2) (.int .u8 b2) (.slice A2 k3 c2)) none) := Lib.hid (gr_laid3n GZ.out (by have := HH.out; omega) _ _ _)
              have n0 := HL.out.c0
              have n1 := HL.out.c1
              have n2 := HL.out.c2

              unfold laid3 at n0 n1 n2
              refine bodyPost_ret (v := .tuple #[.agg #[.int .u8 a2, .int .u8 b2, .slice A2 k3 c2], .bool true]) (by simp [results, Tryz.results105, go_sem, n0, n1, n2]) rfl ?_
              refine ⟨_, _, _, _, _, rfl, HG.out, fun q hq => ?_⟩
              cases hq
              exact HX.out.keep (fun b _ hl => HG.out.block b hl (by simp)) (fun b hb _ => .inl hb) _ _
          · obtain rfl : o = none := by rw [← HO2.out, rNeut_ot (fun e => h43 (.inl e)) (fun e => h43 (.inr e)) h42 h45]
            have e1 : (a == 43) = false := by rw [beq_eq_false_iff_ne]; exact fun e => h43 (.inl e)
            have e2 : (a == 94) = false := by rw [beq_eq_false_iff_ne]; exact fun e => h43 (.inr e)
            have e3 : (a == 42) = false := by rw [beq_eq_false_iff_ne]; exact h42
            have e4 : (a == 45) = false := by rw [beq_eq_false_iff_ne]; exact h45
            go_wp2_with fail
            have HL := Lib.hid (KR.out.laid (x' := .int .u8 0) (y' := .int .u8 0) (z' := .slice none 0 0))
            have HG : Hid (w.grownBy (laid3 wc (h0 + 1) (.int .u8 0) (.int .u8 0) (.slice none 0 0)) none) := Lib.hid (gr_laid3n GX.out (by have := HH.out; omega) _ _ _)
            have n0 := HL.out.c0
            have n1 := HL.out.c1
            have n2 := HL.out.c2
            
            unfold laid3 at n0 n1 n2
            refine bodyPost_ret (v := .tuple #[.agg #[.int .u8 0, .int .u8 0, .slice none 0 0], .bool false]) (by simp [results, Tryz.results105, go_sem, n0, n1, n2]) rfl ?_
            exact ⟨_, _, _, _, _, rfl, HG.out, fun q hq => by cases hq⟩
end

/- SRlF -/
section
open Go.RowKit

theorem gr_lay (w : World) (b : Nat) (x y z : Value) : w.grownBy (laid3 w b x y z) (some b) := ((gr_set w b 0 x).trans (gr_set _ b 1 y)).trans (gr_set _ b 2 z)
theorem SN.dig48 {w : World} {S : Nat → Prop} {t : Tm} {b : Int} {sv : Value} (ho : t.Ok) (h : SN w S t (48, b, sv)) : t = .dig b := by
  rcases h.kind ho with ⟨_, c, rfl⟩ | ⟨h1, _⟩ | ⟨h1, _⟩ | ⟨h1, _⟩ | ⟨h1, _⟩
  · rw [show b = c from h.2.1]
  · omega
  · cases h1
  · cases h1
  · omega
theorem SN.nodig {w : World} {S : Nat → Prop} {t : Tm} {a b : Int} {sv : Value} (h : SN w S t (a, b, sv)) (ha : a ≠ 48) : t.isDgt = false := by
  cases t <;> first | rfl | exact absurd h.1 ha

set_option maxRecDepth 100000 in
set_option maxHeartbeats 8000000 in
theorem srfold_any (t : Tm) (S : Nat → Prop) (a b : Int) (A : Option Addr) (k c : Nat) (w : World) (ho : t.Ok) (_hS : ∀ x, S x → x < w.heap.size) (h : SN w S t (a, b, .slice A k c)) :
    Calls Tryz.prog 104 #[.agg #[.int .u8 a, .int .u8 b, .slice A k c]] w (SRuP (rFold t) S w) := by
  obtain ⟨h0, hh⟩ : ∃ h, w.heap.size = h := ⟨_, rfl⟩
  obtain ⟨w1, hw1⟩ : ∃ w1, w.alloc (.cells #[.int .u8 a, .int .u8 b, .slice A k c] TN) = w1 := ⟨_, rfl⟩
  have z1 : w1.heap.size = h0 + 1 := by rw [← hw1, World.size_alloc, hh]
  obtain ⟨w2, hw2⟩ : ∃ w2, w1.alloc (.cells #[.int .u8 0, .int .u8 0, .slice none 0 0] TN) = w2 := ⟨_, rfl⟩
  have z2 : w2.heap.size = h0 + 2 := by rw [← hw2, World.size_alloc, z1]
  have k1 : C3 w2 h0 (.int .u8 a) (.int .u8 b) (.slice A k c) TN := by rw [← hw2, ← hw1, ← hh]; exact (c3_new _ _ _ _ _).alloc _
  have k2 : C3 w2 (h0 + 1) (.int .u8 0) (.int .u8 0) (.slice none 0 0) TN := by rw [← hw2, ← z1]; exact c3_new _ _ _ _ _
  have g2 : w.grownBy w2 none := by rw [← hw2, ← hw1]; exact (World.grownBy_alloc _ _ none).trans (World.grownBy_alloc _ _ none)
  have K2 := Lib.hid k2
  have G2 := Lib.hid g2
  have HH := Lib.hid hh
  have p0 := k1.c0
  have p1 := k1.c1
  have p2 := k1.c2
  have r0 := k2.c0
  have r1 := k2.c1
  have r2 := k2.c2
  have f0 := k2.f 0
  have f1 := k2.f 1
  have f2 := k2.f 2
  cases hl : t.isTwo with
  | false =>
    rw [rFold_no hl]
    cases h2 : t.isLp with
    | true =>
      have hk : ((k : Int) != 2) = false := by
        rw [h.cnt]
        cases t <;> simp [Tm.kids, Tm.isLp] at h2 ⊢
      have hb := h.name0 ho h2
      clear h k1 k2 g2 ho _hS hl h2
      go_enter Tryz.func104, Tryz.ntmps104
      go_wp2_with fail
      have HL := Lib.hid (K2.out.laid (x' := .int .u8 0) (y' := .int .u8 0) (z' := .slice none 0 0))
      have HG : Hid (w.grownBy (laid3 w2 (h0 + 1) (.int .u8 0) (.int .u8 0) (.slice none 0 0)) none) := Lib.hid (gr_laid3n G2.out (by have := HH.out; omega) _ _ _)
      have n0 := HL.out.c0
      have n1 := HL.out.c1
      have n2 := HL.out.c2
      clear f0 f1 f2
      unfold laid3 at n0 n1 n2
      refine bodyPost_ret (v := .tuple #[.agg #[.int .u8 0, .int .u8 0, .slice none 0 0], .bool false]) (by simp [results, Tryz.results104, go_sem, n0, n1, n2]) rfl ?_
      exact ⟨_, _, _, _, _, rfl, HG.out, fun q hq => by cases hq⟩
    | false =>
      have hk : ((k : Int) != 2) = true := by rw [h.cnt]; exact kids_two hl h2
      clear h k1 k2 g2 ho _hS hl h2
      go_enter Tryz.func104, Tryz.ntmps104
      go_wp2_with fail
      have HL := Lib.hid (K2.out.laid (x' := .int .u8 0) (y' := .int .u8 0) (z' := .slice none 0 0))
      have HG : Hid (w.grownBy (laid3 w2 (h0 + 1) (.int .u8 0) (.int .u8 0) (.slice none 0 0)) none) := Lib.hid (gr_laid3n G2.out (by have := HH.out; omega) _ _ _)
      have n0 := HL.out.c0
      have n1 := HL.out.c1
      have n2 := HL.out.c2
      clear f0 f1 f2
      unfold laid3 at n0 n1 n2
      refine bodyPost_ret (v := .tuple #[.agg #[.int .u8 0, .int .u8 0, .slice none 0 0], .bool false]) (by simp [results, Tryz.results104, go_sem, n0, n1, n2]) rfl ?_
      exact ⟨_, _, _, _, _, rfl, HG.out, fun q hq => by cases hq⟩
  | true =>
    obtain ⟨d, s, u, rfl⟩ : ∃ d s u, t = .two d s u := by cases t <;> first | exact ⟨_, _, _, rfl⟩ | cases hl
    obtain ⟨g, a2, b2, A2, k3, c2, rfl, hg, hk0, q0, q1, q2, hs⟩ := h.part (j := 0) (x := s) rfl
    obtain ⟨g', a3, b3, A3, k4, c3, hgg, hg', hk1, t0, t1, t2, hu⟩ := h.part (j := 1) (x := u) rfl
    cases hgg
    simp only [Nat.zero_mul, Nat.zero_add, Nat.one_mul] at q0 q1 q2 t0 t1 t2
    obtain rfl : a = d := h.1
    obtain rfl : b = 0 := h.2.1
    have hk : ((k : Int) != 2) = false := by rw [h.cnt]; rfl
    have hk0i : (0 : Int) < (k : Int) := by omega
    have hk1i : (1 : Int) < (k : Int) := by omega
    have hgs := _hS g hg
    have l0 := g2.cell t0 (by simp)
    have l1 := g2.cell t1 (by simp)
    have m0 := g2.cell q0 (by simp)
    have m1 := g2.cell q1 (by simp)
    by_cases h64 : a = 64
    · subst h64
      rw [rFold_at]
      clear h k1 k2 g2 ho _hS hl hs hg q0 q1 q2 hg' t0 t1 t2 hu
      go_enter Tryz.func104, Tryz.ntmps104
      go_wp2_with fail
      have HL := Lib.hid (K2.out.laid (x' := .int .u8 0) (y' := .int .u8 0) (z' := .slice none 0 0))
      have HG : Hid (w.grownBy (laid3 w2 (h0 + 1) (.int .u8 0) (.int .u8 0) (.slice none 0 0)) none) := Lib.hid (gr_laid3n G2.out (by have := HH.out; omega) _ _ _)
      have n0 := HL.out.c0
      have n1 := HL.out.c1
      have n2 := HL.out.c2
      clear f0 f1 f2
      unfold laid3 at n0 n1 n2
      refine bodyPost_ret (v := .tuple #[.agg #[.int .u8 0, .int .u8 0, .slice none 0 0], .bool false]) (by simp [results, Tryz.results104, go_sem, n0, n1, n2]) rfl ?_
      exact ⟨_, _, _, _, _, rfl, HG.out, fun q hq => by cases hq⟩
    · have b64 : (a == 64) = false := by rw [beq_eq_false_iff_ne]; exact h64
      by_cases h48 : a2 = 48
      · subst h48
        obtain rfl := hs.dig48 ho.2.1
        by_cases h49 : a3 = 48
        · subst h49
          obtain rfl := hu.dig48 ho.2.2
          have hm := isD_ge ho.2.1
          have hn := isD_ge ho.2.2
          have hpos := arith_pos (c := a) (show 0 ≤ b2 - 48 by omega) (show 0 ≤ b3 - 48 by omega)
          have hhi := arith_hi (c := a) (show 0 ≤ b2 - 48 by omega) (show 0 ≤ b3 - 48 by omega) (by omega) (by omega)
          have HNUM := Lib.hid (fun w => snum_any a (b2 - 48) (b3 - 48) w (by omega) (by omega) (by omega) (by omega))
          have HCON := Lib.hid (fun w => sconst_any (arith a (b2 - 48) (b3 - 48)) S w hpos hhi)
          have wa1 : IntKind.i64.wrap b2 = b2 := IntWalk.i64_in _ (by omega)
          have wa2 : IntKind.i64.wrap (b2 - 48) = b2 - 48 := IntWalk.i64_in _ (by omega)
          have wa3 : IntKind.i64.wrap b3 = b3 := IntWalk.i64_in _ (by omega)
          have wa4 : IntKind.i64.wrap (b3 - 48) = b3 - 48 := IntWalk.i64_in _ (by omega)
          have HSS := Lib.hid _hS
          have K1 := Lib.hid k1
          have HR : Hid (rFold (.two a (.dig b2) (.dig b3)) = if arith a (b2 - 48) (b3 - 48) ≤ 9 then some (.dig (48 + arith a (b2 - 48) (b3 - 48))) else none) := Lib.hid (by simp [rFold, h64])
          obtain ⟨o, ho2⟩ : ∃ o, rFold (.two a (.dig b2) (.dig b3)) = o := ⟨_, rfl⟩
          rw [ho2] at HR ⊢
          rw [← HR.out] at HCON
          have M1 := Lib.hid m1
          have L1 := Lib.hid l1
          have hne1 : g ≠ h0 + 1 := by omega
          have HNE := Lib.hid hne1
          generalize arith a (b2 - 48) (b3 - 48) = z at HNUM HCON hpos hhi
          clear h k1 k2 g2 ho _hS hl hs hg q0 q1 q2 hg' t0 t1 t2 hu h64 HR ho2 hne1
          go_enter Tryz.func104, Tryz.ntmps104
          go_upto_region 3 with fail
          go_region_held3 (fun w' => w'.cell? ⟨h0, 0, none⟩ = some (.int .u8 a) ∧ w'.cell? ⟨h0, 2, none⟩ = some (.slice (some ⟨g, 0, none⟩) k c) ∧ w'.cell? ⟨g, 1, none⟩ = some (.int .u8 b2) ∧ w'.cell? ⟨g, 3 + 1, none⟩ = some (.int .u8 b3)) (go_keep)
            (first
              | (go_at_call 122
                 (with_reducible refine (HNUM.out _).mono ?_)
                 rintro e wy ⟨rfl, rfl⟩)
              | (go_at_call 121
                 (with_reducible refine (HCON.out _).mono ?_)
                 rintro e wz ⟨a5, b5, A5, k5, c5, rfl, hgz, hqz⟩
                 have hgg := (gr_drewN w2 1 none).trans hgz
                 have GZ := Lib.hid (G2.out.trans hgg)
                 have HQZ := Lib.hid hqz
                 have HGZ := Lib.hid hgz
                 have KRZ := Lib.hid (K2.out.grown hgg (by simp))
                 have i0 := (K1.out.grown hgg (by simp)).c0
                 have i2 := (K1.out.grown hgg (by simp)).c2
                 have i3 := hgg.cell M1.out (by simp)
                 have i4 := hgg.cell L1.out (by simp)
                 have j0 := fun (u v t : Value) => (gr_lay wz (h0 + 1) u v t).cell i0 (by simp)
                 have j2 := fun (u v t : Value) => (gr_lay wz (h0 + 1) u v t).cell i2 (by simp)
                 have j3 := fun (u v t : Value) => (gr_lay wz (h0 + 1) u v t).cell i3 (by simp; exact HNE.out)
                 have j4 := fun (u v t : Value) => (gr_lay wz (h0 + 1) u v t).cell i4 (by simp; exact HNE.out)
                 simp only [laid3] at j0 j2 j3 j4
                 have r0z := KRZ.out.c0
                 have r1z := KRZ.out.c1
                 have r2z := KRZ.out.c2
                 have f0z := KRZ.out.f 0
                 have f1z := KRZ.out.f 1
                 have f2z := KRZ.out.f 2
                 clear hgz hqz hgg))
          go_wp2_with fail
          have HL := Lib.hid (KRZ.out.laid (x' := .int .u8 a5) (y' := .int .u8 b5) (z' := .slice A5 k5 c5))
          have HG : Hid (w.grownBy (laid3 wz (h0 + 1) (.int .u8 a5) (.int .u8 b5) (.slice A5 k5 c5)) none) := Lib.hid (gr_laid3n GZ.out (by have := HH.out; omega) _ _ _)
          have n0 := HL.out.c0
          have n1 := HL.out.c1
          have n2 := HL.out.c2
          
          unfold laid3 at n0 n1 n2
          refine bodyPost_ret (v := .tuple #[.agg #[.int .u8 a5, .int .u8 b5, .slice A5 k5 c5], .bool o.isSome]) (by simp [results, Tryz.results104, go_sem, n0, n1, n2]) rfl ?_
          refine ⟨_, _, _, _, _, rfl, HG.out, fun q hq => ?_⟩
          refine (HQZ.out q hq).keep (fun b hb hl => laid3_heap _ _ _ _ _ _ ?_) (fun b hb _ => ?_) _ _
          · rcases hb with hb | hb
            · have := HSS.out b hb; have := HH.out; omega
            · have := KRZ.out.lt; have h1 : (World.drew w2).heap.size = h0 + 2 := z2; omega
          · rcases hb with hb | hb
            · exact .inl hb
            · exact .inr (by have h1 : (World.drew w2).heap.size = h0 + 2 := z2; have := HH.out; omega)
        · have hb : (a3 != 48) = true := by simp [h49]
          rw [rFold_r (hu.nodig h49)]
          clear h k1 k2 g2 ho _hS hl hs hg q0 q1 q2 hg' t0 t1 t2 hu h64 h49
          go_enter Tryz.func104, Tryz.ntmps104
          go_wp2_with fail
          have HL := Lib.hid (K2.out.laid (x' := .int .u8 0) (y' := .int .u8 0) (z' := .slice none 0 0))
          have HG : Hid (w.grownBy (laid3 w2 (h0 + 1) (.int .u8 0) (.int .u8 0) (.slice none 0 0)) none) := Lib.hid (gr_laid3n G2.out (by have := HH.out; omega) _ _ _)
          have n0 := HL.out.c0
          have n1 := HL.out.c1
          have n2 := HL.out.c2
          clear f0 f1 f2
          unfold laid3 at n0 n1 n2
          refine bodyPost_ret (v := .tuple #[.agg #[.int .u8 0, .int .u8 0, .slice none 0 0], .bool false]) (by simp [results, Tryz.results104, go_sem, n0, n1, n2]) rfl ?_
          exact ⟨_, _, _, _, _, rfl, HG.out, fun q hq => by cases hq⟩
      · have hb : (a2 != 48) = true := by simp [h48]
        rw [rFold_l (hs.nodig h48)]
        clear h k1 k2 g2 ho _hS hl hs hg q0 q1 q2 hg' t0 t1 t2 hu h64 h48
        go_enter Tryz.func104, Tryz.ntmps104
        go_wp2_with fail
        have HL := Lib.hid (K2.out.laid (x' := .int .u8 0) (y' := .int .u8 0) (z' := .slice none 0 0))
        have HG : Hid (w.grownBy (laid3 w2 (h0 + 1) (.int .u8 0) (.int .u8 0) (.slice none 0 0)) none) := Lib.hid (gr_laid3n G2.out (by have := HH.out; omega) _ _ _)
        have n0 := HL.out.c0
        have n1 := HL.out.c1
        have n2 := HL.out.c2
        clear f0 f1 f2
        unfold laid3 at n0 n1 n2
        refine bodyPost_ret (v := .tuple #[.agg #[.int .u8 0, .int .u8 0, .slice none 0 0], .bool false]) (by simp [results, Tryz.results104, go_sem, n0, n1, n2]) rfl ?_
        exact ⟨_, _, _, _, _, rfl, HG.out, fun q hq => by cases hq⟩
end

/- SCnt -/
section
open Go.RowKit

/-- How often it stands in each part. -/
def usL : Tm → Int → List Nat
  | .dig _, _ => []
  | .var _, _ => []
  | .pre _ s, v => [s.uses v]
  | .two _ s t, v => [s.uses v, t.uses v]
  | .loop _ x s t, v => [s.uses v, if x = v then 0 else 2 * t.uses v]
theorem usL_len (t : Tm) (v : Int) : (usL t v).length = t.kids.length := by cases t <;> rfl
theorem usL_sum {t : Tm} (h : t.isV = false) (v : Int) : t.uses v = (usL t v).sum := by
  cases t with
  | var c => cases h
  | dig c => rfl
  | pre c s => simp [Tm.uses, usL]
  | two c s t => simp [Tm.uses, usL]
  | loop c i s t => simp [Tm.uses, usL]
theorem usL_at {w : World} {S : Nat → Prop} {t : Tm} {a b v : Int} {sv : Value} {j : Nat} {x : Tm} (ho : t.Ok) (h : SN w S t (a, b, sv)) (hv : 0 < v) (hj : t.kids[j]? = some x) :
    (usL t v)[j]? = some (if j = 1 ∧ b = v then 0 else if j = 1 ∧ b ≠ 0 then 2 * x.uses v else x.uses v) ∧ (¬ (j = 1 ∧ b = v) → x.uses v ≤ t.uses v) := by
  cases t with
  | dig c => simp [Tm.kids] at hj
  | var c => simp [Tm.kids] at hj
  | pre c s =>
    match j, hj with
    | 0, h => simp [Tm.kids] at h; subst h; simp [usL, Tm.uses]
    | j + 1, h => simp [Tm.kids] at h
  | two c s t =>
    obtain ⟨_, h2, _⟩ := h
    simp only at h2
    subst h2
    match j, hj with
    | 0, h => simp [Tm.kids] at h; subst h; simp [usL, Tm.uses]
    | 1, h =>
      simp [Tm.kids] at h; subst h
      have : ¬ (0 = v) := by omega
      simp [usL, Tm.uses, this]
    | j + 2, h => simp [Tm.kids] at h
  | loop c i s t =>
    obtain ⟨_, h2, _⟩ := h
    simp only at h2
    subst h2
    match j, hj with
    | 0, h => simp [Tm.kids] at h; subst h; simp [usL, Tm.uses]
    | 1, h =>
      simp [Tm.kids] at h; subst h
      by_cases hb : b = v
      · subst hb; simp [usL]
      · by_cases h0 : b = 0
        · have := isL_ge ho.2.1; omega
        · simp [usL, Tm.uses, hb, h0]; omega
    | j + 2, h => simp [Tm.kids] at h

theorem sum_step : ∀ {l : List Nat} {j x : Nat}, l[j]? = some x → (l.take (j + 1)).sum = (l.take j).sum + x
  | [], _, _, h => by simp at h
  | a :: l, 0, x, h => by simp at h; subst h; simp
  | a :: l, j + 1, x, h => by
    have := sum_step (l := l) (j := j) (by simpa using h)
    simp only [List.take_succ_cons, List.sum_cons, this]; omega
theorem sum_take : ∀ (l : List Nat) (j : Nat), (l.take j).sum ≤ l.sum
  | [], j => by simp
  | a :: l, 0 => by simp
  | a :: l, j + 1 => by have := sum_take l j; simp only [List.take_succ_cons, List.sum_cons]; omega

/-- How it ends. -/
def SCnP (x : Nat) (w : World) (e : Ending) (w' : World) : Prop := e = .returned (.int .i64 (x : Int)) ∧ w.grownBy w' none

set_option maxRecDepth 100000 in
set_option maxHeartbeats 4000000 in
theorem scnt_any : ∀ (n : Nat) (t : Tm) (S : Nat → Prop) (a b : Int) (A : Option Addr) (k c : Nat) (v : Int) (w : World), t.size ≤ n → t.Ok → 0 < v → t.uses v ≤ 1000000 → SN w S t (a, b, .slice A k c) →
    Calls Tryz.prog 124 #[.agg #[.int .u8 a, .int .u8 b, .slice A k c], .int .u8 v] w (SCnP (t.uses v) w)
  | 0, t, S, a, b, A, k, c, v, w, hn, _, _, _, h => by have := t.size_pos; omega
  | n + 1, t, S, a, b, A, k, c, v, w, hn, hok, hv0, hus, h => by
    have HI := Lib.hid (scnt_any n)
    cases hvr : t.isV with
    | true =>
      cases t <;> try cases hvr
      rename_i cc
      obtain ⟨h1, h2, h3, _⟩ := h
      simp only at h1 h2
      subst h1 h2
      have HX := Lib.hid (c3_new w (.int .u8 97) (.int .u8 b) (.slice A k c) 57)
      have x0 := HX.out.c0
      have x1 := HX.out.c1
      have x2 := HX.out.c2
      obtain rfl : k = 0 := by obtain ⟨hk, -, -⟩ := srow3 (xs := []) h3; exact hk
      clear h3 hn hus
      by_cases hbv : b = v
      · subst hbv
        have hb : (b == b) = true := by simp
        rw [show (Tm.var b).uses b = 1 by simp [Tm.uses]]
        go_enter Tryz.func124, Tryz.ntmps124
        go_wp2_with fail
        go_ret
        exact ⟨rfl, World.grownBy_alloc _ _ _⟩
      · have hb : (b == v) = false := by rw [beq_eq_false_iff_ne]; exact hbv
        rw [show (Tm.var b).uses v = 0 by simp [Tm.uses, hbv]]
        go_enter Tryz.func124, Tryz.ntmps124
        go_wp2_with fail
        go_loopw [5, 21] (fun u i wr => i = .int .i64 0 ∧ u = .int .i64 0 ∧ Hid (w.grownBy wr none)) (fun _ _ _ => 0)
        case atStart => exact ⟨rfl, rfl, Lib.hid (World.grownBy_alloc _ _ _)⟩
        case round =>
          obtain ⟨rfl, rfl, hgr⟩ := hrel
          go_wp2_with fail
          go_ret
          exact ⟨rfl, hgr.out⟩
    | false =>
      have HA97 : (a == 97) = false := by rw [beq_eq_false_iff_ne]; exact h.novar hok hvr
      have HUS := Lib.hid (usL_sum hvr v)
      have HUL := Lib.hid (fun (j : Nat) (x : Tm) (hj : t.kids[j]? = some x) => usL_at hok h hv0 hj)
      have HKS := Lib.hid (csum_kids t)
      have HN := Lib.hid hn
      have HOK := Lib.hid hok
      have HU := Lib.hid hus
      obtain ⟨xs, ho, ha⟩ := h.kids
      obtain ⟨hk, hkc, hrow⟩ := srow3 ho
      have hlen := All2.length _ _ ha
      have HKL := Lib.hid hk
      have HLEN := Lib.hid hlen
      have HROW := Lib.hid hrow
      have HA := Lib.hid ha
      have hk2 : k ≤ 2 := by have := kids_len t; omega
      have HX := Lib.hid (c3_new w (.int .u8 a) (.int .u8 b) (.slice A k c) 57)
      have x0 := HX.out.c0
      have x2 := HX.out.c2
      have HX1 := Lib.hid HX.out.c1
      clear h hn ho ha hk hrow hlen hok hus
      go_enter Tryz.func124, Tryz.ntmps124
      go_wp2_with fail
      go_loopw [5, 21] (fun u i wr => ∃ j m : Nat, j ≤ k ∧ i = .int .i64 j ∧ u = .int .i64 m ∧ m ≤ 1000000 ∧ Hid (m = ((usL t v).take j).sum) ∧ Hid ((w.alloc (.cells #[.int .u8 a, .int .u8 b, .slice A k c] 57)).grownBy wr none)) (fun _ i _ => k - (intOf i).toNat)
      case atStart => exact ⟨0, 0, Nat.zero_le _, rfl, rfl, by omega, Lib.hid (by simp), Lib.hid (gr_refl _ _)⟩
      case round =>
        obtain ⟨j, m, hj, rfl, rfl, hm9, hm, hgr⟩ := hrel
        have HGR := Lib.hid ((World.grownBy_alloc w (.cells #[.int .u8 a, .int .u8 b, .slice A k c] 57) none).trans hgr.out)
        by_cases hlt : j < k
        · obtain ⟨g, rfl, hg1, hcell⟩ := HROW.out (by omega)
          obtain ⟨tj, ⟨a2, b2, sv2⟩, htj, hxj, hpj⟩ := HA.out.get (j := j) (by have := HKL.out; omega)
          obtain ⟨A2, k2, c2, hsv⟩ := hpj.form
          simp only at hsv
          subst hsv
          obtain ⟨q0, q1, q2⟩ := hcell j _ hxj
          have hc0 := HGR.out.cell q0 (by simp)
          have hc1 := HGR.out.cell q1 (by simp)
          have hc2 := HGR.out.cell q2 (by simp)
          have x1r := (hgr.out.trans (World.grownBy_alloc wr (.cells #[.int .u8 a2, .int .u8 b2, .slice A2 k2 c2] 57) none)).cell HX1.out (by simp)
          have HP := Lib.hid ((hpj.grown HGR.out).grown (World.grownBy_alloc wr (.cells #[.int .u8 a2, .int .u8 b2, .slice A2 k2 c2] 57) none))
          have HUJ := Lib.hid (HUL.out j tj htj)
          have HST := Lib.hid (sum_step HUJ.out.1)
          have hbd : tj.size ≤ n := by
            have hst := csum_step htj
            have hlq := csum_take t.kids (j + 1)
            have hks2 := HKS.out
            have hn3 := HN.out
            omega
          have HTOK := Lib.hid (kids_ok' HOK.out (List.mem_of_getElem? htj))
          have HTK := Lib.hid (sum_take (usL t v) (j + 1))
          obtain ⟨z, hz⟩ : ∃ z, tj.uses v = z := ⟨_, rfl⟩
          rw [hz] at HUJ HST
          have HZ := Lib.hid hz
          have HBD := Lib.hid hbd
          clear htj hxj q0 q1 q2 hcell hpj hz x2 hbd
          by_cases hj1 : j = 1 ∧ b = v
          · have hji : ((j : Int) == 1) = true := by rw [beq_iff_eq]; omega
            have hbv : (b == v) = true := by rw [beq_iff_eq]; exact hj1.2
            have HST2 : Hid (((usL t v).take (j + 1)).sum = ((usL t v).take j).sum) := Lib.hid (by rw [HST.out, if_pos hj1]; rfl)
            clear hj1
            go_wp2_with fail
            go_roundw
            case rel => exact ⟨j + 1, m, by omega, by go_num, rfl, hm9, Lib.hid (by rw [HST2.out, hm.out]), Lib.hid (hgr.out.trans (World.grownBy_alloc _ _ _))⟩
            case measure => simp [intOf]; omega
          · have HCALL := Lib.hid (HI.out tj _ a2 b2 A2 k2 c2 v _ HBD.out HTOK.out hv0 (Nat.le_trans (Nat.le_trans (Nat.le_of_eq HZ.out) (HUJ.out.2 hj1)) HU.out) HP.out)
            rw [HZ.out] at HCALL
            have hz9 : z ≤ 1000000 := Nat.le_trans (HUJ.out.2 hj1) HU.out
            rw [if_neg hj1] at HST
            by_cases hj1e : j = 1
            · have hji : ((j : Int) == 1) = true := by rw [beq_iff_eq]; omega
              have hbv : (b == v) = false := by rw [beq_eq_false_iff_ne]; exact fun e => hj1 ⟨hj1e, e⟩
              by_cases hb0 : b = 0
              · have hbn : (b != 0) = false := by simp [hb0]
                have HST2 : Hid (((usL t v).take (j + 1)).sum = ((usL t v).take j).sum + z) := Lib.hid (by rw [HST.out, if_neg (fun e => e.2 hb0)])
                have hmz : m + z ≤ 1000000 := by have h1 := HST2.out; have h2 := HTK.out; have h3 := hm.out; have h4 := HUS.out; have h5 := HU.out; omega
                clear hj1 hj1e hb0
                go_wp2_with fail
                refine HCALL.out.mono ?_
                rintro e w2 ⟨rfl, hg2⟩
                have HG2 := Lib.hid ((hgr.out.trans (World.grownBy_alloc wr _ none)).trans hg2)
                have x1 := HG2.out.cell HX1.out (by simp)
                clear hg2 hc0 hc1 hc2
                go_wp2_with fail
                go_roundw
                case rel => exact ⟨j + 1, m + z, by omega, by go_num, by go_num, hmz, Lib.hid (by rw [HST2.out, hm.out]), HG2⟩
                case measure => simp [intOf]; omega
              · have hbn : (b != 0) = true := by simp [hb0]
                have HST2 : Hid (((usL t v).take (j + 1)).sum = ((usL t v).take j).sum + 2 * z) := Lib.hid (by rw [HST.out, if_pos ⟨hj1e, hb0⟩])
                have hmz : m + 2 * z ≤ 1000000 := by have h1 := HST2.out; have h2 := HTK.out; have h3 := hm.out; have h4 := HUS.out; have h5 := HU.out; omega
                clear hj1 hj1e hb0
                go_wp2_with fail
                refine HCALL.out.mono ?_
                rintro e w2 ⟨rfl, hg2⟩
                have HG2 := Lib.hid ((hgr.out.trans (World.grownBy_alloc wr _ none)).trans hg2)
                have x1 := HG2.out.cell HX1.out (by simp)
                clear hg2 hc0 hc1 hc2
                go_wp2_with fail
                go_roundw
                case rel => exact ⟨j + 1, m + 2 * z, by omega, by go_num, by go_num, hmz, Lib.hid (by rw [HST2.out, hm.out]), HG2⟩
                case measure => simp [intOf]; omega
            · have hji : ((j : Int) == 1) = false := by rw [beq_eq_false_iff_ne]; omega
              have HST2 : Hid (((usL t v).take (j + 1)).sum = ((usL t v).take j).sum + z) := Lib.hid (by rw [HST.out, if_neg (fun e => hj1e e.1)])
              have hmz : m + z ≤ 1000000 := by have h1 := HST2.out; have h2 := HTK.out; have h3 := hm.out; have h4 := HUS.out; have h5 := HU.out; omega
              clear hj1 hj1e
              go_wp2_with fail
              refine HCALL.out.mono ?_
              rintro e w2 ⟨rfl, hg2⟩
              have HG2 := Lib.hid ((hgr.out.trans (World.grownBy_alloc wr _ none)).trans hg2)
              clear hg2 hc0 hc1 hc2
              go_wp2_with fail
              go_roundw
              case rel => exact ⟨j + 1, m + z, by omega, by go_num, by go_num, hmz, Lib.hid (by rw [HST2.out, hm.out]), HG2⟩
              case measure => simp [intOf]; omega
        · have hjk : j = k := by omega
          have HJ := Lib.hid hjk
          clear hjk
          go_wp2_with fail
          go_ret
          refine ⟨?_, HGR.out⟩
          have e1 : m = t.uses v := by
            rw [HUS.out, hm.out, HJ.out, List.take_of_length_le (by rw [usL_len, HLEN.out, HKL.out]; exact Nat.le_refl _)]
          rw [← e1]
          rfl
end

/- TSignF -/
section
open Go.RowKit

theorem own_len {w : World} {base : Nat} {e : TypeId} {size n : Nat} {A : Option Addr} {k c : Nat} {xs : List Value} (h : w.ownsRow base e size (.slice A k c) n xs) : k = n := by
  rcases h.2 with ⟨hv, hn⟩ | ⟨g, cap, cur, hv, _⟩
  · cases hv; exact hn.symm
  · cases hv; rfl
end

/- STxtA -/
section
section
open Go.RowKit

def STxtPost2 (X : ByteArray) (w u : World) (e : Ending) (w' : World) : Prop := e = .returned (.string X) ∧ w.grownBy w' none ∧ u.grownBy w' none

/-- A slice of one byte, in whatever world. -/
def OneB (v : Value) (w : World) (c : Int) : Prop := ∃ k, v = .slice (some ⟨k, 0, none⟩) 1 1 ∧ w.cell? ⟨k, 0, none⟩ = some (.int .u8 c)
theorem OneB.grown {v : Value} {w w' : World} {c : Int} (h : OneB v w c) (hg : w.grownBy w' none) : OneB v w' c := by
  obtain ⟨k, hv, hc⟩ := h
  exact ⟨k, hv, hg.cell hc (by simp)⟩
theorem conv_oneb {u : World} {k : Nat} {c : Int} (hc : u.cell? ⟨k, 0, none⟩ = some (.int .u8 c)) : (convert 22 9 (.slice (some ⟨k, 0, none⟩) 1 1)).run Tryz.prog u = .ok (.string (one c)) u := by
  refine run_convert_bytes_arg (P := Tryz.prog) _ 22 5 Tryz.underlying22 Tryz.underlying5 k 0 1 1 [c] rfl ?_ 9 Tryz.underlying9
  intro i hi
  obtain rfl : i = 0 := by omega
  exact hc

/-- What each operation of the loop's region answers. -/
def lval (n g : Nat) (a b a2 b2 a3 b3 : Int) (A2 A3 : Option Addr) (c k2 c2 k3 c3 : Nat) (X Y s1 s2 s3 s4 s5 s6 : ByteArray) : Nat → Value
  | 0 => .string (one a) | 1 => .pointer (some ⟨n, 1, none⟩) | 2 => .int .u8 b | 4 => .string (one b) | 5 => .string s1 | 6 => .string s2
  | 7 => .pointer (some ⟨n, 2, none⟩) | 8 => .slice (some ⟨g, 0, none⟩) 2 c | 9 => .pointer (some ⟨g, 0, none⟩) | 10 => .agg #[.int .u8 a2, .int .u8 b2, .slice A2 k2 c2] | 11 => .string X | 12 => .string s3 | 13 => .string s4
  | 14 => .pointer (some ⟨n, 2, none⟩) | 15 => .slice (some ⟨g, 0, none⟩) 2 c | 16 => .pointer (some ⟨g, 3, none⟩) | 17 => .agg #[.int .u8 a3, .int .u8 b3, .slice A3 k3 c3] | 18 => .string Y | 19 => .string s5
  | 20 => .pointer (some ⟨n, 0, none⟩) | 21 => .int .u8 a | 22 => .int .u8 (a + 2) | 24 => .string (one (a + 2)) | _ => .string s6
def lR (n g : Nat) (a b a2 b2 a3 b3 : Int) (A2 A3 : Option Addr) (c k2 c2 k3 c3 : Nat) (X Y s1 s2 s3 s4 s5 s6 : ByteArray) (i : Nat) (v : Value) (w : World) : Prop :=
  if i = 3 then OneB v w b else if i = 23 then OneB v w (a + 2) else v = lval n g a b a2 b2 a3 b3 A2 A3 c k2 c2 k3 c3 X Y s1 s2 s3 s4 s5 s6 i

set_option maxRecDepth 100000 in
set_option maxHeartbeats 8000000 in
theorem stxt_loop (t s r : Tm) (a b a2 b2 a3 b3 : Int) (A A2 A3 : Option Addr) (c k2 c2 k3 c3 : Nat) (w : World) (ha : a = 91 ∨ a = 123) (hb : (b != 0) = true) (ht : t.txt = byt a :: byt b :: 58 :: (s.txt ++ (62 :: (r.txt ++ [byt (a + 2)])))) (hl : t.txt.length ≤ 1000000)
    (ho : w.ownsRow 0 57 3 (.slice A 2 c) 2 (flat3 [(a2, b2, .slice A2 k2 c2), (a3, b3, .slice A3 k3 c3)]))
    (ih1 : ∀ u : World, w.grownBy u none → Calls Tryz.prog 31 #[.agg #[.int .u8 a2, .int .u8 b2, .slice A2 k2 c2]] u (STxtPost s u))
    (ih2 : ∀ u : World, w.grownBy u none → Calls Tryz.prog 31 #[.agg #[.int .u8 a3, .int .u8 b3, .slice A3 k3 c3]] u (STxtPost r u)) :
    Calls Tryz.prog 31 #[.agg #[.int .u8 a, .int .u8 b, .slice A 2 c]] w (STxtPost t w) := by
  have wa2 : IntKind.u8.wrap (a + 2) = a + 2 := by rcases ha with rfl | rfl <;> rfl
  obtain ⟨-, -, hrow⟩ := srow3 (xs := [(a2, b2, .slice A2 k2 c2), (a3, b3, .slice A3 k3 c3)]) ho
  obtain ⟨g, rfl, hg1, hcell⟩ := hrow (by omega)
  obtain ⟨q0, q1, q2⟩ := hcell 0 _ rfl
  obtain ⟨q3, q4, q5⟩ := hcell 1 _ rfl
  simp only [Nat.zero_mul, Nat.zero_add, Nat.one_mul] at q0 q1 q2 q3 q4 q5
  have HX := Lib.hid (c3_new w (.int .u8 a) (.int .u8 b) (.slice (some ⟨g, 0, none⟩) 2 c) 57)
  have x0 := HX.out.c0
  have x1 := HX.out.c1
  have x2 := HX.out.c2
  have x0b := (HX.out.alloc (.cells #[.int .u8 a] 5)).c0
  have x1b := (HX.out.alloc (.cells #[.int .u8 a] 5)).c1
  have x2b := (HX.out.alloc (.cells #[.int .u8 a] 5)).c2
  have HTX := Lib.hid ht
  have hcv := conv_byte (w.alloc (.cells #[.int .u8 a, .int .u8 b, .slice (some ⟨g, 0, none⟩) 2 c] 57)) a (w.heap.size + 1) (by simp)
  have HG := Lib.hid (gr_al (gr_al (gr_refl w none) (.cells #[.int .u8 a, .int .u8 b, .slice (some ⟨g, 0, none⟩) 2 c] 57)) (.cells #[.int .u8 a] 5))
  have h0 := HG.out.cell q0 (by simp)
  have h1 := HG.out.cell q1 (by simp)
  have h2 := HG.out.cell q2 (by simp)
  have h3 := HG.out.cell q3 (by simp)
  have h4 := HG.out.cell q4 (by simp)
  have h5 := HG.out.cell q5 (by simp)
  obtain ⟨X, hX⟩ : ∃ X, bytesOf s.txt = X := ⟨_, rfl⟩
  obtain ⟨Y, hY⟩ : ∃ Y, bytesOf r.txt = Y := ⟨_, rfl⟩
  have hXs : X.size ≤ 1000000 := by rw [← hX, bytesOf_size]; rw [ht] at hl; simp at hl; omega
  have hYs : Y.size ≤ 1000000 := by rw [← hY, bytesOf_size]; rw [ht] at hl; simp at hl; omega
  have HI1 : Hid (∀ (v u : World), w.grownBy v none → v.grownBy u none → Calls Tryz.prog 31 #[.agg #[.int .u8 a2, .int .u8 b2, .slice A2 k2 c2]] u (STxtPost2 X v u)) :=
    Lib.hid (fun v u hv hu => (ih1 u (hv.trans hu)).mono fun e w' ⟨he, hg⟩ => ⟨by rw [he, hX], hu.trans hg, hg⟩)
  have HI2 : Hid (∀ (v u : World), w.grownBy v none → v.grownBy u none → Calls Tryz.prog 31 #[.agg #[.int .u8 a3, .int .u8 b3, .slice A3 k3 c3]] u (STxtPost2 Y v u)) :=
    Lib.hid (fun v u hv hu => (ih2 u (hv.trans hu)).mono fun e w' ⟨he, hg⟩ => ⟨by rw [he, hY], hu.trans hg, hg⟩)
  have hoa : (one a).size ≤ 1 := by rw [one_size]; exact Nat.le_refl _
  have hob : (one b).size ≤ 1 := by rw [one_size]; exact Nat.le_refl _
  have hoc : (one (a + 2)).size ≤ 1 := by rw [one_size]; exact Nat.le_refl _
  have HXE := Lib.hid hX
  have HYE := Lib.hid hY
  clear ht hcell hrow ho ih1 ih2 q0 q1 q2 q3 q4 q5 hX hY hl ha
  go_enter Tryz.func31, Tryz.ntmps31
  go_wp2_with fail
  have hbz : w.heap.size < ((w.alloc (.cells #[.int .u8 a, .int .u8 b, .slice (some ⟨g, 0, none⟩) 2 c] 57)).alloc (.cells #[.int .u8 a] 5)).heap.size := by simp; omega
  have hgz : g < ((w.alloc (.cells #[.int .u8 a, .int .u8 b, .slice (some ⟨g, 0, none⟩) 2 c] 57)).alloc (.cells #[.int .u8 a] 5)).heap.size := by simp; omega
  clear x0 x1 x2 hcv
  obtain ⟨s1, hs1⟩ : ∃ s1 : ByteArray, one a ++ one b = s1 := ⟨_, rfl⟩
  obtain ⟨s2, hs2⟩ : ∃ s2 : ByteArray, s1 ++ { data := #[58] } = s2 := ⟨_, rfl⟩
  obtain ⟨s3, hs3⟩ : ∃ s3 : ByteArray, s2 ++ X = s3 := ⟨_, rfl⟩
  obtain ⟨s4, hs4⟩ : ∃ s4 : ByteArray, s3 ++ { data := #[62] } = s4 := ⟨_, rfl⟩
  obtain ⟨s5, hs5⟩ : ∃ s5 : ByteArray, s4 ++ Y = s5 := ⟨_, rfl⟩
  obtain ⟨s6, hs6⟩ : ∃ s6 : ByteArray, s5 ++ one (a + 2) = s6 := ⟨_, rfl⟩
  have z1 : s1.size ≤ 1 + 1 := by rw [← hs1]; exact stxt_size2 hoa hob
  have z2 : s2.size ≤ 1 + 1 + 1 := by rw [← hs2]; exact stxt_size2 z1 (by decide)
  have z3 : s3.size ≤ 1 + 1 + 1 + 1000000 := by rw [← hs3]; exact stxt_size2 z2 hXs
  have z4 : s4.size ≤ 1 + 1 + 1 + 1000000 + 1 := by rw [← hs4]; exact stxt_size2 z3 (by decide)
  have z5 : s5.size ≤ 1 + 1 + 1 + 1000000 + 1 + 1000000 := by rw [← hs5]; exact stxt_size2 z4 hYs
  have hd1 := fun u => str_add (one b) (one a) s1 hs1 (by omega) u
  have hd2 := fun u => str_add { data := #[58] } s1 s2 hs2 (by have : ({ data := #[58] } : ByteArray).size = 1 := rfl; omega) u
  have hd3 := fun u => str_add X s2 s3 hs3 (by omega) u
  have hd4 := fun u => str_add { data := #[62] } s3 s4 hs4 (by have : ({ data := #[62] } : ByteArray).size = 1 := rfl; omega) u
  have hd5 := fun u => str_add Y s4 s5 hs5 (by omega) u
  have hd6 := fun u => str_add (one (a + 2)) s5 s6 hs6 (by omega) u
  have HS6 : Hid (s6 = (((((one a ++ one b) ++ { data := #[58] }) ++ X) ++ { data := #[62] }) ++ Y) ++ one (a + 2)) := Lib.hid (by rw [hs1, hs2, hs3, hs4, hs5, hs6])
  clear hs1 hs2 hs3 hs4 hs5 hs6 z1 z2 z3 z4 z5 hXs hYs hoa hob hoc
  generalize (w.alloc (.cells #[.int .u8 a, .int .u8 b, .slice (some ⟨g, 0, none⟩) 2 c] 57)).alloc (.cells #[.int .u8 a] 5) = u at HG x0b x1b x2b h0 h1 h2 h3 h4 h5 hbz hgz ⊢
  have HX0 := Lib.hid x0b
  have HX1 := Lib.hid x1b
  have HX2 := Lib.hid x2b
  have HH0 := Lib.hid h0
  have HH1 := Lib.hid h1
  have HH2 := Lib.hid h2
  have HH3 := Lib.hid h3
  have HH4 := Lib.hid h4
  have HH5 := Lib.hid h5
  clear x0b x1b x2b h0 h1 h2 h3 h4 h5
  --REGION
  refine wp_region_steps (u := u) 74 rfl (by kernel_rfl) (lR w.heap.size g a b a2 b2 a3 b3 A2 A3 c k2 c2 k3 c3 X Y s1 s2 s3 s4 s5 s6) (by kernel_rfl) ?_ ?_ ?_ u (gr_drewN u 1 none)
  · intro i v w w' h hg
    unfold lR at h ⊢
    split at h
    · rename_i hi; simp only [hi, if_true]; exact h.grown hg
    · rename_i h3'
      rw [if_neg h3']
      split at h
      · rename_i hi; simp only [hi, if_true]; exact h.grown hg
      · rename_i h23'; rw [if_neg h23']; exact h
  · intro a' w' hdf hgr hfar hall
    have e2 : a'.tmps.getD 2 undef = .string s6 := hall 26 _ 2 rfl rfl
    have e2' : a'.tmps[2]?.getD undef = .string s6 := by rw [← e2]; simp
    go_wp2_with fail
    refine bodyPost_ret (v := .string s6) (by simp [results, Tryz.results31, go_sem, e2']) hdf ?_
    refine ⟨?_, HG.out.trans hgr⟩
    rw [HTX.out, bytesOf_cons, bytesOf_cons, show (58 : UInt8) = byt 58 from rfl, bytesOf_cons, bytesOf_app, show (62 : UInt8) = byt 62 from rfl, bytesOf_cons, bytesOf_app, bytesOf_one, HXE.out, HYE.out, HS6.out]
    simp only [ByteArray.append_assoc]
    rfl
  refine ⟨?_, ?_, ?_, ?_, ?_, ?_, ?_, ?_, ?_, ?_, ?_, ?_, ?_, ?_, ?_, ?_, ?_, ?_, ?_, ?_, ?_, ?_, ?_, ?_, ?_, ?_, ?_, trivial⟩
  · intro a' w' hdf hgr hfar hdep
    have e3 : a'.tmps.getD 3 undef = .string (one a) := hfar 3 (by kernel_rfl)
    go_simp
    exact ⟨_, rfl, gr_refl _ _, rfl⟩
  · intro a' w' hdf hgr hfar hdep
    have e1 : a'.tmps.getD 1 undef = .pointer (some ⟨w.heap.size, 0, none⟩) := hfar 1 (by kernel_rfl)
    go_simp
    exact ⟨_, rfl, gr_refl _ _, rfl⟩
  · intro a' w' hdf hgr hfar hdep
    have e34 : a'.tmps.getD 34 undef = .pointer (some ⟨w.heap.size, 1, none⟩) := hdep 1 _ 34 (by kernel_rfl) rfl rfl
    have f1 := hgr.cell HX1.out (by simp)
    go_simp
    exact ⟨_, rfl, gr_refl _ _, rfl⟩
  · intro a' w' hdf hgr hfar hdep
    have e35 : a'.tmps.getD 35 undef = .int .u8 b := hdep 2 _ 35 (by kernel_rfl) rfl rfl
    have e35' : a'.tmps[35]?.getD undef = .int .u8 b := by rw [← e35]; simp
    go_simp
    exact ⟨_, rfl, World.grownBy_alloc _ _ _, ⟨_, rfl, cell_of_row _ _ 0 _ _ (0, 0) (heap_alloc_new _ _)⟩⟩
  · intro a' w' hdf hgr hfar hdep
    obtain ⟨kk, hk, hc⟩ : OneB (a'.tmps.getD 36 undef) w' (b) := hdep 3 _ 36 (by kernel_rfl) rfl rfl
    have hcv := conv_oneb hc
    go_simp
    exact ⟨_, rfl, gr_refl _ _, rfl⟩
  · intro a' w' hdf hgr hfar hdep
    have e33 : a'.tmps.getD 33 undef = .string (one a) := hdep 0 _ 33 (by kernel_rfl) rfl rfl
    have e37 : a'.tmps.getD 37 undef = .string (one b) := hdep 4 _ 37 (by kernel_rfl) rfl rfl
    go_simp
    exact ⟨_, rfl, gr_refl _ _, rfl⟩
  · intro a' w' hdf hgr hfar hdep
    have e38 : a'.tmps.getD 38 undef = .string s1 := hdep 5 _ 38 (by kernel_rfl) rfl rfl
    go_simp
    exact ⟨_, rfl, gr_refl _ _, rfl⟩
  · intro a' w' hdf hgr hfar hdep
    have e1 : a'.tmps.getD 1 undef = .pointer (some ⟨w.heap.size, 0, none⟩) := hfar 1 (by kernel_rfl)
    go_simp
    exact ⟨_, rfl, gr_refl _ _, rfl⟩
  · intro a' w' hdf hgr hfar hdep
    have e40 : a'.tmps.getD 40 undef = .pointer (some ⟨w.heap.size, 2, none⟩) := hdep 7 _ 40 (by kernel_rfl) rfl rfl
    have f2 := hgr.cell HX2.out (by simp)
    go_simp
    exact ⟨_, rfl, gr_refl _ _, rfl⟩
  · intro a' w' hdf hgr hfar hdep
    have e41 : a'.tmps.getD 41 undef = .slice (some ⟨g, 0, none⟩) 2 c := hdep 8 _ 41 (by kernel_rfl) rfl rfl
    go_simp
    exact ⟨_, rfl, gr_refl _ _, rfl⟩
  · intro a' w' hdf hgr hfar hdep
    have e42 : a'.tmps.getD 42 undef = .pointer (some ⟨g, 0, none⟩) := hdep 9 _ 42 (by kernel_rfl) rfl rfl
    have r0 := hgr.cell HH0.out (by simp)
    have r1 := hgr.cell HH1.out (by simp)
    have r2 := hgr.cell HH2.out (by simp)
    go_simp
    exact ⟨_, rfl, gr_refl _ _, rfl⟩
  · intro a' w' hdf hgr hfar hdep
    have e43 : a'.tmps.getD 43 undef = .agg #[.int .u8 a2, .int .u8 b2, .slice A2 k2 c2] := hdep 10 _ 43 (by kernel_rfl) rfl rfl
    go_simp
    refine (HI1.out u w' HG.out hgr).mono ?_
    rintro e w2 ⟨rfl, _, hg2⟩
    exact ⟨_, rfl, hg2, rfl⟩
  · intro a' w' hdf hgr hfar hdep
    have e39 : a'.tmps.getD 39 undef = .string s2 := hdep 6 _ 39 (by kernel_rfl) rfl rfl
    have e44 : a'.tmps.getD 44 undef = .string X := hdep 11 _ 44 (by kernel_rfl) rfl rfl
    go_simp
    exact ⟨_, rfl, gr_refl _ _, rfl⟩
  · intro a' w' hdf hgr hfar hdep
    have e45 : a'.tmps.getD 45 undef = .string s3 := hdep 12 _ 45 (by kernel_rfl) rfl rfl
    go_simp
    exact ⟨_, rfl, gr_refl _ _, rfl⟩
  · intro a' w' hdf hgr hfar hdep
    have e1 : a'.tmps.getD 1 undef = .pointer (some ⟨w.heap.size, 0, none⟩) := hfar 1 (by kernel_rfl)
    go_simp
    exact ⟨_, rfl, gr_refl _ _, rfl⟩
  · intro a' w' hdf hgr hfar hdep
    have e47 : a'.tmps.getD 47 undef = .pointer (some ⟨w.heap.size, 2, none⟩) := hdep 14 _ 47 (by kernel_rfl) rfl rfl
    have f2 := hgr.cell HX2.out (by simp)
    go_simp
    exact ⟨_, rfl, gr_refl _ _, rfl⟩
  · intro a' w' hdf hgr hfar hdep
    have e48 : a'.tmps.getD 48 undef = .slice (some ⟨g, 0, none⟩) 2 c := hdep 15 _ 48 (by kernel_rfl) rfl rfl
    go_simp
    exact ⟨_, rfl, gr_refl _ _, rfl⟩
  · intro a' w' hdf hgr hfar hdep
    have e49 : a'.tmps.getD 49 undef = .pointer (some ⟨g, 3, none⟩) := hdep 16 _ 49 (by kernel_rfl) rfl rfl
    have r3 := hgr.cell HH3.out (by simp)
    have r4 := hgr.cell HH4.out (by simp)
    have r5 := hgr.cell HH5.out (by simp)
    go_simp
    exact ⟨_, rfl, gr_refl _ _, rfl⟩
  · intro a' w' hdf hgr hfar hdep
    have e50 : a'.tmps.getD 50 undef = .agg #[.int .u8 a3, .int .u8 b3, .slice A3 k3 c3] := hdep 17 _ 50 (by kernel_rfl) rfl rfl
    go_simp
    refine (HI2.out u w' HG.out hgr).mono ?_
    rintro e w2 ⟨rfl, _, hg2⟩
    exact ⟨_, rfl, hg2, rfl⟩
  · intro a' w' hdf hgr hfar hdep
    have e46 : a'.tmps.getD 46 undef = .string s4 := hdep 13 _ 46 (by kernel_rfl) rfl rfl
    have e51 : a'.tmps.getD 51 undef = .string Y := hdep 18 _ 51 (by kernel_rfl) rfl rfl
    go_simp
    exact ⟨_, rfl, gr_refl _ _, rfl⟩
  · intro a' w' hdf hgr hfar hdep
    have e1 : a'.tmps.getD 1 undef = .pointer (some ⟨w.heap.size, 0, none⟩) := hfar 1 (by kernel_rfl)
    go_simp
    exact ⟨_, rfl, gr_refl _ _, rfl⟩
  · intro a' w' hdf hgr hfar hdep
    have e53 : a'.tmps.getD 53 undef = .pointer (some ⟨w.heap.size, 0, none⟩) := hdep 20 _ 53 (by kernel_rfl) rfl rfl
    have f0 := hgr.cell HX0.out (by simp)
    go_simp
    exact ⟨_, rfl, gr_refl _ _, rfl⟩
  · intro a' w' hdf hgr hfar hdep
    have e54 : a'.tmps.getD 54 undef = .int .u8 a := hdep 21 _ 54 (by kernel_rfl) rfl rfl
    go_simp
    exact ⟨_, rfl, gr_refl _ _, rfl⟩
  · intro a' w' hdf hgr hfar hdep
    have e55 : a'.tmps.getD 55 undef = .int .u8 (a + 2) := hdep 22 _ 55 (by kernel_rfl) rfl rfl
    have e55' : a'.tmps[55]?.getD undef = .int .u8 (a + 2) := by rw [← e55]; simp
    go_simp
    exact ⟨_, rfl, World.grownBy_alloc _ _ _, ⟨_, rfl, cell_of_row _ _ 0 _ _ (0, 0) (heap_alloc_new _ _)⟩⟩
  · intro a' w' hdf hgr hfar hdep
    obtain ⟨kk, hk, hc⟩ : OneB (a'.tmps.getD 56 undef) w' (a + 2) := hdep 23 _ 56 (by kernel_rfl) rfl rfl
    have hcv := conv_oneb hc
    go_simp
    exact ⟨_, rfl, gr_refl _ _, rfl⟩
  · intro a' w' hdf hgr hfar hdep
    have e52 : a'.tmps.getD 52 undef = .string s5 := hdep 19 _ 52 (by kernel_rfl) rfl rfl
    have e57 : a'.tmps.getD 57 undef = .string (one (a + 2)) := hdep 24 _ 57 (by kernel_rfl) rfl rfl
    go_simp
    exact ⟨_, rfl, gr_refl _ _, rfl⟩
  · intro a' w' hdf hgr hfar hdep
    have e58 : a'.tmps.getD 58 undef = .string s6 := hdep 25 _ 58 (by kernel_rfl) rfl rfl
    go_simp
    exact ⟨_, rfl, gr_refl _ _, rfl⟩
end

section
open Go.RowKit

theorem stxt_any : ∀ (t : Tm) (S : Nat → Prop) (a b : Int) (A : Option Addr) (k c : Nat) (w : World), t.Ok → t.txt.length ≤ 1000000 → SN w S t (a, b, .slice A k c) →
    Calls Tryz.prog 31 #[.agg #[.int .u8 a, .int .u8 b, .slice A k c]] w (STxtPost t w)
  | .dig d, S, a, b, A, k, c, w, _, _, h => by
    obtain ⟨_, h2, ho, _⟩ := h
    simp only at h2 ho
    subst h2
    obtain rfl := own_len ho
    exact stxt_leaf _ a b A c w rfl
  | .var d, S, a, b, A, k, c, w, _, _, h => by
    obtain ⟨_, h2, ho, _⟩ := h
    simp only at h2 ho
    subst h2
    obtain rfl := own_len ho
    exact stxt_leaf _ a b A c w rfl
  | .pre d s, S, a, b, A, k, c, w, hok, hl, h => by
    obtain ⟨h1, h2, ⟨y1, y2, y3⟩, ho, _, hs⟩ := h
    simp only at h1 h2 ho
    subst h1; subst h2
    obtain rfl := own_len ho
    obtain ⟨A2, k2, c2, hsv⟩ := hs.form
    simp only at hsv
    subst hsv
    have hl2 : s.txt.length ≤ 1000000 := by simp only [Tm.txt, List.length_cons] at hl; omega
    exact stxt_pre _ s a 0 y1 y2 A A2 c k2 c2 w rfl hl2 ho (fun u hg => (stxt_any s S y1 y2 A2 k2 c2 u hok.2 hl2 (hs.grown hg)))
  | .two d s t, S, a, b, A, k, c, w, hok, hl, h => by
    obtain ⟨h1, h2, ⟨y1, y2, y3⟩, ⟨z1, z2, z3⟩, ho, _, hs, ht⟩ := h
    simp only at h1 h2 ho
    subst h1; subst h2
    obtain rfl := own_len ho
    obtain ⟨A2, k2, c2, hsv⟩ := hs.form
    obtain ⟨A3, k3, c3, htv⟩ := ht.form
    simp only at hsv htv
    subst hsv; subst htv
    have hl2 : s.txt.length ≤ 1000000 ∧ t.txt.length ≤ 1000000 := by simp only [Tm.txt, List.length_cons, List.length_append] at hl; omega
    exact stxt_two _ s t a y1 y2 z1 z2 A A2 A3 c k2 c2 k3 c3 w rfl hl ho (fun u hg => stxt_any s S y1 y2 A2 k2 c2 u hok.2.1 hl2.1 (hs.grown hg)) (fun u hg => stxt_any t S z1 z2 A3 k3 c3 u hok.2.2 hl2.2 (ht.grown hg))
  | .loop d i s t, S, a, b, A, k, c, w, hok, hl, h => by
    obtain ⟨h1, h2, ⟨y1, y2, y3⟩, ⟨z1, z2, z3⟩, ho, _, hs, ht⟩ := h
    simp only at h1 h2 ho
    subst h1; subst h2
    obtain rfl := own_len ho
    obtain ⟨A2, k2, c2, hsv⟩ := hs.form
    obtain ⟨A3, k3, c3, htv⟩ := ht.form
    simp only at hsv htv
    subst hsv; subst htv
    have hl2 : s.txt.length ≤ 1000000 ∧ t.txt.length ≤ 1000000 := by simp only [Tm.txt, List.length_cons, List.length_append] at hl; omega
    have hi := isL_ge hok.2.1
    exact stxt_loop _ s t a b y1 y2 z1 z2 A A2 A3 c k2 c2 k3 c3 w hok.1 (by rw [bne_iff_ne]; omega) rfl hl ho (fun u hg => stxt_any s S y1 y2 A2 k2 c2 u hok.2.2.1 hl2.1 (hs.grown hg)) (fun u hg => stxt_any t S z1 z2 A3 k3 c3 u hok.2.2.2 hl2.2 (ht.grown hg))
end
end

/- TRepV -/
section
open Go.RowKit

/-- The one variable that a text is. -/
def vch (v : ByteArray) : Option Int := if v.size = 1 ∧ isV (ba v 0) = true then some (ba v 0) else none
theorem one_list {v : ByteArray} (h : v.size = 1) : v.data.toList = [byt (ba v 0)] := by
  have hl : v.data.toList.length = 1 := by rw [Array.length_toList]; exact h
  obtain ⟨x, hx⟩ := List.length_eq_one_iff.1 hl
  have hb : ba v 0 = (x.toNat : Int) := (At.cons (s := v) (p := 0) (c := x) (l := []) ⟨[], [], by simp [hx], rfl⟩).1
  rw [hx, hb]
  simp [byt]
theorem vch_some {v : ByteArray} {c : Int} (h : vch v = some c) : readT v = some (.var c) ∧ isV c = true ∧ v.size = 1 ∧ ba v 0 = c := by
  unfold vch at h
  split at h
  · rename_i hv
    cases h
    exact ⟨readT_back hv.2 (one_list hv.1) (by omega), hv.2, hv.1, rfl⟩
  · cases h
theorem vch_none {v : ByteArray} {c : Int} (h : vch v = none) : readT v ≠ some (.var c) := by
  intro hr
  have hl := readT_len hr
  have ho := (readT_some hr).2.2.1
  have ht := readT_txt hr
  simp only [Tm.txt, List.length_cons, List.length_nil] at hl
  have hv1 : v.size = 1 := by omega
  have hb := one_list hv1
  rw [ht] at hb
  simp only [Tm.txt, List.cons.injEq, and_true] at hb
  have h0 := vb ho
  have hba : ba v 0 = c := by
    have h1 : 0 ≤ ba v 0 := by rw [ba_in (by omega)]; omega
    have := byt_back h1 (ba_hi v 0)
    rw [← hb, byt_back h0.1 h0.2] at this
    exact this.symm
  unfold vch at h
  rw [if_pos ⟨hv1, by rw [hba]; exact ho⟩] at h
  cases h

/-- What ReplaceVar answers. -/
def replA (t v u : ByteArray) : Option ByteArray := match readT t, readT u, vch v with
  | some T, some U, some c => if T.binds c U = true ∨ 80 < (T.rep c U).txt.length then none else some (bytesOf (T.rep c U).txt)
  | _, _, _ => none
def RVP (o : Option ByteArray) (w : World) (e : Ending) (w' : World) : Prop := e = .returned (.tuple #[.string (o.getD ⟨#[]⟩), .bool o.isSome]) ∧ w.grownBy w' none

set_option maxRecDepth 100000 in
set_option maxHeartbeats 4000000 in
theorem repv_impl (t v u : ByteArray) (w : World) :
    Calls Tryz.prog 6 #[.string t, .string v, .string u] w (RVP (replA t v u) w) := by
  have H1 := Lib.hid (fun w => term_any t w)
  have H2 := Lib.hid (fun w => term_any u w)
  obtain ⟨res, hres⟩ : ∃ b, replA t v u = b := ⟨_, rfl⟩
  rw [hres]
  have HRES := Lib.hid hres
  clear hres
  go_enter Tryz.func6, Tryz.ntmps6
  go_wp2_with fail
  refine (H1.out _).mono ?_
  intro e w1 hp1
  unfold TermPost at hp1
  cases hr1 : readT t with
  | none =>
    rw [hr1] at hp1
    obtain ⟨rfl, hg1⟩ := hp1
    have HG1 := Lib.hid hg1
    have HR : Hid (res = none) := Lib.hid (by rw [← HRES.out]; unfold replA; rw [hr1])
    clear hg1 hr1
    go_wp2_with fail
    refine (H2.out _).mono ?_
    intro e w2 hp2
    have hsh : ∃ x b, e = .returned (.tuple #[x, .bool b]) ∧ w1.grownBy w2 none := by
      unfold TermPost at hp2
      cases hr2 : readT u with
      | none => rw [hr2] at hp2; exact ⟨_, _, hp2.1, hp2.2⟩
      | some U => rw [hr2] at hp2; obtain ⟨x, he, hg, _⟩ := hp2; exact ⟨_, _, he, hg⟩
    obtain ⟨x, b, rfl, hg2⟩ := hsh
    have HG2 := Lib.hid hg2
    clear hp2 hg2
    go_wp2_with fail
    go_ret2
    rw [HR.out]
    exact ⟨rfl, HG1.out.trans HG2.out⟩
  | some T =>
    rw [hr1] at hp1
    obtain ⟨x1, rfl, hg1, hpt⟩ := hp1
    obtain ⟨ty1, pv1, rfl⟩ := hpt.iface
    have HG1 := Lib.hid hg1
    have HPT := Lib.hid hpt
    have HR1 := Lib.hid hr1
    clear hg1 hr1 hpt
    go_wp2_with fail
    refine (H2.out _).mono ?_
    intro e w2 hp2
    unfold TermPost at hp2
    cases hr2 : readT u with
    | none =>
      rw [hr2] at hp2
      obtain ⟨rfl, hg2⟩ := hp2
      have HG2 := Lib.hid hg2
      have HR : Hid (res = none) := Lib.hid (by rw [← HRES.out]; unfold replA; rw [HR1.out, hr2])
      clear hg2 hr2
      go_wp2_with fail
      go_ret2
      rw [HR.out]
      exact ⟨rfl, HG1.out.trans HG2.out⟩
    | some U =>
      rw [hr2] at hp2
      obtain ⟨x2, rfl, hg2, hpu⟩ := hp2
      obtain ⟨ty2, pv2, rfl⟩ := hpu.iface
      have HG2 := Lib.hid hg2
      have HPU := Lib.hid hpu
      have HR2 := Lib.hid hr2
      clear hg2 hr2 hpu
      by_cases hs1 : v.size = 1
      · have h0 : 0 < v.size := by omega
        obtain ⟨iv, hiv⟩ : ∃ b, isV (ba v 0) = b := ⟨_, rfl⟩
        have hb0 : 0 ≤ ba v 0 := by rw [ba_in h0]; omega
        have hb1 := ba_hi v 0
        have HO := Lib.hid (fun w => oneofV (ba v 0) hb0 hb1 iv hiv w)
        have HIV := Lib.hid hiv
        have HVC : Hid (vch v = if iv = true then some (ba v 0) else none) := Lib.hid (by
          unfold vch
          rw [hiv]
          cases iv <;> simp [hs1])
        obtain ⟨c, hcb⟩ : ∃ c, ba v 0 = c := ⟨_, rfl⟩
        have hc : ((v[0]'h0).toNat : Int) = c := by rw [← hcb]; exact (ba_in h0).symm
        rw [hcb] at HO hb0 hb1 HVC
        have hs1i : ((v.size : Int) != 1) = false := by rw [hs1]; rfl
        have HS1 := Lib.hid hs1
        clear hiv hs1 hcb
        go_wp2_with fail
        refine (HO.out _).mono ?_
        rintro e w2' ⟨rfl, rfl⟩
        cases iv
        · have HR : Hid (res = none) := Lib.hid (by rw [← HRES.out]; unfold replA; rw [HR1.out, HR2.out, HVC.out]; rfl)
          go_wp2_with fail
          go_ret2
          rw [HR.out]
          exact ⟨rfl, HG1.out.trans HG2.out⟩
        · have HU := Lib.hid (readT_some HR2.out)
          have HT := Lib.hid (readT_some HR1.out)
          have HUL := Lib.hid (readT_len HR2.out)
          have HTL := Lib.hid (readT_len HR1.out)
          have HR : Hid (res = if T.binds c U = true ∨ 80 < (T.rep c U).txt.length then none else some (bytesOf (T.rep c U).txt)) := Lib.hid (by rw [← HRES.out]; unfold replA; rw [HR1.out, HR2.out, HVC.out]; rfl)
          go_wp2_with fail
          refine (repof_any c U _ _ _ HU.out.2.2.1 (by have := HU.out.2.2.2; omega) HPU.out).mono ?_
          rintro e w3 ⟨r, fb, rfl, hg3, hra⟩
          have HG3 := Lib.hid hg3
          have HRA := Lib.hid hra
          have HPT3 := Lib.hid ((HPT.out.grown HG2.out).grown hg3)
          have HWB := Lib.hid (wb_any r fb U.size c U _ ⟨hb0, hb1⟩ 80 T _ _ w3 HT.out.2.2.2 (by omega) HT.out.2.2.1 HPT3.out hra)
          obtain ⟨bd, hbd⟩ : ∃ b, T.binds c U = b := ⟨_, rfl⟩
          rw [hbd] at HWB HR
          clear hg3 hra hbd
          go_wp2_with fail
          refine HWB.out.mono ?_
          rintro e w4 ⟨rfl, hg4⟩
          have HG4 := Lib.hid hg4
          have HIN := Lib.hid (inn_any r c U _ fb 80 T _ _ w4 HT.out.2.2.2 (HPT3.out.grown hg4) (HRA.out.grown hg4).blk (HRA.out.grown hg4).by')
          clear hg4
          cases bd
          · go_wp2_with fail
            refine HIN.out.mono ?_
            rintro e w5 ⟨x5, rfl, hg5, hp5⟩
            obtain ⟨ty5, pv5, rfl⟩ := hp5.iface
            have HG5 := Lib.hid hg5
            have hle : (T.rep c U).txt.length ≤ 80 * 80 := by
              have h1 := T.rep_len c U (by have := HUL.out; have := HU.out.1; omega)
              have h2 := HTL.out
              have h3 := HT.out.1
              omega
            have HTX := Lib.hid (textof_any (T.rep c U) _ ty5 pv5 w5 (T.rep_ok c U HU.out.2.2.1 HT.out.2.2.1) hp5 (by omega))
            obtain ⟨X, hX⟩ : ∃ X, bytesOf (T.rep c U).txt = X := ⟨_, rfl⟩
            have hXs : X.size = (T.rep c U).txt.length := by rw [← hX]; simp [bytesOf, ByteArray.size]
            rw [hX] at HTX HR
            rw [← hXs] at HR
            clear hg5 hp5 hX hXs hle
            go_wp2_with fail
            refine HTX.out.mono ?_
            rintro e w6 ⟨rfl, hg6⟩
            have HG6 := Lib.hid ((((HG1.out.trans HG2.out).trans HG3.out).trans HG4.out).trans (HG5.out.trans hg6))
            clear hg6
            by_cases h80 : 80 < X.size
            · have hgt : (80 : Int) < (X.size : Int) := by omega
              have HRN : Hid (res = none) := Lib.hid (by rw [HR.out, if_pos (.inr h80)])
              clear h80
              go_wp2_with fail
              go_ret2
              rw [HRN.out]
              exact ⟨rfl, HG6.out⟩
            · have hgt : ¬ (80 : Int) < (X.size : Int) := by omega
              have HRN : Hid (res = some X) := Lib.hid (by rw [HR.out, if_neg (by simp [h80])])
              clear h80
              go_wp2_with fail
              go_ret2
              rw [HRN.out]
              exact ⟨rfl, HG6.out⟩
          · have HRN : Hid (res = none) := Lib.hid (by rw [HR.out, if_pos (.inl rfl)])
            go_wp2_with fail
            go_ret2
            rw [HRN.out]
            exact ⟨rfl, ((HG1.out.trans HG2.out).trans HG3.out).trans HG4.out⟩
      · have hs1i : ((v.size : Int) != 1) = true := by simp; omega
        have HR : Hid (res = none) := Lib.hid (by rw [← HRES.out]; unfold replA; rw [HR1.out, HR2.out, show vch v = none from by unfold vch; rw [if_neg (fun h => hs1 h.1)]])
        go_wp2_with fail
        go_ret2
        rw [HR.out]
        exact ⟨rfl, HG1.out.trans HG2.out⟩
end

/- SRepV -/
section
section
open Go.RowKit

theorem srep_any : ∀ (n : Nat) (t u : Tm) (a b v ua ub : Int) (A UA : Option Addr) (k c uk uc : Nat) (S : Nat → Prop) (w : World), t.size ≤ n → n ≤ 1000000 → t.Ok → u.Ok → 0 < v → u.size ≤ 1000000 →
    (∀ x, S x → x < w.heap.size) → SN w S t (a, b, .slice A k c) → SN w S u (ua, ub, .slice UA uk uc) →
    Calls Tryz.prog 30 #[.agg #[.int .u8 a, .int .u8 b, .slice A k c], .int .u8 v, .agg #[.int .u8 ua, .int .u8 ub, .slice UA uk uc]] w (SRP (t.rep v u) (!t.binds v u) S w)
  | 0, t, u, a, b, v, ua, ub, A, UA, k, c, uk, uc, S, w, hn, _, _, _, _, _, _, _, _ => by have := t.size_pos; omega
  | n + 1, t, u, a, b, v, ua, ub, A, UA, k, c, uk, uc, S, w, hn, hn2, hok, huok, hv, husz, hS, ht, hu => by
    by_cases hvar : t = .var v
    · subst hvar
      obtain ⟨h1, h2, _⟩ := ht
      simp only at h1 h2
      subst h1 h2
      have e1 : (Tm.var b).rep b u = u := by simp [Tm.rep]
      have e2 : (Tm.var b).binds b u = false := by simp [Tm.binds]
      rw [e1, e2]
      exact srep_hit b ua ub _ ⟨A, k, c, rfl⟩ UA uk uc u S w hu
    · refine srep_go t u a b v ua ub A UA k c uk uc S w hok huok hv (by omega) (fun d hd e => hvar (by rw [hd, e])) hS ht hu ?_
      intro x hx a2 b2 A2 k2 c2 w' hg hs
      obtain ⟨j, hj⟩ := List.getElem?_of_mem hx
      have hbd : x.size ≤ n := by
        have hst := csum_step hj
        have hlq := csum_take t.kids (j + 1)
        have hks := csum_kids t
        omega
      exact srep_any n x u a2 b2 v ua ub A2 UA k2 c2 uk uc S w' hbd (by omega) (kids_ok' hok hx) huok hv husz (fun y hy => Nat.lt_of_lt_of_le (hS y hy) hg.size) hs (hu.grown hg)
end

section
open Go.RowKit

theorem sterm_shape {s : ByteArray} {w w' : World} {e : Ending} (h : STermPost s w e w') : ∃ a b A k c o, e = .returned (.tuple #[.agg #[.int .u8 a, .int .u8 b, .slice A k c], .bool o]) ∧ w.grownBy w' none ∧ (readT s).isSome = o ∧
    ∀ T, readT s = some T → SN w' (fun b => w.heap.size ≤ b) T (a, b, .slice A k c) := by
  unfold STermPost at h
  cases hr : readT s with
  | none => rw [hr] at h; exact ⟨_, _, _, _, _, _, h.1, h.2, rfl, fun T hT => by cases hT⟩
  | some T =>
    rw [hr] at h
    obtain ⟨a, b, A, k, c, he, hg, hs⟩ := h
    exact ⟨_, _, _, _, _, _, he, hg, rfl, fun T hT => by cases hT; exact hs⟩
theorem repA_n1 {t v u : ByteArray} (h : (readT t).isSome = false) : replA t v u = none := by
  unfold replA
  cases hr : readT t with
  | none => rfl
  | some T => rw [hr] at h; cases h
theorem repA_n2 {t v u : ByteArray} (h : (readT u).isSome = false) : replA t v u = none := by
  unfold replA
  cases hr : readT u with
  | none => cases readT t <;> rfl
  | some T => rw [hr] at h; cases h
theorem repA_n3 {t v u : ByteArray} (h : vch v = none) : replA t v u = none := by
  unfold replA
  rw [h]
  cases readT t <;> cases readT u <;> rfl
theorem vch_read {v : ByteArray} (h : (readT v).isSome = false) : vch v = none := by
  cases hv : vch v with
  | none => rfl
  | some c => rw [(vch_some hv).1] at h; cases h
/-- What is read is a variable exactly if its node's sign says so. -/
theorem vch_sign {v : ByteArray} {w : World} {S : Nat → Prop} {a b : Int} {sv : Value} {T : Tm} (hr : readT v = some T) (h : SN w S T (a, b, sv)) : vch v = if a = 97 then some b else none := by
  have hok := (readT_some hr).2.2.1
  cases hv : T.isV with
  | true =>
    cases T <;> try cases hv
    rename_i c
    obtain ⟨h1, h2, _⟩ := h
    simp only at h1 h2
    subst h1 h2
    rw [if_pos rfl]
    cases hc : vch v with
    | none => exact absurd hr (vch_none hc)
    | some d => rw [(vch_some hc).1] at hr; cases hr; rfl
  | false =>
    rw [if_neg (h.novar hok hv)]
    cases hc : vch v with
    | none => rfl
    | some d => rw [(vch_some hc).1] at hr; cases hr; cases hv

set_option maxRecDepth 100000 in
set_option maxHeartbeats 4000000 in
theorem repv_spec (t v u : ByteArray) (ht : t.size ≤ 1048576) (hv : v.size ≤ 1048576) (hu : u.size ≤ 1048576) (w : World) :
    Calls Tryz.prog 7 #[.string t, .string v, .string u] w (RVP (replA t v u) w) := by
  have H1 := Lib.hid (fun w => sterm_any t ht w)
  have H2 := Lib.hid (fun w => sterm_any u hu w)
  have H3 := Lib.hid (fun w => sterm_any v hv w)
  obtain ⟨res, hres⟩ : ∃ b, replA t v u = b := ⟨_, rfl⟩
  rw [hres]
  have HRES := Lib.hid hres
  clear hres ht hv hu
  go_enter Tryz.func7, Tryz.ntmps7
  go_wp2_with fail
  refine (H1.out _).mono ?_
  intro e w1 hp
  obtain ⟨a1, b1, A1, k1, c1, o1, rfl, hg1, ho1, hs1⟩ := sterm_shape hp
  obtain ⟨x1, hx1⟩ : ∃ x, w1.alloc (.cells #[.int .u8 a1, .int .u8 b1, .slice A1 k1 c1] TN) = x := ⟨_, rfl⟩
  obtain ⟨n1, hn1⟩ : ∃ x, w1.heap.size = x := ⟨_, rfl⟩
  have gx1 : w1.grownBy x1 none := by rw [← hx1]; exact World.grownBy_alloc _ _ _
  have C1 := Lib.hid (show C3 x1 n1 (.int .u8 a1) (.int .u8 b1) (.slice A1 k1 c1) TN by rw [← hx1, ← hn1]; exact c3_new _ _ _ _ _)
  have HG1 := Lib.hid (hg1.trans gx1)
  have HO1 := Lib.hid ho1
  have HS1 := Lib.hid (fun T hT => (hs1 T hT).grown gx1)
  clear hg1 gx1 ho1 hs1 hp
  go_wp2_with fail
  refine (H2.out _).mono ?_
  intro e w2 hp
  obtain ⟨a2, b2, A2, k2, c2, o2, rfl, hg2, ho2, hs2⟩ := sterm_shape hp
  obtain ⟨x2, hx2⟩ : ∃ x, w2.alloc (.cells #[.int .u8 a2, .int .u8 b2, .slice A2 k2 c2] TN) = x := ⟨_, rfl⟩
  obtain ⟨n2, hn2⟩ : ∃ x, w2.heap.size = x := ⟨_, rfl⟩
  have gx2 : w2.grownBy x2 none := by rw [← hx2]; exact World.grownBy_alloc _ _ _
  have C2 := Lib.hid (show C3 x2 n2 (.int .u8 a2) (.int .u8 b2) (.slice A2 k2 c2) TN by rw [← hx2, ← hn2]; exact c3_new _ _ _ _ _)
  have HG2 := Lib.hid (hg2.trans gx2)
  have HO2 := Lib.hid ho2
  have HS2 := Lib.hid (fun T hT => (hs2 T hT).grown gx2)
  clear hg2 gx2 ho2 hs2 hp
  go_wp2_with fail
  refine (H3.out _).mono ?_
  intro e w3 hp
  obtain ⟨a3, b3, A3, k3, c3, o3, rfl, hg3, ho3, hs3⟩ := sterm_shape hp
  obtain ⟨x3, hx3⟩ : ∃ x, w3.alloc (.cells #[.int .u8 a3, .int .u8 b3, .slice A3 k3 c3] TN) = x := ⟨_, rfl⟩
  obtain ⟨n3, hn3⟩ : ∃ x, w3.heap.size = x := ⟨_, rfl⟩
  have gx3 : w3.grownBy x3 none := by rw [← hx3]; exact World.grownBy_alloc _ _ _
  have C3' := Lib.hid (show C3 x3 n3 (.int .u8 a3) (.int .u8 b3) (.slice A3 k3 c3) TN by rw [← hx3, ← hn3]; exact c3_new _ _ _ _ _)
  have HG3 := Lib.hid (hg3.trans gx3)
  have HO3 := Lib.hid ho3
  have HS3 := Lib.hid (fun T hT => (hs3 T hT).grown gx3)
  have HG := Lib.hid ((HG1.out.trans HG2.out).trans HG3.out)
  clear hg3 gx3 ho3 hs3 hp
  cases o1
  · have HR : Hid (res = none) := Lib.hid (by rw [← HRES.out]; exact repA_n1 HO1.out)
    go_wp2_with fail
    go_ret2
    rw [HR.out]
    exact ⟨rfl, HG.out⟩
  cases o2
  · have HR : Hid (res = none) := Lib.hid (by rw [← HRES.out]; exact repA_n2 HO2.out)
    go_wp2_with fail
    go_ret2
    rw [HR.out]
    exact ⟨rfl, HG.out⟩
  cases o3
  · have HR : Hid (res = none) := Lib.hid (by rw [← HRES.out]; exact repA_n3 (vch_read HO3.out))
    go_wp2_with fail
    go_ret2
    rw [HR.out]
    exact ⟨rfl, HG.out⟩
  obtain ⟨T3, hT3⟩ : ∃ T, readT v = some T := Option.isSome_iff_exists.1 HO3.out
  have HV := Lib.hid (vch_sign hT3 (HS3.out T3 hT3))
  have q0 := C3'.out.c0
  by_cases h97 : a3 = 97
  · subst h97
    have HV : Hid (vch v = some b3) := Lib.hid (by rw [HV.out, if_pos rfl])
    obtain ⟨T, hT⟩ : ∃ T, readT t = some T := Option.isSome_iff_exists.1 HO1.out
    obtain ⟨U, hU⟩ : ∃ T, readT u = some T := Option.isSome_iff_exists.1 HO2.out
    have hT4 := readT_some hT
    have hU4 := readT_some hU
    have hTl := readT_len hT
    have hUl := readT_len hU
    have hb3 : 0 < b3 := by have := isV_ge (vch_some HV.out).2.1; omega
    have HST : Hid (SN x3 (fun x => w.heap.size ≤ x ∧ x < x3.heap.size) T (a1, b1, .slice A1 k1 c1)) := Lib.hid ((((HS1.out T hT).grown HG2.out).grown HG3.out).keep (fun _ _ _ => rfl) (fun b hb hl => ⟨hb, hl⟩) _ _)
    have HSU : Hid (SN x3 (fun x => w.heap.size ≤ x ∧ x < x3.heap.size) U (a2, b2, .slice A2 k2 c2)) := Lib.hid (((HS2.out U hU).grown HG3.out).keep (fun _ _ _ => rfl) (fun b hb hl => ⟨by have := HG1.out.size; omega, hl⟩) _ _)
    have HCALL := Lib.hid (srep_any T.size T U a1 b1 b3 a2 b2 A1 A2 k1 c1 k2 c2 (fun x => w.heap.size ≤ x ∧ x < x3.heap.size) x3 (Nat.le_refl _) (by omega) hT4.2.2.1 hU4.2.2.1 hb3 (by omega) (fun x hx => hx.2) HST.out HSU.out)
    have HOKR := Lib.hid (Tm.rep_ok T b3 U hU4.2.2.1 hT4.2.2.1)
    have HLEN := Lib.hid (Tm.rep_len T b3 U (by omega))
    have hl6 : (T.rep b3 U).txt.length ≤ 1000000 := by have := HLEN.out; omega
    have HL6 := Lib.hid hl6
    obtain ⟨good, hgood⟩ : ∃ b, (!T.binds b3 U) = b := ⟨_, rfl⟩
    rw [hgood] at HCALL
    have HGOOD := Lib.hid hgood
    have HREP : Hid (res = if T.binds b3 U = true ∨ 80 < (T.rep b3 U).txt.length then none else some (bytesOf (T.rep b3 U).txt)) := Lib.hid (by rw [← HRES.out]; unfold replA; rw [hT, hU, HV.out])
    obtain ⟨Z, hZ⟩ : ∃ Z, bytesOf (T.rep b3 U).txt = Z := ⟨_, rfl⟩
    have HZ := Lib.hid hZ
    have hzs : Z.size = (T.rep b3 U).txt.length := by rw [← hZ]; exact bytesOf_size _
    have HZS := Lib.hid hzs
    have q1 := C3'.out.c1
    have p0 := (C1.out.grown (HG2.out.trans HG3.out) (by simp)).c0
    have p1 := (C1.out.grown (HG2.out.trans HG3.out) (by simp)).c1
    have p2 := (C1.out.grown (HG2.out.trans HG3.out) (by simp)).c2
    have r0 := (C2.out.grown HG3.out (by simp)).c0
    have r1 := (C2.out.grown HG3.out (by simp)).c1
    have r2 := (C2.out.grown HG3.out (by simp)).c2
    clear hT hU hT4 hU4 hTl hUl hgood hZ hT3 hl6
    go_wp2_with fail
    refine HCALL.out.mono ?_
    rintro e w4 ⟨a4, b4, A4, k4, c4, rfl, hg4, hs4⟩
    obtain ⟨x4, hx4⟩ : ∃ x, w4.alloc (.cells #[.int .u8 a4, .int .u8 b4, .slice A4 k4 c4] TN) = x := ⟨_, rfl⟩
    obtain ⟨n4, hn4⟩ : ∃ x, w4.heap.size = x := ⟨_, rfl⟩
    have gx4 : w4.grownBy x4 none := by rw [← hx4]; exact World.grownBy_alloc _ _ _
    have C4 := Lib.hid (show C3 x4 n4 (.int .u8 a4) (.int .u8 b4) (.slice A4 k4 c4) TN by rw [← hx4, ← hn4]; exact c3_new _ _ _ _ _)
    have HG4 := Lib.hid (HG.out.trans (hg4.trans gx4))
    have HTX := Lib.hid (stxt_any (T.rep b3 U) _ a4 b4 A4 k4 c4 x4 HOKR.out HL6.out (hs4.grown gx4))
    unfold STxtPost at HTX
    rw [HZ.out] at HTX
    clear hg4 hs4 gx4 p0 p1 p2 r0 r1 r2 q0 q1
    have p0 := C4.out.c0
    have p1 := C4.out.c1
    have p2 := C4.out.c2
    go_wp2_with fail
    refine HTX.out.mono ?_
    rintro e w5 ⟨rfl, hg5⟩
    have HG5 := Lib.hid (HG4.out.trans hg5)
    clear hg5 p0 p1 p2
    cases good
    · have HR : Hid (res = none) := Lib.hid (by
        rw [HREP.out, if_pos (.inl (by have := HGOOD.out; simpa using this))])
      go_wp2_with fail
      go_ret2
      rw [HR.out]
      exact ⟨rfl, HG5.out⟩
    · have hb : T.binds b3 U = false := by have := HGOOD.out; simpa using this
      have HB := Lib.hid hb
      clear hb
      by_cases h80 : 80 < Z.size
      · have HR : Hid (res = none) := Lib.hid (by rw [HREP.out, if_pos (.inr (by rw [← HZS.out]; exact h80))])
        go_wp2_with fail
        go_ret2
        rw [HR.out]
        exact ⟨rfl, HG5.out⟩
      · have HR : Hid (res = some Z) := Lib.hid (by
          rw [HREP.out, HZ.out, if_neg (by rw [HB.out, ← HZS.out]; simp; omega)])
        go_wp2_with fail
        go_ret2
        rw [HR.out]
        exact ⟨rfl, HG5.out⟩
  · have HR : Hid (res = none) := Lib.hid (by rw [← HRES.out]; exact repA_n3 (by rw [HV.out, if_neg h97]))
    have hne : (a3 != 97) = true := by simp [h97]
    go_wp2_with fail
    go_ret2
    rw [HR.out]
    exact ⟨rfl, HG.out⟩
end
end

/- SRlU -/
section
open Go.RowKit

theorem row6_new {w : World} {k : Nat} {a b a' b' : Int} {sv sv' : Value} (hk : w.heap.size = k) : (w.alloc (.cells #[.int .u8 a, .int .u8 b, sv, .int .u8 a', .int .u8 b', sv'] TN)).ownsRow 0 TN 3 (.slice (some ⟨k, 0, none⟩) 2 2) 2 (flat3 [(a, b, sv), (a', b', sv')]) := by
  subst hk
  exact ⟨by simp [flat3], .inr ⟨w.heap.size, 2, #[.int .u8 a, .int .u8 b, sv, .int .u8 a', .int .u8 b', sv'], rfl, Nat.zero_le _, heap_alloc_new w _, Nat.le_refl _, by unfold maxLen; omega, rfl, rfl⟩⟩
/-- The boxes of both parts of a loop. -/
structure NBf (w wx : World) (h0 : Nat) (a b : Int) (sv : Value) (X Y : Value × Value × Value) (p q : Value) (bx bY : Nat) : Prop where
  px : p = .pointer (some ⟨bx, 0, none⟩)
  py : q = .pointer (some ⟨bY, 0, none⟩)
  kn : C3 wx h0 (.int .u8 a) (.int .u8 b) sv TN
  kr : C3 wx (h0 + 1) (.int .u8 0) (.int .u8 0) (.slice none 0 0) TN
  kx : C3 wx bx X.1 X.2.1 X.2.2 TN
  ky : C3 wx bY Y.1 Y.2.1 Y.2.2 TN
  gr : w.grownBy wx none
  nx : bx ≠ h0 + 1
  ny : bY ≠ h0 + 1
/-- The box of what comes out of the replacement. -/
structure NBo (w wx : World) (S : Nat → Prop) (h0 bx : Nat) (X : Value × Value × Value) (q : Tm) (p g : Value) (b6 : Nat) (a6 n6 : Int) (sv6 : Value) : Prop where
  px : p = .pointer (some ⟨b6, 0, none⟩)
  pg : g = .bool true
  kr : C3 wx (h0 + 1) (.int .u8 0) (.int .u8 0) (.slice none 0 0) TN
  kx : C3 wx bx X.1 X.2.1 X.2.2 TN
  ko : C3 wx b6 (.int .u8 a6) (.int .u8 n6) sv6 TN
  sn : SN wx (fun x => S x ∨ h0 + 2 ≤ x) q (a6, n6, sv6)
  gr : w.grownBy wx none
  no : b6 ≠ h0 + 1
theorem rFuse_a {w : World} {S : Nat → Prop} {t : Tm} {a b : Int} {sv : Value} (h : SN w S t (a, b, sv)) (ha : a ≠ 91) : rFuse t = none := by
  cases t <;> try rfl
  rename_i c v s u
  have : ¬ c = 91 := fun e => ha (h.1.trans e)
  cases s <;> first | rfl | simp [rFuse, this]
theorem rFuse_p {w : World} {S : Nat → Prop} {s : Tm} {a b c v : Int} {sv : Value} {u : Tm} (h : SN w S s (a, b, sv)) (ha : a ≠ 91) : rFuse (.loop c v s u) = none := by
  cases s <;> try rfl
  rename_i d i q t
  have : ¬ d = 91 := fun e => ha (h.1.trans e)
  simp [rFuse, this]

set_option maxRecDepth 100000 in
set_option maxHeartbeats 8000000 in
theorem srfuse_any (t : Tm) (S : Nat → Prop) (a b : Int) (A : Option Addr) (k c : Nat) (w : World) (ho : t.Ok) (hlen : t.txt.length ≤ 80) (_hS : ∀ x, S x → x < w.heap.size) (h : SN w S t (a, b, .slice A k c)) :
    Calls Tryz.prog 109 #[.agg #[.int .u8 a, .int .u8 b, .slice A k c]] w (SRuP (rFuse t) S w) := by
  obtain ⟨h0, hh⟩ : ∃ h, w.heap.size = h := ⟨_, rfl⟩
  obtain ⟨w1, hw1⟩ : ∃ w1, w.alloc (.cells #[.int .u8 a, .int .u8 b, .slice A k c] TN) = w1 := ⟨_, rfl⟩
  have z1 : w1.heap.size = h0 + 1 := by rw [← hw1, World.size_alloc, hh]
  obtain ⟨w2, hw2⟩ : ∃ w2, w1.alloc (.cells #[.int .u8 0, .int .u8 0, .slice none 0 0] TN) = w2 := ⟨_, rfl⟩
  have z2 : w2.heap.size = h0 + 2 := by rw [← hw2, World.size_alloc, z1]
  have k1 : C3 w2 h0 (.int .u8 a) (.int .u8 b) (.slice A k c) TN := by rw [← hw2, ← hw1, ← hh]; exact (c3_new _ _ _ _ _).alloc _
  have k2 : C3 w2 (h0 + 1) (.int .u8 0) (.int .u8 0) (.slice none 0 0) TN := by rw [← hw2, ← z1]; exact c3_new _ _ _ _ _
  have g2 : w.grownBy w2 none := by rw [← hw2, ← hw1]; exact (World.grownBy_alloc _ _ none).trans (World.grownBy_alloc _ _ none)
  have K2 := Lib.hid k2
  have G2 := Lib.hid g2
  have HH := Lib.hid hh
  have p0 := k1.c0
  have p1 := k1.c1
  have p2 := k1.c2
  have r0 := k2.c0
  have r1 := k2.c1
  have r2 := k2.c2
  have f0 := k2.f 0
  have f1 := k2.f 1
  have f2 := k2.f 2
  by_cases h91 : a = 91
  · subst h91
    obtain ⟨s, u, rfl, hbl⟩ := h.is91 ho
    obtain ⟨g, a2, b2, A2, k3, c2, rfl, hg, hk0, q0, q1, q2, hs⟩ := h.part (j := 0) (x := s) rfl
    obtain ⟨g', a3, b3, A3, k4, c3, hgg, hg', hk1, t0, t1, t2, hu⟩ := h.part (j := 1) (x := u) rfl
    cases hgg
    simp only [Nat.zero_mul, Nat.zero_add, Nat.one_mul] at q0 q1 q2 t0 t1 t2
    have hk : ((k : Int) != 2) = false := by rw [h.cnt]; rfl
    have hk0i : (0 : Int) < (k : Int) := by omega
    have hk1i : (1 : Int) < (k : Int) := by omega
    have l0 := g2.cell t0 (by simp)
    have l1 := g2.cell t1 (by simp)
    have l2 := g2.cell t2 (by simp)
    have m0 := g2.cell q0 (by simp)
    have m1 := g2.cell q1 (by simp)
    have m2 := g2.cell q2 (by simp)
    by_cases h92 : a2 = 91
    · subst h92
      obtain ⟨s, t, rfl, hbl2⟩ := hs.is91 ho.2.2.1
      obtain ⟨gi, a4, b4, A4, k5, c4, rfl, hgi, hk5, i0, i1, i2, hsi⟩ := hs.part (j := 0) (x := s) rfl
      obtain ⟨gi', a5, b5, A5, k6, c5, hgg, hgi', hk6, j0, j1, j2, hti⟩ := hs.part (j := 1) (x := t) rfl
      cases hgg
      simp only [Nat.zero_mul, Nat.zero_add, Nat.one_mul] at i0 i1 i2 j0 j1 j2
      have hk5i : (0 : Int) < (k3 : Int) := by omega
      have hk6i : (1 : Int) < (k3 : Int) := by omega
      have hbg := isL_ge hbl
      have hb2g := isL_ge hbl2
      have HX := Lib.hid hsi
      have HY := Lib.hid hu
      have HT := Lib.hid hti
      have HO := Lib.hid ho
      have K1 := Lib.hid k1
      have I0 := Lib.hid i0
      have I1 := Lib.hid i1
      have I2 := Lib.hid i2
      have J0 := Lib.hid j0
      have J1 := Lib.hid j1
      have J2 := Lib.hid j2
      have HSS := Lib.hid _hS
      have HGI := Lib.hid (_hS gi hgi)
      have hul : u.txt.length ≤ 80 := by simp only [Tm.txt, List.length_cons, List.length_append] at hlen; omega
      have htl : t.txt.length ≤ 80 := by simp only [Tm.txt, List.length_cons, List.length_append] at hlen; omega
      have HUL := Lib.hid hul
      have HTL := Lib.hid htl
      obtain ⟨o, ho2⟩ : ∃ o, rFuse (.loop 91 b (.loop 91 b2 s t) u) = o := ⟨_, rfl⟩
      rw [ho2]
      have HO2 := Lib.hid ho2
      clear ho2 h k1 k2 g2 ho _hS hs hg q0 q1 q2 hg' t0 t1 t2 hu hgi i0 i1 i2 j0 j1 j2 hgi' hsi hti hul htl hlen
      have p2o := fun (o : Obj) => (World.grownBy_alloc w2 o none).cell p2 (by simp)
      have p2p := fun (o o' : Obj) => ((World.grownBy_alloc w2 o none).trans (World.grownBy_alloc _ o' none)).cell p2 (by simp)
      have l0o := fun (o : Obj) => (World.grownBy_alloc w2 o none).cell l0 (by simp)
      have l0p := fun (o o' : Obj) => ((World.grownBy_alloc w2 o none).trans (World.grownBy_alloc _ o' none)).cell l0 (by simp)
      have l1o := fun (o : Obj) => (World.grownBy_alloc w2 o none).cell l1 (by simp)
      have l1p := fun (o o' : Obj) => ((World.grownBy_alloc w2 o none).trans (World.grownBy_alloc _ o' none)).cell l1 (by simp)
      have l2o := fun (o : Obj) => (World.grownBy_alloc w2 o none).cell l2 (by simp)
      have l2p := fun (o o' : Obj) => ((World.grownBy_alloc w2 o none).trans (World.grownBy_alloc _ o' none)).cell l2 (by simp)
      have m0o := fun (o : Obj) => (World.grownBy_alloc w2 o none).cell m0 (by simp)
      have m0p := fun (o o' : Obj) => ((World.grownBy_alloc w2 o none).trans (World.grownBy_alloc _ o' none)).cell m0 (by simp)
      have m1o := fun (o : Obj) => (World.grownBy_alloc w2 o none).cell m1 (by simp)
      have m1p := fun (o o' : Obj) => ((World.grownBy_alloc w2 o none).trans (World.grownBy_alloc _ o' none)).cell m1 (by simp)
      have m2o := fun (o : Obj) => (World.grownBy_alloc w2 o none).cell m2 (by simp)
      have m2p := fun (o o' : Obj) => ((World.grownBy_alloc w2 o none).trans (World.grownBy_alloc _ o' none)).cell m2 (by simp)
      go_enter Tryz.func109, Tryz.ntmps109
      go_upto_region 3 with fail
      go_cut [4, 5] (fun p q wx => ∃ bx bY, NBf w wx h0 91 b (.slice (some ⟨g, 0, none⟩) k c) (.int .u8 91, .int .u8 b2, .slice (some ⟨gi, 0, none⟩) k3 c2) (.int .u8 a3, .int .u8 b3, .slice A3 k4 c3) p q bx bY)
      case first =>
        go_region
        all_goals
          go_wp2_with fail
        all_goals
          go_meet
          first
            | exact ⟨h0 + 2, h0 + 2 + 1, rfl, rfl, (K1.out.alloc _).alloc _, (K2.out.alloc _).alloc _, ((show C3 (w2.alloc (.cells #[.int .u8 91, .int .u8 b2, .slice (some ⟨gi, 0, none⟩) k3 c2] TN)) (h0 + 2) (.int .u8 91) (.int .u8 b2) (.slice (some ⟨gi, 0, none⟩) k3 c2) TN from by rw [← z2]; exact c3_new _ _ _ _ _).alloc _), (show C3 ((w2.alloc (.cells #[.int .u8 91, .int .u8 b2, .slice (some ⟨gi, 0, none⟩) k3 c2] TN)).alloc (.cells #[.int .u8 a3, .int .u8 b3, .slice A3 k4 c3] TN)) (h0 + 2 + 1) (.int .u8 a3) (.int .u8 b3) (.slice A3 k4 c3) TN from by rw [← z2, ← World.size_alloc w2 (.cells #[.int .u8 91, .int .u8 b2, .slice (some ⟨gi, 0, none⟩) k3 c2] TN)]; exact c3_new _ _ _ _ _), G2.out.trans (((World.grownBy_alloc _ _ none).trans (World.grownBy_alloc _ _ none)).trans (gr_drewN _ 1 none)), by omega, by omega⟩
            | exact ⟨h0 + 2 + 1, h0 + 2, rfl, rfl, (K1.out.alloc _).alloc _, (K2.out.alloc _).alloc _, (show C3 ((w2.alloc (.cells #[.int .u8 a3, .int .u8 b3, .slice A3 k4 c3] TN)).alloc (.cells #[.int .u8 91, .int .u8 b2, .slice (some ⟨gi, 0, none⟩) k3 c2] TN)) (h0 + 2 + 1) (.int .u8 91) (.int .u8 b2) (.slice (some ⟨gi, 0, none⟩) k3 c2) TN from by rw [← z2, ← World.size_alloc w2 (.cells #[.int .u8 a3, .int .u8 b3, .slice A3 k4 c3] TN)]; exact c3_new _ _ _ _ _), ((show C3 (w2.alloc (.cells #[.int .u8 a3, .int .u8 b3, .slice A3 k4 c3] TN)) (h0 + 2) (.int .u8 a3) (.int .u8 b3) (.slice A3 k4 c3) TN from by rw [← z2]; exact c3_new _ _ _ _ _).alloc _), G2.out.trans (((World.grownBy_alloc _ _ none).trans (World.grownBy_alloc _ _ none)).trans (gr_drewN _ 1 none)), by omega, by omega⟩
      case rest =>
        obtain ⟨bx, bY, hB⟩ := hcut
        obtain ⟨rfl, rfl, kn, kr, kx, ky, gx, hnx, hny⟩ := hB
        have KN := Lib.hid kn
        have KR := Lib.hid kr
        have KX := Lib.hid kx
        have KY := Lib.hid ky
        have GX := Lib.hid gx
        have HNX := Lib.hid hnx
        clear hny
        have hub := Nat.le_trans (Tm.uses_hi b HUL.out) (show 655360 ≤ 1000000 by omega)
        have HCN := Lib.hid (fun (w' : World) (hg : w.grownBy w' none) => scnt_any u.size u S a3 b3 A3 k4 c3 b w' (Nat.le_refl _) HO.out.2.2.2 (by omega) hub (HY.out.grown hg))
        have HFR := Lib.hid (fun (w' : World) (hg : w.grownBy w' none) => sfree_any u.size u S a3 b3 A3 k4 c3 b2 w' (Nat.le_refl _) HO.out.2.2.2 (by omega) (HY.out.grown hg))
        have hts : t.size ≤ 1000000 := by have := t.size_txt; have := HTL.out; omega
        have hus : u.size ≤ 1000000 := by have := u.size_txt; have := HUL.out; omega
        have HRP := Lib.hid (fun (w' : World) (hg : w.grownBy w' none) => srep_any u.size u t a3 b3 b a5 b5 A3 A5 k4 c3 k6 c5 S w' (Nat.le_refl _) hus HO.out.2.2.2 HO.out.2.2.1.2.2.2 (by omega) hts (fun x hx => Nat.lt_of_lt_of_le (HSS.out x hx) hg.size) (HY.out.grown hg) (HT.out.grown hg))
        clear hub hts hus m0 m1 m2 l0 l1 l2 p0 p1 p2 r0 r1 r2 f0 f1 f2 m0o m0p m1o m1p m2o m2p l0o l0p l1o l1p l2o l2p p2o p2p K2 K1 G2
        have n1 := kn.c1
        have x1 := kx.c1
        have y0 := ky.c0
        have y1 := ky.c1
        have y2 := ky.c2
        have r0 := kr.c0
        have r1 := kr.c1
        have r2 := kr.c2
        have f0 := kr.f 0
        have f1 := kr.f 1
        have f2 := kr.f 2
        clear kn kr kx ky gx hnx
        go_wp2_with fail
        refine (HCN.out _ GX.out).mono ?_
        rintro e wy ⟨rfl, hgy⟩
        have GY := Lib.hid (GX.out.trans hgy)
        have KNy := Lib.hid (KN.out.grown hgy (by simp))
        have KRy := Lib.hid (KR.out.grown hgy (by simp))
        have KXy := Lib.hid (KX.out.grown hgy (by simp))
        have KYy := Lib.hid (KY.out.grown hgy (by simp))
        have n1y := KNy.out.c1
        have x1y := KXy.out.c1
        have x2y := KXy.out.c2
        have y0y := KYy.out.c0
        have y1y := KYy.out.c1
        have y2y := KYy.out.c2
        have r0y := KRy.out.c0
        have r1y := KRy.out.c1
        have r2y := KRy.out.c2
        have f0y := KRy.out.f 0
        have f1y := KRy.out.f 1
        have f2y := KRy.out.f 2
        have HGy := Lib.hid hgy
        clear n1 x1 y0 y1 y2 r0 r1 r2 f0 f1 f2 hgy
        by_cases hz1 : 1 < u.uses b
        · have hgt : (1 : Int) < ((u.uses b : Nat) : Int) := by omega
          obtain rfl : o = none := by rw [← HO2.out]; exact rFuse_u hz1
          go_wp2_with fail
          have HL := Lib.hid (KRy.out.laid (x' := .int .u8 0) (y' := .int .u8 0) (z' := .slice none 0 0))
          have HG : Hid (w.grownBy (laid3 wy (h0 + 1) (.int .u8 0) (.int .u8 0) (.slice none 0 0)) none) := Lib.hid (gr_laid3n GY.out (by have := HH.out; omega) _ _ _)
          have n0 := HL.out.c0
          have n1 := HL.out.c1
          have n2 := HL.out.c2
          
          unfold laid3 at n0 n1 n2
          refine bodyPost_ret (v := .tuple #[.agg #[.int .u8 0, .int .u8 0, .slice none 0 0], .bool false]) (by simp [results, Tryz.results109, go_sem, n0, n1, n2]) rfl ?_
          exact ⟨_, _, _, _, _, rfl, HG.out, fun q hq => by cases hq⟩
        · have hgt : ¬ (1 : Int) < ((u.uses b : Nat) : Int) := by omega
          have HU1 : Hid (u.uses b ≤ 1) := Lib.hid (by omega)
          by_cases hbb : b2 = b
          · have hne : (b2 != b) = false := by simp [hbb]
            have hok : o = some (.loop 91 b2 s (u.rep b t)) := by rw [← HO2.out]; exact rFuse_o rfl rfl HU1.out (.inl hbb)
            subst hok
            clear hbb hz1
            have n1w := (KN.out.grown HGy.out (by simp)).c1
            have x2w := (KX.out.grown HGy.out (by simp)).c2
            have y0w := (KY.out.grown HGy.out (by simp)).c0
            have y1w := (KY.out.grown HGy.out (by simp)).c1
            have y2w := (KY.out.grown HGy.out (by simp)).c2
            have j0w := GY.out.cell J0.out (by simp)
            have j1w := GY.out.cell J1.out (by simp)
            have j2w := GY.out.cell J2.out (by simp)
            have n1o := fun (o : Obj) => (World.grownBy_alloc wy o none).cell n1w (by simp)
            have x2o := fun (o : Obj) => (World.grownBy_alloc wy o none).cell x2w (by simp)
            have y0o := fun (o : Obj) => (World.grownBy_alloc wy o none).cell y0w (by simp)
            have y1o := fun (o : Obj) => (World.grownBy_alloc wy o none).cell y1w (by simp)
            have y2o := fun (o : Obj) => (World.grownBy_alloc wy o none).cell y2w (by simp)
            have j0o := fun (o : Obj) => (World.grownBy_alloc wy o none).cell j0w (by simp)
            have j1o := fun (o : Obj) => (World.grownBy_alloc wy o none).cell j1w (by simp)
            have j2o := fun (o : Obj) => (World.grownBy_alloc wy o none).cell j2w (by simp)
            have hbi := Tm.uses_binds u b t HU1.out
            have HRQ : Hid (∀ w' : World, w.grownBy w' none → Calls Tryz.prog 30 #[.agg #[.int .u8 a3, .int .u8 b3, .slice A3 k4 c3], .int .u8 b, .agg #[.int .u8 a5, .int .u8 b5, .slice A5 k6 c5]] w' (SRP (u.rep b t) true S w')) := Lib.hid (fun w' hg => by have := HRP.out w' hg; rw [hbi] at this; exact this)
            have hsz := (KR.out.grown HGy.out (by simp)).lt
            have HSZ := Lib.hid hsz
            have HA : Hid (w.grownBy wy.drew none) := Lib.hid (GY.out.trans (gr_drewN wy 1 none))
            have HB : Hid (w.grownBy (wy.alloc (.cells #[.int .u8 0, .int .u8 0, .slice none 0 0] TN)).drew none) := Lib.hid (GY.out.trans ((World.grownBy_alloc wy _ none).trans (gr_drewN _ 1 none)))
            have HE0 : Hid (¬ h0 = wy.heap.size) := Lib.hid (by omega)
            have HEx : Hid (¬ bx = wy.heap.size) := Lib.hid (by have := (KX.out.grown HGy.out (by simp)).lt; omega)
            have HEy : Hid (¬ bY = wy.heap.size) := Lib.hid (by have := (KY.out.grown HGy.out (by simp)).lt; omega)
            have HEg : Hid (¬ gi = wy.heap.size) := Lib.hid (by have := HGI.out; have := GY.out.size; omega)
            clear hbi hsz
            go_upto_region 6 with fail
            go_cut [6, 7] (fun p q wx => ∃ b6 a6 n6 sv6, NBo w wx S h0 bx (.int .u8 91, .int .u8 b2, .slice (some ⟨gi, 0, none⟩) k3 c2) (u.rep b t) p q b6 a6 n6 sv6)
            case first =>
              go_region_held3 (fun w' => w'.cell? ⟨h0, 1, none⟩ = some (.int .u8 b) ∧ w'.cell? ⟨bx, 2, none⟩ = some (.slice (some ⟨gi, 0, none⟩) k3 c2) ∧ w'.cell? ⟨bY, 0, none⟩ = some (.int .u8 a3) ∧ w'.cell? ⟨bY, 1, none⟩ = some (.int .u8 b3) ∧ w'.cell? ⟨bY, 2, none⟩ = some (.slice A3 k4 c3) ∧ w'.cell? ⟨gi, 3, none⟩ = some (.int .u8 a5) ∧ w'.cell? ⟨gi, 3 + 1, none⟩ = some (.int .u8 b5) ∧ w'.cell? ⟨gi, 3 + 2, none⟩ = some (.slice A5 k6 c5)) (go_keep)
                (first
                  | (go_at_call 30
                     (with_reducible refine (HRQ.out _ HA.out).mono ?_)
                     rintro e wv ⟨a6, n6, A6, k6', c6, rfl, hgv, hsv⟩
                     have hgg := HGy.out.trans ((gr_drewN wy 1 none).trans hgv)
                     have GV := Lib.hid (GX.out.trans hgg)
                     have KRV := Lib.hid (KR.out.grown hgg (by simp))
                     have KXV := Lib.hid (KX.out.grown hgg (by simp))
                     have HSV : Hid (SN wv (fun x => S x ∨ h0 + 2 ≤ x) (u.rep b t) (a6, n6, .slice A6 k6' c6)) := Lib.hid (hsv.keep (fun _ _ _ => rfl) (fun b hb _ => hb.imp id (fun h => by have h1 := HSZ.out; have h2 : (wy.drew).heap.size = wy.heap.size := rfl; omega)) _ _)
                     have n1v := (KN.out.grown hgg (by simp)).c1
                     have x2v := (KX.out.grown hgg (by simp)).c2
                     have y0v := (KY.out.grown hgg (by simp)).c0
                     have y1v := (KY.out.grown hgg (by simp)).c1
                     have y2v := (KY.out.grown hgg (by simp)).c2
                     have j0v := GV.out.cell J0.out (by simp)
                     have j1v := GV.out.cell J1.out (by simp)
                     have j2v := GV.out.cell J2.out (by simp)
                     have n1vo := fun (o : Obj) => (World.grownBy_alloc wv o none).cell n1v (by simp)
                     have x2vo := fun (o : Obj) => (World.grownBy_alloc wv o none).cell x2v (by simp)
                     have y0vo := fun (o : Obj) => (World.grownBy_alloc wv o none).cell y0v (by simp)
                     have y1vo := fun (o : Obj) => (World.grownBy_alloc wv o none).cell y1v (by simp)
                     have y2vo := fun (o : Obj) => (World.grownBy_alloc wv o none).cell y2v (by simp)
                     have j0vo := fun (o : Obj) => (World.grownBy_alloc wv o none).cell j0v (by simp)
                     have j1vo := fun (o : Obj) => (World.grownBy_alloc wv o none).cell j1v (by simp)
                     have j2vo := fun (o : Obj) => (World.grownBy_alloc wv o none).cell j2v (by simp)
                     clear hgv hsv hgg)
                  | (go_at_call 30
                     (with_reducible refine (HRQ.out _ HB.out).mono ?_)
                     rintro e wv ⟨a6, n6, A6, k6', c6, rfl, hgv, hsv⟩
                     have hgg := HGy.out.trans (((World.grownBy_alloc wy (.cells #[.int .u8 0, .int .u8 0, .slice none 0 0] TN) none).trans (gr_drewN _ 1 none)).trans hgv)
                     have GV := Lib.hid (GX.out.trans hgg)
                     have KRV := Lib.hid (KR.out.grown hgg (by simp))
                     have KXV := Lib.hid (KX.out.grown hgg (by simp))
                     have HSV : Hid (SN wv (fun x => S x ∨ wy.heap.size + 1 ≤ x) (u.rep b t) (a6, n6, .slice A6 k6' c6)) := Lib.hid (hsv.keep (fun _ _ _ => rfl) (fun b hb _ => hb.imp id (fun h => by have h2 : ((wy.alloc (.cells #[.int .u8 0, .int .u8 0, .slice none 0 0] TN)).drew).heap.size = wy.heap.size + 1 := World.size_alloc _ _; omega)) _ _)
                     have KOV : Hid (C3 wv wy.heap.size (.int .u8 0) (.int .u8 0) (.slice none 0 0) TN) := Lib.hid ((show C3 (wy.alloc (.cells #[.int .u8 0, .int .u8 0, .slice none 0 0] TN)).drew wy.heap.size (.int .u8 0) (.int .u8 0) (.slice none 0 0) TN from c3_new wy _ _ _ _).grown hgv (by simp))
                     have o0v := KOV.out.c0
                     have o1v := KOV.out.c1
                     have o2v := KOV.out.c2
                     have of0 := KOV.out.f 0
                     have of1 := KOV.out.f 1
                     have of2 := KOV.out.f 2
                     have n1v := (KN.out.grown hgg (by simp)).c1
                     have x2v := (KX.out.grown hgg (by simp)).c2
                     have y0v := (KY.out.grown hgg (by simp)).c0
                     have y1v := (KY.out.grown hgg (by simp)).c1
                     have y2v := (KY.out.grown hgg (by simp)).c2
                     have j0v := GV.out.cell J0.out (by simp)
                     have j1v := GV.out.cell J1.out (by simp)
                     have j2v := GV.out.cell J2.out (by simp)
                     have n1vo := fun (o : Obj) => (World.grownBy_alloc wv o none).cell n1v (by simp)
                     have x2vo := fun (o : Obj) => (World.grownBy_alloc wv o none).cell x2v (by simp)
                     have y0vo := fun (o : Obj) => (World.grownBy_alloc wv o none).cell y0v (by simp)
                     have y1vo := fun (o : Obj) => (World.grownBy_alloc wv o none).cell y1v (by simp)
                     have y2vo := fun (o : Obj) => (World.grownBy_alloc wv o none).cell y2v (by simp)
                     have j0vo := fun (o : Obj) => (World.grownBy_alloc wv o none).cell j0v (by simp)
                     have j1vo := fun (o : Obj) => (World.grownBy_alloc wv o none).cell j1v (by simp)
                     have j2vo := fun (o : Obj) => (World.grownBy_alloc wv o none).cell j2v (by simp)
                     have n1l := fun (u v t : Value) => (gr_lay wv wy.heap.size u v t).cell n1v (by simp; exact HE0.out)
                     have x2l := fun (u v t : Value) => (gr_lay wv wy.heap.size u v t).cell x2v (by simp; exact HEx.out)
                     have y0l := fun (u v t : Value) => (gr_lay wv wy.heap.size u v t).cell y0v (by simp; exact HEy.out)
                     have y1l := fun (u v t : Value) => (gr_lay wv wy.heap.size u v t).cell y1v (by simp; exact HEy.out)
                     have y2l := fun (u v t : Value) => (gr_lay wv wy.heap.size u v t).cell y2v (by simp; exact HEy.out)
                     have j0l := fun (u v t : Value) => (gr_lay wv wy.heap.size u v t).cell j0v (by simp; exact HEg.out)
                     have j1l := fun (u v t : Value) => (gr_lay wv wy.heap.size u v t).cell j1v (by simp; exact HEg.out)
                     have j2l := fun (u v t : Value) => (gr_lay wv wy.heap.size u v t).cell j2v (by simp; exact HEg.out)
                     simp only [laid3] at n1l x2l y0l y1l y2l j0l j1l j2l
                     clear hgv hsv hgg))
              all_goals
                go_wp2_with fail
              all_goals
                go_meet
                first
                  | exact ⟨_, _, _, _, rfl, rfl, KRV.out.alloc _, KXV.out.alloc _, c3_new wv _ _ _ _, HSV.out.grown (World.grownBy_alloc _ _ _), GV.out.trans (World.grownBy_alloc _ _ none), by have := KRV.out.lt; omega⟩
                  | exact ⟨wy.heap.size, _, _, _, rfl, rfl, KRV.out.aside (by have := HSZ.out; omega), KXV.out.aside HEx.out, KOV.out.laid,
                      HSV.out.keep (fun b hb _ => laid3_heap _ _ _ _ _ _ (by rcases hb with hb | hb <;> first | omega | (have h9 := HSS.out b hb; have h8 := HSZ.out; have h7 := HH.out; omega))) (fun b hb _ => hb.imp id (fun h => by have := HSZ.out; omega)) _ _,
                      gr_laid3n GV.out (by have := HSZ.out; have := HH.out; omega) _ _ _, by have := HSZ.out; omega⟩
            case rest =>
              obtain ⟨b6, a6, n6, sv6, rfl, rfl, krc, kxc, koc, hsn, gc, hno⟩ := hcut
              have KRC := Lib.hid krc
              have GC := Lib.hid gc
              have HSN := Lib.hid hsn
              have HNO := Lib.hid hno
              have x1c := kxc.c1
              have x2c := kxc.c2
              have g0c := gc.cell I0.out (by simp)
              have g1c := gc.cell I1.out (by simp)
              have g2c := gc.cell I2.out (by simp)
              have o0c := koc.c0
              have o1c := koc.c1
              have o2c := koc.c2
              have r0c := krc.c0
              have r1c := krc.c1
              have r2c := krc.c2
              have f0c := krc.f 0
              have f1c := krc.f 1
              have f2c := krc.f 2
              have x1co := fun (o : Obj) => (kxc.alloc o).c1
              have r0co := fun (o : Obj) => (krc.alloc o).c0
              have r1co := fun (o : Obj) => (krc.alloc o).c1
              have r2co := fun (o : Obj) => (krc.alloc o).c2
              have f0co := fun (o : Obj) => (krc.alloc o).f 0
              have f1co := fun (o : Obj) => (krc.alloc o).f 1
              have f2co := fun (o : Obj) => (krc.alloc o).f 2
              clear krc kxc koc hsn gc hno
              go_wp2_with fail
              go_region
              all_goals
                go_wp2_with fail
                have HL := Lib.hid ((KRC.out.alloc (.cells #[.int .u8 a4, .int .u8 b4, .slice A4 k5 c4, .int .u8 a6, .int .u8 n6, sv6] TN)).laid (x' := .int .u8 91) (y' := .int .u8 b2) (z' := .slice (some ⟨wc.heap.size, 0, none⟩) 2 2))
                have HG : Hid (w.grownBy (laid3 (wc.alloc (.cells #[.int .u8 a4, .int .u8 b4, .slice A4 k5 c4, .int .u8 a6, .int .u8 n6, sv6] TN)) (h0 + 1) (.int .u8 91) (.int .u8 b2) (.slice (some ⟨wc.heap.size, 0, none⟩) 2 2)) none) := Lib.hid (gr_laid3n (GC.out.trans (World.grownBy_alloc _ _ none)) (by have := HH.out; omega) _ _ _)
                have n0 := HL.out.c0
                have n1 := HL.out.c1
                have n2 := HL.out.c2
                unfold laid3 at n0 n1 n2
                refine bodyPost_ret (v := .tuple #[.agg #[.int .u8 91, .int .u8 b2, .slice (some ⟨wc.heap.size, 0, none⟩) 2 2], .bool true]) (by simp [results, Tryz.results109, go_sem, n0, n1, n2]) rfl ?_
                refine ⟨_, _, _, _, _, rfl, HG.out.trans (gr_drewN _ 1 none), fun q hq => ?_⟩
                cases hq
                refine SN.grown (w := laid3 (wc.alloc (.cells #[.int .u8 a4, .int .u8 b4, .slice A4 k5 c4, .int .u8 a6, .int .u8 n6, sv6] TN)) (h0 + 1) (.int .u8 91) (.int .u8 b2) (.slice (some ⟨wc.heap.size, 0, none⟩) 2 2)) ?_ (gr_drewN _ 1 none)
                refine ⟨rfl, rfl, (a4, b4, .slice A4 k5 c4), (a6, n6, sv6), own_keep (row6_new rfl) (fun g hg => laid3_heap _ _ _ _ _ _ ?_), fun g hg => .inr ?_, HX.out.keep (fun b _ hl => HG.out.block b hl (by simp)) (fun b hb _ => .inl hb) _ _,
                  (HSN.out.grown (World.grownBy_alloc _ _ _)).keep (fun b hb _ => laid3_heap _ _ _ _ _ _ (by rcases hb with hb | hb <;> first | omega | (have h9 := HSS.out b hb; have h7 := HH.out; omega))) (fun b hb _ => hb.imp id (fun h => by have := HH.out; omega)) _ _⟩
                · simp [Value.ownBlock] at hg
                  have := KRC.out.lt
                  omega
                · simp [Value.ownBlock] at hg
                  have := GC.out.size
                  omega
          · have hne : (b2 != b) = true := by simp [hbb]
            have HBB := Lib.hid hbb
            clear hbb hz1
            go_wp2_with fail
            refine (HFR.out _ GY.out).mono ?_
            rintro e wz ⟨rfl, hgz⟩
            have GZ := Lib.hid (GY.out.trans hgz)
            have HGz := Lib.hid (HGy.out.trans hgz)
            have KRz := Lib.hid (KR.out.grown HGz.out (by simp))
            have r0z := KRz.out.c0
            have r1z := KRz.out.c1
            have r2z := KRz.out.c2
            have f0z := KRz.out.f 0
            have f1z := KRz.out.f 1
            have f2z := KRz.out.f 2
            clear hgz n1y x1y x2y y0y y1y y2y r0y r1y r2y f0y f1y f2y
            have hfu := u.uses_free b2
            by_cases hz2 : 0 < u.uses b2
            · have hft : u.free b2 = true := by rw [hfu]; simpa using hz2
              obtain rfl : o = none := by rw [← HO2.out]; exact rFuse_i HBB.out hz2
              go_wp2_with fail
              have HL := Lib.hid (KRz.out.laid (x' := .int .u8 0) (y' := .int .u8 0) (z' := .slice none 0 0))
              have HG : Hid (w.grownBy (laid3 wz (h0 + 1) (.int .u8 0) (.int .u8 0) (.slice none 0 0)) none) := Lib.hid (gr_laid3n GZ.out (by have := HH.out; omega) _ _ _)
              have n0 := HL.out.c0
              have n1 := HL.out.c1
              have n2 := HL.out.c2
              
              unfold laid3 at n0 n1 n2
              refine bodyPost_ret (v := .tuple #[.agg #[.int .u8 0, .int .u8 0, .slice none 0 0], .bool false]) (by simp [results, Tryz.results109, go_sem, n0, n1, n2]) rfl ?_
              exact ⟨_, _, _, _, _, rfl, HG.out, fun q hq => by cases hq⟩
            · have hft : u.free b2 = false := by rw [hfu]; simpa using hz2
              have hok : o = some (.loop 91 b2 s (u.rep b t)) := by rw [← HO2.out]; exact rFuse_o rfl rfl HU1.out (.inr (by omega))
              subst hok
              clear hz2 hfu
              have n1w := (KN.out.grown HGz.out (by simp)).c1
              have x2w := (KX.out.grown HGz.out (by simp)).c2
              have y0w := (KY.out.grown HGz.out (by simp)).c0
              have y1w := (KY.out.grown HGz.out (by simp)).c1
              have y2w := (KY.out.grown HGz.out (by simp)).c2
              have j0w := GZ.out.cell J0.out (by simp)
              have j1w := GZ.out.cell J1.out (by simp)
              have j2w := GZ.out.cell J2.out (by simp)
              have n1o := fun (o : Obj) => (World.grownBy_alloc wz o none).cell n1w (by simp)
              have x2o := fun (o : Obj) => (World.grownBy_alloc wz o none).cell x2w (by simp)
              have y0o := fun (o : Obj) => (World.grownBy_alloc wz o none).cell y0w (by simp)
              have y1o := fun (o : Obj) => (World.grownBy_alloc wz o none).cell y1w (by simp)
              have y2o := fun (o : Obj) => (World.grownBy_alloc wz o none).cell y2w (by simp)
              have j0o := fun (o : Obj) => (World.grownBy_alloc wz o none).cell j0w (by simp)
              have j1o := fun (o : Obj) => (World.grownBy_alloc wz o none).cell j1w (by simp)
              have j2o := fun (o : Obj) => (World.grownBy_alloc wz o none).cell j2w (by simp)
              have hbi := Tm.uses_binds u b t HU1.out
              have HRQ : Hid (∀ w' : World, w.grownBy w' none → Calls Tryz.prog 30 #[.agg #[.int .u8 a3, .int .u8 b3, .slice A3 k4 c3], .int .u8 b, .agg #[.int .u8 a5, .int .u8 b5, .slice A5 k6 c5]] w' (SRP (u.rep b t) true S w')) := Lib.hid (fun w' hg => by have := HRP.out w' hg; rw [hbi] at this; exact this)
              have hsz := (KR.out.grown HGz.out (by simp)).lt
              have HSZ := Lib.hid hsz
              have HA : Hid (w.grownBy wz.drew none) := Lib.hid (GZ.out.trans (gr_drewN wz 1 none))
              have HB : Hid (w.grownBy (wz.alloc (.cells #[.int .u8 0, .int .u8 0, .slice none 0 0] TN)).drew none) := Lib.hid (GZ.out.trans ((World.grownBy_alloc wz _ none).trans (gr_drewN _ 1 none)))
              have HE0 : Hid (¬ h0 = wz.heap.size) := Lib.hid (by omega)
              have HEx : Hid (¬ bx = wz.heap.size) := Lib.hid (by have := (KX.out.grown HGz.out (by simp)).lt; omega)
              have HEy : Hid (¬ bY = wz.heap.size) := Lib.hid (by have := (KY.out.grown HGz.out (by simp)).lt; omega)
              have HEg : Hid (¬ gi = wz.heap.size) := Lib.hid (by have := HGI.out; have := GZ.out.size; omega)
              clear hbi hsz
              go_upto_region 6 with fail
              go_cut [6, 7] (fun p q wx => ∃ b6 a6 n6 sv6, NBo w wx S h0 bx (.int .u8 91, .int .u8 b2, .slice (some ⟨gi, 0, none⟩) k3 c2) (u.rep b t) p q b6 a6 n6 sv6)
              case first =>
                go_region_held3 (fun w' => w'.cell? ⟨h0, 1, none⟩ = some (.int .u8 b) ∧ w'.cell? ⟨bx, 2, none⟩ = some (.slice (some ⟨gi, 0, none⟩) k3 c2) ∧ w'.cell? ⟨bY, 0, none⟩ = some (.int .u8 a3) ∧ w'.cell? ⟨bY, 1, none⟩ = some (.int .u8 b3) ∧ w'.cell? ⟨bY, 2, none⟩ = some (.slice A3 k4 c3) ∧ w'.cell? ⟨gi, 3, none⟩ = some (.int .u8 a5) ∧ w'.cell? ⟨gi, 3 + 1, none⟩ = some (.int .u8 b5) ∧ w'.cell? ⟨gi, 3 + 2, none⟩ = some (.slice A5 k6 c5)) (go_keep)
                  (first
                    | (go_at_call 30
                       (with_reducible refine (HRQ.out _ HA.out).mono ?_)
                       rintro e wv ⟨a6, n6, A6, k6', c6, rfl, hgv, hsv⟩
                       have hgg := HGz.out.trans ((gr_drewN wz 1 none).trans hgv)
                       have GV := Lib.hid (GX.out.trans hgg)
                       have KRV := Lib.hid (KR.out.grown hgg (by simp))
                       have KXV := Lib.hid (KX.out.grown hgg (by simp))
                       have HSV : Hid (SN wv (fun x => S x ∨ h0 + 2 ≤ x) (u.rep b t) (a6, n6, .slice A6 k6' c6)) := Lib.hid (hsv.keep (fun _ _ _ => rfl) (fun b hb _ => hb.imp id (fun h => by have h1 := HSZ.out; have h2 : (wz.drew).heap.size = wz.heap.size := rfl; omega)) _ _)
                       have n1v := (KN.out.grown hgg (by simp)).c1
                       have x2v := (KX.out.grown hgg (by simp)).c2
                       have y0v := (KY.out.grown hgg (by simp)).c0
                       have y1v := (KY.out.grown hgg (by simp)).c1
                       have y2v := (KY.out.grown hgg (by simp)).c2
                       have j0v := GV.out.cell J0.out (by simp)
                       have j1v := GV.out.cell J1.out (by simp)
                       have j2v := GV.out.cell J2.out (by simp)
                       have n1vo := fun (o : Obj) => (World.grownBy_alloc wv o none).cell n1v (by simp)
                       have x2vo := fun (o : Obj) => (World.grownBy_alloc wv o none).cell x2v (by simp)
                       have y0vo := fun (o : Obj) => (World.grownBy_alloc wv o none).cell y0v (by simp)
                       have y1vo := fun (o : Obj) => (World.grownBy_alloc wv o none).cell y1v (by simp)
                       have y2vo := fun (o : Obj) => (World.grownBy_alloc wv o none).cell y2v (by simp)
                       have j0vo := fun (o : Obj) => (World.grownBy_alloc wv o none).cell j0v (by simp)
                       have j1vo := fun (o : Obj) => (World.grownBy_alloc wv o none).cell j1v (by simp)
                       have j2vo := fun (o : Obj) => (World.grownBy_alloc wv o none).cell j2v (by simp)
                       clear hgv hsv hgg)
                    | (go_at_call 30
                       (with_reducible refine (HRQ.out _ HB.out).mono ?_)
                       rintro e wv ⟨a6, n6, A6, k6', c6, rfl, hgv, hsv⟩
                       have hgg := HGz.out.trans (((World.grownBy_alloc wz (.cells #[.int .u8 0, .int .u8 0, .slice none 0 0] TN) none).trans (gr_drewN _ 1 none)).trans hgv)
                       have GV := Lib.hid (GX.out.trans hgg)
                       have KRV := Lib.hid (KR.out.grown hgg (by simp))
                       have KXV := Lib.hid (KX.out.grown hgg (by simp))
                       have HSV : Hid (SN wv (fun x => S x ∨ wz.heap.size + 1 ≤ x) (u.rep b t) (a6, n6, .slice A6 k6' c6)) := Lib.hid (hsv.keep (fun _ _ _ => rfl) (fun b hb _ => hb.imp id (fun h => by have h2 : ((wz.alloc (.cells #[.int .u8 0, .int .u8 0, .slice none 0 0] TN)).drew).heap.size = wz.heap.size + 1 := World.size_alloc _ _; omega)) _ _)
                       have KOV : Hid (C3 wv wz.heap.size (.int .u8 0) (.int .u8 0) (.slice none 0 0) TN) := Lib.hid ((show C3 (wz.alloc (.cells #[.int .u8 0, .int .u8 0, .slice none 0 0] TN)).drew wz.heap.size (.int .u8 0) (.int .u8 0) (.slice none 0 0) TN from c3_new wz _ _ _ _).grown hgv (by simp))
                       have o0v := KOV.out.c0
                       have o1v := KOV.out.c1
                       have o2v := KOV.out.c2
                       have of0 := KOV.out.f 0
                       have of1 := KOV.out.f 1
                       have of2 := KOV.out.f 2
                       have n1v := (KN.out.grown hgg (by simp)).c1
                       have x2v := (KX.out.grown hgg (by simp)).c2
                       have y0v := (KY.out.grown hgg (by simp)).c0
                       have y1v := (KY.out.grown hgg (by simp)).c1
                       have y2v := (KY.out.grown hgg (by simp)).c2
                       have j0v := GV.out.cell J0.out (by simp)
                       have j1v := GV.out.cell J1.out (by simp)
                       have j2v := GV.out.cell J2.out (by simp)
                       have n1vo := fun (o : Obj) => (World.grownBy_alloc wv o none).cell n1v (by simp)
                       have x2vo := fun (o : Obj) => (World.grownBy_alloc wv o none).cell x2v (by simp)
                       have y0vo := fun (o : Obj) => (World.grownBy_alloc wv o none).cell y0v (by simp)
                       have y1vo := fun (o : Obj) => (World.grownBy_alloc wv o none).cell y1v (by simp)
                       have y2vo := fun (o : Obj) => (World.grownBy_alloc wv o none).cell y2v (by simp)
                       have j0vo := fun (o : Obj) => (World.grownBy_alloc wv o none).cell j0v (by simp)
                       have j1vo := fun (o : Obj) => (World.grownBy_alloc wv o none).cell j1v (by simp)
                       have j2vo := fun (o : Obj) => (World.grownBy_alloc wv o none).cell j2v (by simp)
                       have n1l := fun (u v t : Value) => (gr_lay wv wz.heap.size u v t).cell n1v (by simp; exact HE0.out)
                       have x2l := fun (u v t : Value) => (gr_lay wv wz.heap.size u v t).cell x2v (by simp; exact HEx.out)
                       have y0l := fun (u v t : Value) => (gr_lay wv wz.heap.size u v t).cell y0v (by simp; exact HEy.out)
                       have y1l := fun (u v t : Value) => (gr_lay wv wz.heap.size u v t).cell y1v (by simp; exact HEy.out)
                       have y2l := fun (u v t : Value) => (gr_lay wv wz.heap.size u v t).cell y2v (by simp; exact HEy.out)
                       have j0l := fun (u v t : Value) => (gr_lay wv wz.heap.size u v t).cell j0v (by simp; exact HEg.out)
                       have j1l := fun (u v t : Value) => (gr_lay wv wz.heap.size u v t).cell j1v (by simp; exact HEg.out)
                       have j2l := fun (u v t : Value) => (gr_lay wv wz.heap.size u v t).cell j2v (by simp; exact HEg.out)
                       simp only [laid3] at n1l x2l y0l y1l y2l j0l j1l j2l
                       clear hgv hsv hgg))
                all_goals
                  go_wp2_with fail
                all_goals
                  go_meet
                  first
                    | exact ⟨_, _, _, _, rfl, rfl, KRV.out.alloc _, KXV.out.alloc _, c3_new wv _ _ _ _, HSV.out.grown (World.grownBy_alloc _ _ _), GV.out.trans (World.grownBy_alloc _ _ none), by have := KRV.out.lt; omega⟩
                    | exact ⟨wz.heap.size, _, _, _, rfl, rfl, KRV.out.aside (by have := HSZ.out; omega), KXV.out.aside HEx.out, KOV.out.laid,
                        HSV.out.keep (fun b hb _ => laid3_heap _ _ _ _ _ _ (by rcases hb with hb | hb <;> first | omega | (have h9 := HSS.out b hb; have h8 := HSZ.out; have h7 := HH.out; omega))) (fun b hb _ => hb.imp id (fun h => by have := HSZ.out; omega)) _ _,
                        gr_laid3n GV.out (by have := HSZ.out; have := HH.out; omega) _ _ _, by have := HSZ.out; omega⟩
              case rest =>
                obtain ⟨b6, a6, n6, sv6, rfl, rfl, krc, kxc, koc, hsn, gc, hno⟩ := hcut
                have KRC := Lib.hid krc
                have GC := Lib.hid gc
                have HSN := Lib.hid hsn
                have HNO := Lib.hid hno
                have x1c := kxc.c1
                have x2c := kxc.c2
                have g0c := gc.cell I0.out (by simp)
                have g1c := gc.cell I1.out (by simp)
                have g2c := gc.cell I2.out (by simp)
                have o0c := koc.c0
                have o1c := koc.c1
                have o2c := koc.c2
                have r0c := krc.c0
                have r1c := krc.c1
                have r2c := krc.c2
                have f0c := krc.f 0
                have f1c := krc.f 1
                have f2c := krc.f 2
                have x1co := fun (o : Obj) => (kxc.alloc o).c1
                have r0co := fun (o : Obj) => (krc.alloc o).c0
                have r1co := fun (o : Obj) => (krc.alloc o).c1
                have r2co := fun (o : Obj) => (krc.alloc o).c2
                have f0co := fun (o : Obj) => (krc.alloc o).f 0
                have f1co := fun (o : Obj) => (krc.alloc o).f 1
                have f2co := fun (o : Obj) => (krc.alloc o).f 2
                clear krc kxc koc hsn gc hno
                go_wp2_with fail
                go_region
                all_goals
                  go_wp2_with fail
                  have HL := Lib.hid ((KRC.out.alloc (.cells #[.int .u8 a4, .int .u8 b4, .slice A4 k5 c4, .int .u8 a6, .int .u8 n6, sv6] TN)).laid (x' := .int .u8 91) (y' := .int .u8 b2) (z' := .slice (some ⟨wc.heap.size, 0, none⟩) 2 2))
                  have HG : Hid (w.grownBy (laid3 (wc.alloc (.cells #[.int .u8 a4, .int .u8 b4, .slice A4 k5 c4, .int .u8 a6, .int .u8 n6, sv6] TN)) (h0 + 1) (.int .u8 91) (.int .u8 b2) (.slice (some ⟨wc.heap.size, 0, none⟩) 2 2)) none) := Lib.hid (gr_laid3n (GC.out.trans (World.grownBy_alloc _ _ none)) (by have := HH.out; omega) _ _ _)
                  have n0 := HL.out.c0
                  have n1 := HL.out.c1
                  have n2 := HL.out.c2
                  unfold laid3 at n0 n1 n2
                  refine bodyPost_ret (v := .tuple #[.agg #[.int .u8 91, .int .u8 b2, .slice (some ⟨wc.heap.size, 0, none⟩) 2 2], .bool true]) (by simp [results, Tryz.results109, go_sem, n0, n1, n2]) rfl ?_
                  refine ⟨_, _, _, _, _, rfl, HG.out.trans (gr_drewN _ 1 none), fun q hq => ?_⟩
                  cases hq
                  refine SN.grown (w := laid3 (wc.alloc (.cells #[.int .u8 a4, .int .u8 b4, .slice A4 k5 c4, .int .u8 a6, .int .u8 n6, sv6] TN)) (h0 + 1) (.int .u8 91) (.int .u8 b2) (.slice (some ⟨wc.heap.size, 0, none⟩) 2 2)) ?_ (gr_drewN _ 1 none)
                  refine ⟨rfl, rfl, (a4, b4, .slice A4 k5 c4), (a6, n6, sv6), own_keep (row6_new rfl) (fun g hg => laid3_heap _ _ _ _ _ _ ?_), fun g hg => .inr ?_, HX.out.keep (fun b _ hl => HG.out.block b hl (by simp)) (fun b hb _ => .inl hb) _ _,
                    (HSN.out.grown (World.grownBy_alloc _ _ _)).keep (fun b hb _ => laid3_heap _ _ _ _ _ _ (by rcases hb with hb | hb <;> first | omega | (have h9 := HSS.out b hb; have h7 := HH.out; omega))) (fun b hb _ => hb.imp id (fun h => by have := HH.out; omega)) _ _⟩
                  · simp [Value.ownBlock] at hg
                    have := KRC.out.lt
                    omega
                  · simp [Value.ownBlock] at hg
                    have := GC.out.size
                    omega

    · have hb : (a2 != 91) = true := by simp [h92]
      rw [rFuse_p hs h92]
      clear h k1 k2 g2 ho _hS hs hg q0 q1 q2 hg' t0 t1 t2 hu h92
      go_enter Tryz.func109, Tryz.ntmps109
      go_wp2_with fail
      have HL := Lib.hid (K2.out.laid (x' := .int .u8 0) (y' := .int .u8 0) (z' := .slice none 0 0))
      have HG : Hid (w.grownBy (laid3 w2 (h0 + 1) (.int .u8 0) (.int .u8 0) (.slice none 0 0)) none) := Lib.hid (gr_laid3n G2.out (by have := HH.out; omega) _ _ _)
      have n0 := HL.out.c0
      have n1 := HL.out.c1
      have n2 := HL.out.c2
      clear f0 f1 f2
      unfold laid3 at n0 n1 n2
      refine bodyPost_ret (v := .tuple #[.agg #[.int .u8 0, .int .u8 0, .slice none 0 0], .bool false]) (by simp [results, Tryz.results109, go_sem, n0, n1, n2]) rfl ?_
      exact ⟨_, _, _, _, _, rfl, HG.out, fun q hq => by cases hq⟩
  · have hb : (a != 91) = true := by simp [h91]
    rw [rFuse_a h h91]
    clear h k1 k2 g2 ho _hS h91
    go_enter Tryz.func109, Tryz.ntmps109
    go_wp2_with fail
    have HL := Lib.hid (K2.out.laid (x' := .int .u8 0) (y' := .int .u8 0) (z' := .slice none 0 0))
    have HG : Hid (w.grownBy (laid3 w2 (h0 + 1) (.int .u8 0) (.int .u8 0) (.slice none 0 0)) none) := Lib.hid (gr_laid3n G2.out (by have := HH.out; omega) _ _ _)
    have n0 := HL.out.c0
    have n1 := HL.out.c1
    have n2 := HL.out.c2
    clear f0 f1 f2
    unfold laid3 at n0 n1 n2
    refine bodyPost_ret (v := .tuple #[.agg #[.int .u8 0, .int .u8 0, .slice none 0 0], .bool false]) (by simp [results, Tryz.results109, go_sem, n0, n1, n2]) rfl ?_
    exact ⟨_, _, _, _, _, rfl, HG.out, fun q hq => by cases hq⟩
end

/- SRlR -/
section
open Go.RowKit

/-- How it ends. -/
def SFrP (t : Tm) (S : Nat → Prop) (w : World) (e : Ending) (w' : World) : Prop :=
  ∃ a b A k c, e = .returned (.tuple #[.int .i64 ((rul t).1 : Int), .agg #[.int .u8 a, .int .u8 b, .slice A k c]]) ∧ w.grownBy w' none ∧ SN w' (fun x => S x ∨ w.heap.size ≤ x) (rul t).2 (a, b, .slice A k c)

theorem rul_at {t q : Tm} {j : Nat} (hj : j < 6) (hn : ∀ i, i < j → ruleN i t = none) (h : ruleN j t = some q) : rul t = (j + 1, q) := by
  unfold rul
  match j, hj with
  | 0, _ => exact rulF_some h
  | 1, _ => rw [rulF_none (hn 0 (by omega))]; exact rulF_some h
  | 2, _ => rw [rulF_none (hn 0 (by omega)), rulF_none (hn 1 (by omega))]; exact rulF_some h
  | 3, _ => rw [rulF_none (hn 0 (by omega)), rulF_none (hn 1 (by omega)), rulF_none (hn 2 (by omega))]; exact rulF_some h
  | 4, _ => rw [rulF_none (hn 0 (by omega)), rulF_none (hn 1 (by omega)), rulF_none (hn 2 (by omega)), rulF_none (hn 3 (by omega))]; exact rulF_some h
  | 5, _ => rw [rulF_none (hn 0 (by omega)), rulF_none (hn 1 (by omega)), rulF_none (hn 2 (by omega)), rulF_none (hn 3 (by omega)), rulF_none (hn 4 (by omega))]; exact rulF_some h
  | j + 6, hj => omega
theorem rul_no {t : Tm} (hn : ∀ i, i < 6 → ruleN i t = none) : rul t = (0, t) := by
  unfold rul
  rw [rulF_none (hn 0 (by omega)), rulF_none (hn 1 (by omega)), rulF_none (hn 2 (by omega)), rulF_none (hn 3 (by omega)), rulF_none (hn 4 (by omega)), rulF_none (hn 5 (by omega))]
  rfl

set_option maxRecDepth 100000 in
set_option maxHeartbeats 8000000 in
theorem srule_any (t : Tm) (S : Nat → Prop) (a b : Int) (A : Option Addr) (k c : Nat) (w : World) (ho : t.Ok) (hlen : t.txt.length ≤ 80) (_hS : ∀ x, S x → x < w.heap.size) (h : SN w S t (a, b, .slice A k c)) :
    Calls Tryz.prog 81 #[.agg #[.int .u8 a, .int .u8 b, .slice A k c]] w (SFrP t S w) := by
  obtain ⟨h0, hh⟩ : ∃ h, w.heap.size = h := ⟨_, rfl⟩
  obtain ⟨w1, hw1⟩ : ∃ w1, w.alloc (.cells #[.int .u8 a, .int .u8 b, .slice A k c] TN) = w1 := ⟨_, rfl⟩
  have z1 : w1.heap.size = h0 + 1 := by rw [← hw1, World.size_alloc, hh]
  obtain ⟨w2, hw2⟩ : ∃ w2, w1.alloc (.cells #[.int .u8 0, .int .u8 0, .slice none 0 0] TN) = w2 := ⟨_, rfl⟩
  have z2 : w2.heap.size = h0 + 2 := by rw [← hw2, World.size_alloc, z1]
  have k1 : C3 w2 h0 (.int .u8 a) (.int .u8 b) (.slice A k c) TN := by rw [← hw2, ← hw1, ← hh]; exact (c3_new _ _ _ _ _).alloc _
  have k2 : C3 w2 (h0 + 1) (.int .u8 0) (.int .u8 0) (.slice none 0 0) TN := by rw [← hw2, ← z1]; exact c3_new _ _ _ _ _
  have g2 : w.grownBy w2 none := by rw [← hw2, ← hw1]; exact (World.grownBy_alloc _ _ none).trans (World.grownBy_alloc _ _ none)
  have K2 := Lib.hid k2
  have G2 := Lib.hid g2
  have HH := Lib.hid hh
  have p0 := k1.c0
  have p1 := k1.c1
  have p2 := k1.c2
  have r0 := k2.c0
  have r1 := k2.c1
  have r2 := k2.c2
  have f0 := k2.f 0
  have f1 := k2.f 1
  have f2 := k2.f 2
  have H0 := Lib.hid (fun (w' : World) (hg : w.grownBy w' none) => srfold_any t S a b A k c w' ho (fun x hx => Nat.lt_of_lt_of_le (_hS x hx) hg.size) (h.grown hg))
  have H1 := Lib.hid (fun (w' : World) (hg : w.grownBy w' none) => srneut_any t S a b A k c w' ho (fun x hx => Nat.lt_of_lt_of_le (_hS x hx) hg.size) (h.grown hg))
  have H2 := Lib.hid (fun (w' : World) (hg : w.grownBy w' none) => srturn_any t S a b A k c w' ho (fun x hx => Nat.lt_of_lt_of_le (_hS x hx) hg.size) (h.grown hg))
  have H3 := Lib.hid (fun (w' : World) (hg : w.grownBy w' none) => srloop_any t S a b A k c w' ho (fun x hx => Nat.lt_of_lt_of_le (_hS x hx) hg.size) (h.grown hg))
  have H4 := Lib.hid (fun (w' : World) (hg : w.grownBy w' none) => srlen_any t S a b A k c w' ho (fun x hx => Nat.lt_of_lt_of_le (_hS x hx) hg.size) (h.grown hg))
  have H5 := Lib.hid (fun (w' : World) (hg : w.grownBy w' none) => srfuse_any t S a b A k c w' ho hlen (fun x hx => Nat.lt_of_lt_of_le (_hS x hx) hg.size) (h.grown hg))
  have HT := Lib.hid h
  have HSS := Lib.hid _hS
  have K1 := Lib.hid k1
  clear h k1 k2 g2 ho _hS hlen
  go_enter Tryz.func81, Tryz.ntmps81
  go_wp2_with fail
  refine (H0.out _ G2.out).mono ?_
  rintro e v0 ⟨a0, b0, A0, k0, c0, rfl, hg0, hq0⟩
  obtain ⟨y0, hy0⟩ : ∃ y, v0.alloc (.cells #[.int .u8 a0, .int .u8 b0, .slice A0 k0 c0] TN) = y := ⟨_, rfl⟩
  have gg0 := (G2.out).trans (hg0.trans (show v0.grownBy y0 none by rw [← hy0]; exact World.grownBy_alloc _ _ none))
  have GA0 := Lib.hid gg0
  have KA0 := Lib.hid ((K1.out).grown (hg0.trans (show v0.grownBy y0 none by rw [← hy0]; exact World.grownBy_alloc _ _ none)) (by simp))
  have KB0 := Lib.hid ((K2.out).grown (hg0.trans (show v0.grownBy y0 none by rw [← hy0]; exact World.grownBy_alloc _ _ none)) (by simp))
  have KC0 := Lib.hid (show C3 y0 v0.heap.size (.int .u8 a0) (.int .u8 b0) (.slice A0 k0 c0) TN by rw [← hy0]; exact c3_new _ _ _ _ _)
  have HQ0 := Lib.hid (fun q hq => (hq0 q hq).grown (show v0.grownBy y0 none by rw [← hy0]; exact World.grownBy_alloc _ _ none))
  have HSZ0 := Lib.hid (show w.heap.size ≤ (w2).heap.size from (G2.out).size)
  clear hg0 hq0 gg0 p0 p1 p2 r0 r1 r2 f0 f1 f2
  have p0_0 := (KA0.out).c0
  have p1_0 := (KA0.out).c1
  have p2_0 := (KA0.out).c2
  have r0_0 := (KB0.out).c0
  have r1_0 := (KB0.out).c1
  have r2_0 := (KB0.out).c2
  have f0_0 := (KB0.out).f 0
  have f1_0 := (KB0.out).f 1
  have f2_0 := (KB0.out).f 2
  have i0_0 := KC0.out.c0
  have i1_0 := KC0.out.c1
  have i2_0 := KC0.out.c2
  obtain ⟨o0, ho0⟩ : ∃ o, rFold t = o := ⟨_, rfl⟩
  have HR0 := Lib.hid ho0
  have HQ0 : Hid (∀ q, o0 = some q → SN y0 (fun x => S x ∨ (w2).heap.size ≤ x) q (a0, b0, .slice A0 k0 c0)) := Lib.hid (fun q hq => HQ0.out q (ho0.trans hq))
  rw [ho0]
  clear ho0
  cases o0 with
  | some q =>
    have hrul : rul t = (0 + 1, q) := rul_at (by omega) (fun i hi => by
      match i, hi with
      | i + 0, hi => omega) HR0.out
    have HRUL := Lib.hid hrul
    have HSQ := Lib.hid (HQ0.out q rfl)
    clear hrul
    go_wp2_with fail
    go_region
    all_goals
      go_wp2_with fail
      have HL := Lib.hid (KB0.out.laid (x' := .int .u8 a0) (y' := .int .u8 b0) (z' := .slice A0 k0 c0))
      have HG : Hid (w.grownBy (laid3 y0 (h0 + 1) (.int .u8 a0) (.int .u8 b0) (.slice A0 k0 c0)) none) := Lib.hid (gr_laid3n GA0.out (by have := HH.out; omega) _ _ _)
      have n0 := HL.out.c0
      have n1 := HL.out.c1
      have n2 := HL.out.c2
      clear f0_0 f1_0 f2_0 i0_0 i1_0 i2_0 r0_0 r1_0 r2_0
      unfold laid3 at n0 n1 n2
      refine bodyPost_ret (v := .tuple #[.int .i64 (1 : Int), .agg #[.int .u8 a0, .int .u8 b0, .slice A0 k0 c0]]) (by simp [results, Tryz.results81, go_sem, n0, n1, n2]) rfl ?_
      unfold SFrP
      rw [HRUL.out]
      refine ⟨_, _, _, _, _, rfl, HG.out.trans (gr_drewN _ 1 none), ?_⟩
      refine SN.grown (w := laid3 y0 (h0 + 1) (.int .u8 a0) (.int .u8 b0) (.slice A0 k0 c0)) ?_ (gr_drewN _ 1 none)
      refine HSQ.out.keep (fun b hb _ => laid3_heap _ _ _ _ _ _ ?_) (fun b hb _ => hb.imp id (fun h => Nat.le_trans HSZ0.out h)) _ _
      rcases hb with hb | hb
      · have h9 := HSS.out b hb
        have h8 := HH.out
        omega
      · have h9 := (K2.out).lt
        omega
  | none =>
    go_wp2_with fail
    refine (H1.out _ GA0.out).mono ?_
    rintro e v1 ⟨a1, b1, A1, k1, c1, rfl, hg1, hq1⟩
    obtain ⟨y1, hy1⟩ : ∃ y, v1.alloc (.cells #[.int .u8 a1, .int .u8 b1, .slice A1 k1 c1] TN) = y := ⟨_, rfl⟩
    have gg1 := (GA0.out).trans (hg1.trans (show v1.grownBy y1 none by rw [← hy1]; exact World.grownBy_alloc _ _ none))
    have GA1 := Lib.hid gg1
    have KA1 := Lib.hid ((KA0.out).grown (hg1.trans (show v1.grownBy y1 none by rw [← hy1]; exact World.grownBy_alloc _ _ none)) (by simp))
    have KB1 := Lib.hid ((KB0.out).grown (hg1.trans (show v1.grownBy y1 none by rw [← hy1]; exact World.grownBy_alloc _ _ none)) (by simp))
    have KC1 := Lib.hid (show C3 y1 v1.heap.size (.int .u8 a1) (.int .u8 b1) (.slice A1 k1 c1) TN by rw [← hy1]; exact c3_new _ _ _ _ _)
    have HQ1 := Lib.hid (fun q hq => (hq1 q hq).grown (show v1.grownBy y1 none by rw [← hy1]; exact World.grownBy_alloc _ _ none))
    have HSZ1 := Lib.hid (show w.heap.size ≤ (y0).heap.size from (GA0.out).size)
    clear hg1 hq1 gg1 p0_0 p1_0 p2_0 r0_0 r1_0 r2_0 f0_0 f1_0 f2_0 i0_0 i1_0 i2_0
    have p0_1 := (KA1.out).c0
    have p1_1 := (KA1.out).c1
    have p2_1 := (KA1.out).c2
    have r0_1 := (KB1.out).c0
    have r1_1 := (KB1.out).c1
    have r2_1 := (KB1.out).c2
    have f0_1 := (KB1.out).f 0
    have f1_1 := (KB1.out).f 1
    have f2_1 := (KB1.out).f 2
    have i0_1 := KC1.out.c0
    have i1_1 := KC1.out.c1
    have i2_1 := KC1.out.c2
    obtain ⟨o1, ho1⟩ : ∃ o, rNeut t = o := ⟨_, rfl⟩
    have HR1 := Lib.hid ho1
    have HQ1 : Hid (∀ q, o1 = some q → SN y1 (fun x => S x ∨ (y0).heap.size ≤ x) q (a1, b1, .slice A1 k1 c1)) := Lib.hid (fun q hq => HQ1.out q (ho1.trans hq))
    rw [ho1]
    clear ho1
    cases o1 with
    | some q =>
      have hrul : rul t = (1 + 1, q) := rul_at (by omega) (fun i hi => by
        match i, hi with
        | 0, _ => exact HR0.out
        | i + 1, hi => omega) HR1.out
      have HRUL := Lib.hid hrul
      have HSQ := Lib.hid (HQ1.out q rfl)
      clear hrul
      go_wp2_with fail
      go_region
      all_goals
        go_wp2_with fail
        have HL := Lib.hid (KB1.out.laid (x' := .int .u8 a1) (y' := .int .u8 b1) (z' := .slice A1 k1 c1))
        have HG : Hid (w.grownBy (laid3 y1 (h0 + 1) (.int .u8 a1) (.int .u8 b1) (.slice A1 k1 c1)) none) := Lib.hid (gr_laid3n GA1.out (by have := HH.out; omega) _ _ _)
        have n0 := HL.out.c0
        have n1 := HL.out.c1
        have n2 := HL.out.c2
        clear f0_1 f1_1 f2_1 i0_1 i1_1 i2_1 r0_1 r1_1 r2_1
        unfold laid3 at n0 n1 n2
        refine bodyPost_ret (v := .tuple #[.int .i64 (2 : Int), .agg #[.int .u8 a1, .int .u8 b1, .slice A1 k1 c1]]) (by simp [results, Tryz.results81, go_sem, n0, n1, n2]) rfl ?_
        unfold SFrP
        rw [HRUL.out]
        refine ⟨_, _, _, _, _, rfl, HG.out.trans (gr_drewN _ 1 none), ?_⟩
        refine SN.grown (w := laid3 y1 (h0 + 1) (.int .u8 a1) (.int .u8 b1) (.slice A1 k1 c1)) ?_ (gr_drewN _ 1 none)
        refine HSQ.out.keep (fun b hb _ => laid3_heap _ _ _ _ _ _ ?_) (fun b hb _ => hb.imp id (fun h => Nat.le_trans HSZ1.out h)) _ _
        rcases hb with hb | hb
        · have h9 := HSS.out b hb
          have h8 := HH.out
          omega
        · have h9 := (KB0.out).lt
          omega
    | none =>
      go_wp2_with fail
      refine (H2.out _ GA1.out).mono ?_
      rintro e v2 ⟨a2, b2, A2, k2, c2, rfl, hg2, hq2⟩
      obtain ⟨y2, hy2⟩ : ∃ y, v2.alloc (.cells #[.int .u8 a2, .int .u8 b2, .slice A2 k2 c2] TN) = y := ⟨_, rfl⟩
      have gg2 := (GA1.out).trans (hg2.trans (show v2.grownBy y2 none by rw [← hy2]; exact World.grownBy_alloc _ _ none))
      have GA2 := Lib.hid gg2
      have KA2 := Lib.hid ((KA1.out).grown (hg2.trans (show v2.grownBy y2 none by rw [← hy2]; exact World.grownBy_alloc _ _ none)) (by simp))
      have KB2 := Lib.hid ((KB1.out).grown (hg2.trans (show v2.grownBy y2 none by rw [← hy2]; exact World.grownBy_alloc _ _ none)) (by simp))
      have KC2 := Lib.hid (show C3 y2 v2.heap.size (.int .u8 a2) (.int .u8 b2) (.slice A2 k2 c2) TN by rw [← hy2]; exact c3_new _ _ _ _ _)
      have HQ2 := Lib.hid (fun q hq => (hq2 q hq).grown (show v2.grownBy y2 none by rw [← hy2]; exact World.grownBy_alloc _ _ none))
      have HSZ2 := Lib.hid (show w.heap.size ≤ (y1).heap.size from (GA1.out).size)
      clear hg2 hq2 gg2 p0_1 p1_1 p2_1 r0_1 r1_1 r2_1 f0_1 f1_1 f2_1 i0_1 i1_1 i2_1
      have p0_2 := (KA2.out).c0
      have p1_2 := (KA2.out).c1
      have p2_2 := (KA2.out).c2
      have r0_2 := (KB2.out).c0
      have r1_2 := (KB2.out).c1
      have r2_2 := (KB2.out).c2
      have f0_2 := (KB2.out).f 0
      have f1_2 := (KB2.out).f 1
      have f2_2 := (KB2.out).f 2
      have i0_2 := KC2.out.c0
      have i1_2 := KC2.out.c1
      have i2_2 := KC2.out.c2
      obtain ⟨o2, ho2⟩ : ∃ o, rTurn t = o := ⟨_, rfl⟩
      have HR2 := Lib.hid ho2
      have HQ2 : Hid (∀ q, o2 = some q → SN y2 (fun x => S x ∨ (y1).heap.size ≤ x) q (a2, b2, .slice A2 k2 c2)) := Lib.hid (fun q hq => HQ2.out q (ho2.trans hq))
      rw [ho2]
      clear ho2
      cases o2 with
      | some q =>
        have hrul : rul t = (2 + 1, q) := rul_at (by omega) (fun i hi => by
          match i, hi with
          | 0, _ => exact HR0.out
          | 1, _ => exact HR1.out
          | i + 2, hi => omega) HR2.out
        have HRUL := Lib.hid hrul
        have HSQ := Lib.hid (HQ2.out q rfl)
        clear hrul
        go_wp2_with fail
        go_region
        all_goals
          go_wp2_with fail
          have HL := Lib.hid (KB2.out.laid (x' := .int .u8 a2) (y' := .int .u8 b2) (z' := .slice A2 k2 c2))
          have HG : Hid (w.grownBy (laid3 y2 (h0 + 1) (.int .u8 a2) (.int .u8 b2) (.slice A2 k2 c2)) none) := Lib.hid (gr_laid3n GA2.out (by have := HH.out; omega) _ _ _)
          have n0 := HL.out.c0
          have n1 := HL.out.c1
          have n2 := HL.out.c2
          clear f0_2 f1_2 f2_2 i0_2 i1_2 i2_2 r0_2 r1_2 r2_2
          unfold laid3 at n0 n1 n2
          refine bodyPost_ret (v := .tuple #[.int .i64 (3 : Int), .agg #[.int .u8 a2, .int .u8 b2, .slice A2 k2 c2]]) (by simp [results, Tryz.results81, go_sem, n0, n1, n2]) rfl ?_
          unfold SFrP
          rw [HRUL.out]
          refine ⟨_, _, _, _, _, rfl, HG.out.trans (gr_drewN _ 1 none), ?_⟩
          refine SN.grown (w := laid3 y2 (h0 + 1) (.int .u8 a2) (.int .u8 b2) (.slice A2 k2 c2)) ?_ (gr_drewN _ 1 none)
          refine HSQ.out.keep (fun b hb _ => laid3_heap _ _ _ _ _ _ ?_) (fun b hb _ => hb.imp id (fun h => Nat.le_trans HSZ2.out h)) _ _
          rcases hb with hb | hb
          · have h9 := HSS.out b hb
            have h8 := HH.out
            omega
          · have h9 := (KB1.out).lt
            omega
      | none =>
        go_wp2_with fail
        refine (H3.out _ GA2.out).mono ?_
        rintro e v3 ⟨a3, b3, A3, k3, c3, rfl, hg3, hq3⟩
        obtain ⟨y3, hy3⟩ : ∃ y, v3.alloc (.cells #[.int .u8 a3, .int .u8 b3, .slice A3 k3 c3] TN) = y := ⟨_, rfl⟩
        have gg3 := (GA2.out).trans (hg3.trans (show v3.grownBy y3 none by rw [← hy3]; exact World.grownBy_alloc _ _ none))
        have GA3 := Lib.hid gg3
        have KA3 := Lib.hid ((KA2.out).grown (hg3.trans (show v3.grownBy y3 none by rw [← hy3]; exact World.grownBy_alloc _ _ none)) (by simp))
        have KB3 := Lib.hid ((KB2.out).grown (hg3.trans (show v3.grownBy y3 none by rw [← hy3]; exact World.grownBy_alloc _ _ none)) (by simp))
        have KC3 := Lib.hid (show C3 y3 v3.heap.size (.int .u8 a3) (.int .u8 b3) (.slice A3 k3 c3) TN by rw [← hy3]; exact c3_new _ _ _ _ _)
        have HQ3 := Lib.hid (fun q hq => (hq3 q hq).grown (show v3.grownBy y3 none by rw [← hy3]; exact World.grownBy_alloc _ _ none))
        have HSZ3 := Lib.hid (show w.heap.size ≤ (y2).heap.size from (GA2.out).size)
        clear hg3 hq3 gg3 p0_2 p1_2 p2_2 r0_2 r1_2 r2_2 f0_2 f1_2 f2_2 i0_2 i1_2 i2_2
        have p0_3 := (KA3.out).c0
        have p1_3 := (KA3.out).c1
        have p2_3 := (KA3.out).c2
        have r0_3 := (KB3.out).c0
        have r1_3 := (KB3.out).c1
        have r2_3 := (KB3.out).c2
        have f0_3 := (KB3.out).f 0
        have f1_3 := (KB3.out).f 1
        have f2_3 := (KB3.out).f 2
        have i0_3 := KC3.out.c0
        have i1_3 := KC3.out.c1
        have i2_3 := KC3.out.c2
        obtain ⟨o3, ho3⟩ : ∃ o, rLoop t = o := ⟨_, rfl⟩
        have HR3 := Lib.hid ho3
        have HQ3 : Hid (∀ q, o3 = some q → SN y3 (fun x => S x ∨ (y2).heap.size ≤ x) q (a3, b3, .slice A3 k3 c3)) := Lib.hid (fun q hq => HQ3.out q (ho3.trans hq))
        rw [ho3]
        clear ho3
        cases o3 with
        | some q =>
          have hrul : rul t = (3 + 1, q) := rul_at (by omega) (fun i hi => by
            match i, hi with
            | 0, _ => exact HR0.out
            | 1, _ => exact HR1.out
            | 2, _ => exact HR2.out
            | i + 3, hi => omega) HR3.out
          have HRUL := Lib.hid hrul
          have HSQ := Lib.hid (HQ3.out q rfl)
          clear hrul
          go_wp2_with fail
          go_region
          all_goals
            go_wp2_with fail
            have HL := Lib.hid (KB3.out.laid (x' := .int .u8 a3) (y' := .int .u8 b3) (z' := .slice A3 k3 c3))
            have HG : Hid (w.grownBy (laid3 y3 (h0 + 1) (.int .u8 a3) (.int .u8 b3) (.slice A3 k3 c3)) none) := Lib.hid (gr_laid3n GA3.out (by have := HH.out; omega) _ _ _)
            have n0 := HL.out.c0
            have n1 := HL.out.c1
            have n2 := HL.out.c2
            clear f0_3 f1_3 f2_3 i0_3 i1_3 i2_3 r0_3 r1_3 r2_3
            unfold laid3 at n0 n1 n2
            refine bodyPost_ret (v := .tuple #[.int .i64 (4 : Int), .agg #[.int .u8 a3, .int .u8 b3, .slice A3 k3 c3]]) (by simp [results, Tryz.results81, go_sem, n0, n1, n2]) rfl ?_
            unfold SFrP
            rw [HRUL.out]
            refine ⟨_, _, _, _, _, rfl, HG.out.trans (gr_drewN _ 1 none), ?_⟩
            refine SN.grown (w := laid3 y3 (h0 + 1) (.int .u8 a3) (.int .u8 b3) (.slice A3 k3 c3)) ?_ (gr_drewN _ 1 none)
            refine HSQ.out.keep (fun b hb _ => laid3_heap _ _ _ _ _ _ ?_) (fun b hb _ => hb.imp id (fun h => Nat.le_trans HSZ3.out h)) _ _
            rcases hb with hb | hb
            · have h9 := HSS.out b hb
              have h8 := HH.out
              omega
            · have h9 := (KB2.out).lt
              omega
        | none =>
          go_wp2_with fail
          refine (H4.out _ GA3.out).mono ?_
          rintro e v4 ⟨a4, b4, A4, k4, c4, rfl, hg4, hq4⟩
          obtain ⟨y4, hy4⟩ : ∃ y, v4.alloc (.cells #[.int .u8 a4, .int .u8 b4, .slice A4 k4 c4] TN) = y := ⟨_, rfl⟩
          have gg4 := (GA3.out).trans (hg4.trans (show v4.grownBy y4 none by rw [← hy4]; exact World.grownBy_alloc _ _ none))
          have GA4 := Lib.hid gg4
          have KA4 := Lib.hid ((KA3.out).grown (hg4.trans (show v4.grownBy y4 none by rw [← hy4]; exact World.grownBy_alloc _ _ none)) (by simp))
          have KB4 := Lib.hid ((KB3.out).grown (hg4.trans (show v4.grownBy y4 none by rw [← hy4]; exact World.grownBy_alloc _ _ none)) (by simp))
          have KC4 := Lib.hid (show C3 y4 v4.heap.size (.int .u8 a4) (.int .u8 b4) (.slice A4 k4 c4) TN by rw [← hy4]; exact c3_new _ _ _ _ _)
          have HQ4 := Lib.hid (fun q hq => (hq4 q hq).grown (show v4.grownBy y4 none by rw [← hy4]; exact World.grownBy_alloc _ _ none))
          have HSZ4 := Lib.hid (show w.heap.size ≤ (y3).heap.size from (GA3.out).size)
          clear hg4 hq4 gg4 p0_3 p1_3 p2_3 r0_3 r1_3 r2_3 f0_3 f1_3 f2_3 i0_3 i1_3 i2_3
          have p0_4 := (KA4.out).c0
          have p1_4 := (KA4.out).c1
          have p2_4 := (KA4.out).c2
          have r0_4 := (KB4.out).c0
          have r1_4 := (KB4.out).c1
          have r2_4 := (KB4.out).c2
          have f0_4 := (KB4.out).f 0
          have f1_4 := (KB4.out).f 1
          have f2_4 := (KB4.out).f 2
          have i0_4 := KC4.out.c0
          have i1_4 := KC4.out.c1
          have i2_4 := KC4.out.c2
          obtain ⟨o4, ho4⟩ : ∃ o, rLen t = o := ⟨_, rfl⟩
          have HR4 := Lib.hid ho4
          have HQ4 : Hid (∀ q, o4 = some q → SN y4 (fun x => S x ∨ (y3).heap.size ≤ x) q (a4, b4, .slice A4 k4 c4)) := Lib.hid (fun q hq => HQ4.out q (ho4.trans hq))
          rw [ho4]
          clear ho4
          cases o4 with
          | some q =>
            have hrul : rul t = (4 + 1, q) := rul_at (by omega) (fun i hi => by
              match i, hi with
              | 0, _ => exact HR0.out
              | 1, _ => exact HR1.out
              | 2, _ => exact HR2.out
              | 3, _ => exact HR3.out
              | i + 4, hi => omega) HR4.out
            have HRUL := Lib.hid hrul
            have HSQ := Lib.hid (HQ4.out q rfl)
            clear hrul
            go_wp2_with fail
            go_region
            all_goals
              go_wp2_with fail
              have HL := Lib.hid (KB4.out.laid (x' := .int .u8 a4) (y' := .int .u8 b4) (z' := .slice A4 k4 c4))
              have HG : Hid (w.grownBy (laid3 y4 (h0 + 1) (.int .u8 a4) (.int .u8 b4) (.slice A4 k4 c4)) none) := Lib.hid (gr_laid3n GA4.out (by have := HH.out; omega) _ _ _)
              have n0 := HL.out.c0
              have n1 := HL.out.c1
              have n2 := HL.out.c2
              clear f0_4 f1_4 f2_4 i0_4 i1_4 i2_4 r0_4 r1_4 r2_4
              unfold laid3 at n0 n1 n2
              refine bodyPost_ret (v := .tuple #[.int .i64 (5 : Int), .agg #[.int .u8 a4, .int .u8 b4, .slice A4 k4 c4]]) (by simp [results, Tryz.results81, go_sem, n0, n1, n2]) rfl ?_
              unfold SFrP
              rw [HRUL.out]
              refine ⟨_, _, _, _, _, rfl, HG.out.trans (gr_drewN _ 1 none), ?_⟩
              refine SN.grown (w := laid3 y4 (h0 + 1) (.int .u8 a4) (.int .u8 b4) (.slice A4 k4 c4)) ?_ (gr_drewN _ 1 none)
              refine HSQ.out.keep (fun b hb _ => laid3_heap _ _ _ _ _ _ ?_) (fun b hb _ => hb.imp id (fun h => Nat.le_trans HSZ4.out h)) _ _
              rcases hb with hb | hb
              · have h9 := HSS.out b hb
                have h8 := HH.out
                omega
              · have h9 := (KB3.out).lt
                omega
          | none =>
            go_wp2_with fail
            refine (H5.out _ GA4.out).mono ?_
            rintro e v5 ⟨a5, b5, A5, k5, c5, rfl, hg5, hq5⟩
            obtain ⟨y5, hy5⟩ : ∃ y, v5.alloc (.cells #[.int .u8 a5, .int .u8 b5, .slice A5 k5 c5] TN) = y := ⟨_, rfl⟩
            have gg5 := (GA4.out).trans (hg5.trans (show v5.grownBy y5 none by rw [← hy5]; exact World.grownBy_alloc _ _ none))
            have GA5 := Lib.hid gg5
            have KA5 := Lib.hid ((KA4.out).grown (hg5.trans (show v5.grownBy y5 none by rw [← hy5]; exact World.grownBy_alloc _ _ none)) (by simp))
            have KB5 := Lib.hid ((KB4.out).grown (hg5.trans (show v5.grownBy y5 none by rw [← hy5]; exact World.grownBy_alloc _ _ none)) (by simp))
            have KC5 := Lib.hid (show C3 y5 v5.heap.size (.int .u8 a5) (.int .u8 b5) (.slice A5 k5 c5) TN by rw [← hy5]; exact c3_new _ _ _ _ _)
            have HQ5 := Lib.hid (fun q hq => (hq5 q hq).grown (show v5.grownBy y5 none by rw [← hy5]; exact World.grownBy_alloc _ _ none))
            have HSZ5 := Lib.hid (show w.heap.size ≤ (y4).heap.size from (GA4.out).size)
            clear hg5 hq5 gg5 p0_4 p1_4 p2_4 r0_4 r1_4 r2_4 f0_4 f1_4 f2_4 i0_4 i1_4 i2_4
            have p0_5 := (KA5.out).c0
            have p1_5 := (KA5.out).c1
            have p2_5 := (KA5.out).c2
            have r0_5 := (KB5.out).c0
            have r1_5 := (KB5.out).c1
            have r2_5 := (KB5.out).c2
            have f0_5 := (KB5.out).f 0
            have f1_5 := (KB5.out).f 1
            have f2_5 := (KB5.out).f 2
            have i0_5 := KC5.out.c0
            have i1_5 := KC5.out.c1
            have i2_5 := KC5.out.c2
            obtain ⟨o5, ho5⟩ : ∃ o, rFuse t = o := ⟨_, rfl⟩
            have HR5 := Lib.hid ho5
            have HQ5 : Hid (∀ q, o5 = some q → SN y5 (fun x => S x ∨ (y4).heap.size ≤ x) q (a5, b5, .slice A5 k5 c5)) := Lib.hid (fun q hq => HQ5.out q (ho5.trans hq))
            rw [ho5]
            clear ho5
            cases o5 with
            | some q =>
              have hrul : rul t = (5 + 1, q) := rul_at (by omega) (fun i hi => by
                match i, hi with
                | 0, _ => exact HR0.out
                | 1, _ => exact HR1.out
                | 2, _ => exact HR2.out
                | 3, _ => exact HR3.out
                | 4, _ => exact HR4.out
                | i + 5, hi => omega) HR5.out
              have HRUL := Lib.hid hrul
              have HSQ := Lib.hid (HQ5.out q rfl)
              clear hrul
              go_wp2_with fail
              go_region
              all_goals
                go_wp2_with fail
                have HL := Lib.hid (KB5.out.laid (x' := .int .u8 a5) (y' := .int .u8 b5) (z' := .slice A5 k5 c5))
                have HG : Hid (w.grownBy (laid3 y5 (h0 + 1) (.int .u8 a5) (.int .u8 b5) (.slice A5 k5 c5)) none) := Lib.hid (gr_laid3n GA5.out (by have := HH.out; omega) _ _ _)
                have n0 := HL.out.c0
                have n1 := HL.out.c1
                have n2 := HL.out.c2
                clear f0_5 f1_5 f2_5 i0_5 i1_5 i2_5 r0_5 r1_5 r2_5
                unfold laid3 at n0 n1 n2
                refine bodyPost_ret (v := .tuple #[.int .i64 (6 : Int), .agg #[.int .u8 a5, .int .u8 b5, .slice A5 k5 c5]]) (by simp [results, Tryz.results81, go_sem, n0, n1, n2]) rfl ?_
                unfold SFrP
                rw [HRUL.out]
                refine ⟨_, _, _, _, _, rfl, HG.out.trans (gr_drewN _ 1 none), ?_⟩
                refine SN.grown (w := laid3 y5 (h0 + 1) (.int .u8 a5) (.int .u8 b5) (.slice A5 k5 c5)) ?_ (gr_drewN _ 1 none)
                refine HSQ.out.keep (fun b hb _ => laid3_heap _ _ _ _ _ _ ?_) (fun b hb _ => hb.imp id (fun h => Nat.le_trans HSZ5.out h)) _ _
                rcases hb with hb | hb
                · have h9 := HSS.out b hb
                  have h8 := HH.out
                  omega
                · have h9 := (KB4.out).lt
                  omega
            | none =>
              have hrul : rul t = (0, t) := rul_no (fun i hi => by
                match i, hi with
                | 0, _ => exact HR0.out
                | 1, _ => exact HR1.out
                | 2, _ => exact HR2.out
                | 3, _ => exact HR3.out
                | 4, _ => exact HR4.out
                | 5, _ => exact HR5.out
                | i + 6, hi => omega)
              have HRUL := Lib.hid hrul
              clear hrul
              go_wp2_with fail
              go_region
              all_goals
                go_wp2_with fail
                have HL := Lib.hid (KB5.out.laid (x' := .int .u8 a) (y' := .int .u8 b) (z' := .slice A k c))
                have HG : Hid (w.grownBy (laid3 y5 (h0 + 1) (.int .u8 a) (.int .u8 b) (.slice A k c)) none) := Lib.hid (gr_laid3n GA5.out (by have := HH.out; omega) _ _ _)
                have n0 := HL.out.c0
                have n1 := HL.out.c1
                have n2 := HL.out.c2
                clear p0_5 p1_5 p2_5 r0_5 r1_5 r2_5 f0_5 f1_5 f2_5 i0_5 i1_5 i2_5
                unfold laid3 at n0 n1 n2
                refine bodyPost_ret (v := .tuple #[.int .i64 0, .agg #[.int .u8 a, .int .u8 b, .slice A k c]]) (by simp [results, Tryz.results81, go_sem, n0, n1, n2]) rfl ?_
                unfold SFrP
                rw [HRUL.out]
                refine ⟨_, _, _, _, _, rfl, HG.out.trans (gr_drewN _ 1 none), ?_⟩
                exact (HT.out.keep (fun b _ hl => HG.out.block b hl (by simp)) (fun b hb _ => .inl hb) _ _).grown (gr_drewN _ 1 none)
end

end Go.Proofs.YtboddoaekcchpaaGreat
