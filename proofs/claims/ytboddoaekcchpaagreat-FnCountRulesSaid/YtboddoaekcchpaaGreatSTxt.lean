/- What l5Text of the model does: the text of a term. -/
import Derived.Test.YtboddoaekcchpaaGreatSSizeF
import Derived.Test.YtboddoaekcchpaaGreatTText
import Derived.Deep.RegionHeld3
import Derived.Laws.Concat
namespace Go.Proofs.YtboddoaekcchpaaGreat
section
open Go.RowKit

/-- The levels of the parts, with one more for the second part of a loop; their greatest. -/
def levL : Tm → List Nat
  | .dig _ => []
  | .var _ => []
  | .pre _ s => [s.levels]
  | .two _ s t => [s.levels, t.levels]
  | .loop _ _ s t => [s.levels, 1 + t.levels]
def Tm.isLoop : Tm → Bool
  | .loop _ _ _ _ => true
  | _ => false
def mx : List Nat → Nat
  | [] => 0
  | a :: l => max a (mx l)
theorem levels_mx (t : Tm) : t.levels = mx (levL t) := by cases t <;> simp [Tm.levels, levL, mx]
theorem mx_step : ∀ {l : List Nat} {j x : Nat}, l[j]? = some x → mx (l.take (j + 1)) = max (mx (l.take j)) x
  | [], _, _, h => by simp at h
  | a :: l, 0, x, h => by simp at h; subst h; simp [mx]
  | a :: l, j + 1, x, h => by
    have := mx_step (l := l) (j := j) (by simpa using h)
    simp only [List.take_succ_cons, mx, this]; omega
theorem mx_take (l : List Nat) (j : Nat) : mx (l.take j) ≤ mx l := by
  induction l generalizing j with
  | nil => simp [mx]
  | cons a l ih =>
    cases j with
    | zero => simp [mx]
    | succ j => simp only [List.take_succ_cons, mx]; have := ih j; omega
theorem levL_len (t : Tm) : (levL t).length = t.kids.length := by cases t <;> rfl
theorem levL_at {t : Tm} {j : Nat} {x : Tm} (h : t.kids[j]? = some x) : (levL t)[j]? = some (x.levels + if (t.isLoop && decide (j = 1)) = true then 1 else 0) := by
  cases t with
  | dig c => simp [Tm.kids] at h
  | var c => simp [Tm.kids] at h
  | pre c s =>
    match j, h with
    | 0, h => simp [Tm.kids] at h; subst h; simp [levL, Tm.isLoop]
    | j + 1, h => simp [Tm.kids] at h
  | two c s t =>
    match j, h with
    | 0, h => simp [Tm.kids] at h; subst h; simp [levL, Tm.isLoop]
    | 1, h => simp [Tm.kids] at h; subst h; simp [levL, Tm.isLoop]
    | j + 2, h => simp [Tm.kids] at h
  | loop c i s t =>
    match j, h with
    | 0, h => simp [Tm.kids] at h; subst h; simp [levL, Tm.isLoop]
    | 1, h => simp [Tm.kids] at h; subst h; simp [levL, Tm.isLoop]; omega
    | j + 2, h => simp [Tm.kids] at h
theorem kids_ok' {t k : Tm} (ho : t.Ok) (h : k ∈ t.kids) : k.Ok := by
  cases t with
  | dig c => simp [Tm.kids] at h
  | var c => simp [Tm.kids] at h
  | pre c s => simp [Tm.kids] at h; subst h; exact ho.2
  | two c s t =>
    simp [Tm.kids] at h
    rcases h with rfl | rfl
    · exact ho.2.1
    · exact ho.2.2
  | loop c v s t =>
    simp [Tm.kids] at h
    rcases h with rfl | rfl
    · exact ho.2.2.1
    · exact ho.2.2.2

/-- A node's name tells whether it is a loop, where it has parts. -/
theorem SN.name {w : World} {S : Nat → Prop} {t : Tm} {a b : Int} {sv : Value} (ho : t.Ok) (h : SN w S t (a, b, sv)) (hk : 0 < t.kids.length) : (b != 0) = t.isLoop := by
  cases t with
  | dig c => simp [Tm.kids] at hk
  | var c => simp [Tm.kids] at hk
  | pre c s => obtain ⟨_, h2, _⟩ := h; simp only at h2; subst h2; rfl
  | two c s t => obtain ⟨_, h2, _⟩ := h; simp only at h2; subst h2; rfl
  | loop c i s t =>
    obtain ⟨_, h2, _⟩ := h
    simp only at h2
    subst h2
    have := isL_ge ho.2.1
    simp [Tm.isLoop]
    omega
end

section
open Go.RowKit

theorem bytesOf_one (c : Int) : bytesOf [byt c] = one c := by
  have := one_data c
  unfold bytesOf
  cases h : one c with
  | mk d => rw [h] at this; simp only at this; rw [← this]
theorem bytesOf_app (l m : List UInt8) : bytesOf (l ++ m) = bytesOf l ++ bytesOf m := by
  apply ByteArray.ext
  simp [bytesOf, ByteArray.data_append]
theorem bytesOf_size (l : List UInt8) : (bytesOf l).size = l.length := by simp [bytesOf, ByteArray.size]
theorem bytesOf_cons (c : Int) (l : List UInt8) : bytesOf (byt c :: l) = one c ++ bytesOf l := by
  rw [← bytesOf_one, ← bytesOf_app]; rfl

def STxtPost (t : Tm) (w : World) (e : Ending) (w' : World) : Prop := e = .returned (.string (bytesOf t.txt)) ∧ w.grownBy w' none

theorem gr_al {w u : World} (h : w.grownBy u none) (o : Obj) : w.grownBy (u.alloc o) none := h.trans (World.grownBy_alloc _ _ _)
theorem gr_dr {w u : World} (h : w.grownBy u none) : w.grownBy u.drew none := h.trans (gr_drewN u 1 none)

set_option maxRecDepth 100000 in
set_option maxHeartbeats 1000000 in
theorem stxt_leaf (t : Tm) (a b : Int) (A : Option Addr) (c : Nat) (w : World) (ht : t.txt = [byt b]) :
    Calls Tryz.prog 31 #[.agg #[.int .u8 a, .int .u8 b, .slice A 0 c]] w (STxtPost t w) := by
  have HX := Lib.hid (c3_new w (.int .u8 a) (.int .u8 b) (.slice A 0 c) 57)
  have x0 := HX.out.c0
  have x1 := HX.out.c1
  have x2 := HX.out.c2
  have HTX := Lib.hid ht
  have hcv := conv_byte (w.alloc (.cells #[.int .u8 a, .int .u8 b, .slice A 0 c] 57)) a (w.heap.size + 1) (by simp)
  have hcv2 := conv_byte ((w.alloc (.cells #[.int .u8 a, .int .u8 b, .slice A 0 c] 57)).alloc (.cells #[.int .u8 a] 5)) b (w.heap.size + 1 + 1) (by simp)
  clear ht
  go_enter Tryz.func31, Tryz.ntmps31
  go_wp2_with fail
  go_ret
  refine ⟨?_, gr_al (gr_al (gr_al (gr_refl _ _) _) _) _⟩
  rw [HTX.out, bytesOf_one]
  rfl

set_option maxRecDepth 100000 in
set_option maxHeartbeats 2000000 in
theorem stxt_pre (t s : Tm) (a b a2 b2 : Int) (A A2 : Option Addr) (c k2 c2 : Nat) (w : World) (ht : t.txt = byt a :: s.txt) (hl : s.txt.length ≤ 1000000)
    (ho : w.ownsRow 0 57 3 (.slice A 1 c) 1 (flat3 [(a2, b2, .slice A2 k2 c2)]))
    (ih : ∀ u : World, w.grownBy u none → Calls Tryz.prog 31 #[.agg #[.int .u8 a2, .int .u8 b2, .slice A2 k2 c2]] u (STxtPost s u)) :
    Calls Tryz.prog 31 #[.agg #[.int .u8 a, .int .u8 b, .slice A 1 c]] w (STxtPost t w) := by
  obtain ⟨-, -, hrow⟩ := srow3 (xs := [(a2, b2, .slice A2 k2 c2)]) ho
  obtain ⟨g, rfl, hg1, hcell⟩ := hrow (by omega)
  obtain ⟨q0, q1, q2⟩ := hcell 0 _ rfl
  simp only [Nat.zero_mul, Nat.zero_add] at q0 q1 q2
  have HX := Lib.hid (c3_new w (.int .u8 a) (.int .u8 b) (.slice (some ⟨g, 0, none⟩) 1 c) 57)
  have x0 := HX.out.c0
  have x2 := HX.out.c2
  have x2b := (HX.out.alloc (.cells #[.int .u8 a] 5)).c2
  have HTX := Lib.hid ht
  have hcv := conv_byte (w.alloc (.cells #[.int .u8 a, .int .u8 b, .slice (some ⟨g, 0, none⟩) 1 c] 57)) a (w.heap.size + 1) (by simp)
  have HG := Lib.hid (gr_al (gr_al (gr_refl w none) (.cells #[.int .u8 a, .int .u8 b, .slice (some ⟨g, 0, none⟩) 1 c] 57)) (.cells #[.int .u8 a] 5))
  have h0 := HG.out.cell q0 (by simp)
  have h1 := HG.out.cell q1 (by simp)
  have h2 := HG.out.cell q2 (by simp)
  have HC := Lib.hid (ih _ HG.out)
  have HZ1 := Lib.hid (one_size a)
  obtain ⟨X, hX⟩ : ∃ X, bytesOf s.txt = X := ⟨_, rfl⟩
  have hXs : X.size ≤ 1000000 := by rw [← hX, bytesOf_size]; exact hl
  have h1s : (one a).size ≤ 1 := by rw [one_size]; exact Nat.le_refl _
  have HXE := Lib.hid hX
  clear ht hcell hrow ho ih q0 q1 q2 hX
  unfold STxtPost at HC
  rw [HXE.out] at HC
  go_enter Tryz.func31, Tryz.ntmps31
  go_wp2_with fail
  refine HC.out.mono ?_
  rintro e w1 ⟨rfl, hg1'⟩
  have HG1 := Lib.hid (HG.out.trans hg1')
  clear hg1'
  go_wp2_with fail
  go_ret
  refine ⟨?_, HG1.out⟩
  rw [HTX.out, bytesOf_cons, HXE.out]
  rfl

theorem stxt_size2 {x y : ByteArray} {n m : Nat} (hx : x.size ≤ n) (hy : y.size ≤ m) : (x ++ y).size ≤ n + m := by rw [ByteArray.size_append]; omega

set_option maxRecDepth 100000 in
set_option maxHeartbeats 8000000 in
theorem stxt_two (t s r : Tm) (a a2 b2 a3 b3 : Int) (A A2 A3 : Option Addr) (c k2 c2 k3 c3 : Nat) (w : World) (ht : t.txt = 40 :: (s.txt ++ (byt a :: (r.txt ++ [41])))) (hl : t.txt.length ≤ 1000000)
    (ho : w.ownsRow 0 57 3 (.slice A 2 c) 2 (flat3 [(a2, b2, .slice A2 k2 c2), (a3, b3, .slice A3 k3 c3)]))
    (ih1 : ∀ u : World, w.grownBy u none → Calls Tryz.prog 31 #[.agg #[.int .u8 a2, .int .u8 b2, .slice A2 k2 c2]] u (STxtPost s u))
    (ih2 : ∀ u : World, w.grownBy u none → Calls Tryz.prog 31 #[.agg #[.int .u8 a3, .int .u8 b3, .slice A3 k3 c3]] u (STxtPost r u)) :
    Calls Tryz.prog 31 #[.agg #[.int .u8 a, .int .u8 0, .slice A 2 c]] w (STxtPost t w) := by
  obtain ⟨-, -, hrow⟩ := srow3 (xs := [(a2, b2, .slice A2 k2 c2), (a3, b3, .slice A3 k3 c3)]) ho
  obtain ⟨g, rfl, hg1, hcell⟩ := hrow (by omega)
  obtain ⟨q0, q1, q2⟩ := hcell 0 _ rfl
  obtain ⟨q3, q4, q5⟩ := hcell 1 _ rfl
  simp only [Nat.zero_mul, Nat.zero_add, Nat.one_mul] at q0 q1 q2 q3 q4 q5
  have HX := Lib.hid (c3_new w (.int .u8 a) (.int .u8 0) (.slice (some ⟨g, 0, none⟩) 2 c) 57)
  have x0 := HX.out.c0
  have x1 := HX.out.c1
  have x2 := HX.out.c2
  have x1b := (HX.out.alloc (.cells #[.int .u8 a] 5)).c1
  have x2b := (HX.out.alloc (.cells #[.int .u8 a] 5)).c2
  have HTX := Lib.hid ht
  have hcv := conv_byte (w.alloc (.cells #[.int .u8 a, .int .u8 0, .slice (some ⟨g, 0, none⟩) 2 c] 57)) a (w.heap.size + 1) (by simp)
  have HG := Lib.hid (gr_al (gr_al (gr_refl w none) (.cells #[.int .u8 a, .int .u8 0, .slice (some ⟨g, 0, none⟩) 2 c] 57)) (.cells #[.int .u8 a] 5))
  have h0 := HG.out.cell q0 (by simp)
  have h1 := HG.out.cell q1 (by simp)
  have h2 := HG.out.cell q2 (by simp)
  have h3 := HG.out.cell q3 (by simp)
  have h4 := HG.out.cell q4 (by simp)
  have h5 := HG.out.cell q5 (by simp)
  have HI1 := Lib.hid ih1
  have HI2 := Lib.hid ih2
  obtain ⟨X, hX⟩ : ∃ X, bytesOf s.txt = X := ⟨_, rfl⟩
  obtain ⟨Y, hY⟩ : ∃ Y, bytesOf r.txt = Y := ⟨_, rfl⟩
  have hXs : X.size ≤ 1000000 := by rw [← hX, bytesOf_size]; rw [ht] at hl; simp at hl; omega
  have hYs : Y.size ≤ 1000000 := by rw [← hY, bytesOf_size]; rw [ht] at hl; simp at hl; omega
  have h1s : (one a).size ≤ 1 := by rw [one_size]; exact Nat.le_refl _
  have HXE := Lib.hid hX
  have HYE := Lib.hid hY
  clear ht hcell hrow ho ih1 ih2 q0 q1 q2 q3 q4 q5 hX hY hl
  unfold STxtPost at HI1 HI2
  rw [HXE.out] at HI1
  rw [HYE.out] at HI2
  go_enter Tryz.func31, Tryz.ntmps31
  go_wp2_with fail
  have HB := Lib.hid (HX.out.alloc (.cells #[.int .u8 a] 5))
  have hbz : w.heap.size < ((w.alloc (.cells #[.int .u8 a, .int .u8 0, .slice (some ⟨g, 0, none⟩) 2 c] 57)).alloc (.cells #[.int .u8 a] 5)).heap.size := by simp; omega
  have hgz : g < ((w.alloc (.cells #[.int .u8 a, .int .u8 0, .slice (some ⟨g, 0, none⟩) 2 c] 57)).alloc (.cells #[.int .u8 a] 5)).heap.size := by simp; omega
  clear x0 x1 x2 hcv x1b
  obtain ⟨s1, hs1⟩ : ∃ s1 : ByteArray, { data := #[40] } ++ X = s1 := ⟨_, rfl⟩
  obtain ⟨s2, hs2⟩ : ∃ s2 : ByteArray, s1 ++ one a = s2 := ⟨_, rfl⟩
  obtain ⟨s3, hs3⟩ : ∃ s3 : ByteArray, s2 ++ Y = s3 := ⟨_, rfl⟩
  obtain ⟨s4, hs4⟩ : ∃ s4 : ByteArray, s3 ++ { data := #[41] } = s4 := ⟨_, rfl⟩
  have z1 : s1.size ≤ 1 + 1000000 := by rw [← hs1]; exact stxt_size2 (by decide) hXs
  have z2 : s2.size ≤ 1 + 1000000 + 1 := by rw [← hs2]; exact stxt_size2 z1 h1s
  have z3 : s3.size ≤ 1 + 1000000 + 1 + 1000000 := by rw [← hs3]; exact stxt_size2 z2 hYs
  have hd1 := fun u => str_add X { data := #[40] } s1 hs1 (by have : ({ data := #[40] } : ByteArray).size = 1 := rfl; omega) u
  have hd2 := fun u => str_add (one a) s1 s2 hs2 (by omega) u
  have hd3 := fun u => str_add Y s2 s3 hs3 (by omega) u
  have hd4 := fun u => str_add { data := #[41] } s3 s4 hs4 (by have : ({ data := #[41] } : ByteArray).size = 1 := rfl; omega) u
  have HS4 : Hid (s4 = ((({ data := #[40] } ++ X) ++ one a) ++ Y) ++ { data := #[41] }) := Lib.hid (by rw [hs1, hs2, hs3, hs4])
  clear hs1 hs2 hs3 hs4 z1 z2 z3 hXs hYs h1s
  generalize (w.alloc (.cells #[.int .u8 a, .int .u8 0, .slice (some ⟨g, 0, none⟩) 2 c] 57)).alloc (.cells #[.int .u8 a] 5) = u at HG HB x2b h0 h1 h2 h3 h4 h5 hbz hgz ⊢
  go_region_held3 (fun w' => w'.cell? ⟨w.heap.size, 2, none⟩ = some (.slice (some ⟨g, 0, none⟩) 2 c) ∧ w'.cell? ⟨g, 0, none⟩ = some (.int .u8 a2) ∧ w'.cell? ⟨g, 1, none⟩ = some (.int .u8 b2) ∧ w'.cell? ⟨g, 2, none⟩ = some (.slice A2 k2 c2) ∧ w'.cell? ⟨g, 3, none⟩ = some (.int .u8 a3) ∧ w'.cell? ⟨g, 4, none⟩ = some (.int .u8 b3) ∧ w'.cell? ⟨g, 5, none⟩ = some (.slice A3 k3 c3)) (go_keep)
    (first
      | (go_at_call 31
         (with_reducible refine (HI1.out _ ?_).mono ?_)
         · exact gr_dr HG.out
         rintro e wa ⟨rfl, hga⟩
         have HGA := Lib.hid (((gr_drewN u 1 none).trans hga))
         have y2 := HGA.out.cell x2b (by simp)
         have y3 := HGA.out.cell h3 (by simp)
         have y4 := HGA.out.cell h4 (by simp)
         have y5 := HGA.out.cell h5 (by simp)
         have y0 := HGA.out.cell h0 (by simp)
         have y1 := HGA.out.cell h1 (by simp)
         have y6 := HGA.out.cell h2 (by simp)
         clear hga)
      | (go_at_call 31
         (with_reducible refine (HI2.out _ ?_).mono ?_)
         · exact HG.out.trans HGA.out
         rintro e wb ⟨rfl, hgb⟩
         have HGB := Lib.hid (HGA.out.trans hgb)
         have z2 := HGB.out.cell x2b (by simp)
         have z3 := HGB.out.cell h3 (by simp)
         have z4 := HGB.out.cell h4 (by simp)
         have z5 := HGB.out.cell h5 (by simp)
         have z0 := HGB.out.cell h0 (by simp)
         have z1 := HGB.out.cell h1 (by simp)
         have z6 := HGB.out.cell h2 (by simp)
         clear hgb))
  all_goals
    go_wp2_with fail
    go_ret
    refine ⟨?_, HG.out.trans HGB.out⟩
    rw [HTX.out, show (40 : UInt8) = byt 40 from rfl, bytesOf_cons, bytesOf_app, bytesOf_cons, bytesOf_app, HXE.out, HYE.out]
    rw [HS4.out]
    simp only [ByteArray.append_assoc]
    rfl
end

end Go.Proofs.YtboddoaekcchpaaGreat
