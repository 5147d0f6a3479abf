/- What l5Text of the model does at whatever term. -/
import Derived.Test.YtboddoaekcchpaaGreatSTxt
import Derived.Test.YtboddoaekcchpaaGreatInvR
import Derived.Test.YtboddoaekcchpaaGreatTSignF
namespace Go.Proofs.YtboddoaekcchpaaGreat
section
open Go.RowKit

def STxtPost2 (X : ByteArray) (w u : World) (e : Ending) (w' : World) : Prop := e = .returned (.string X) ∧ w.grownBy w' none ∧ u.grownBy w' none

/-- A slice of one byte, in whatever world. -/
def OneB (v : Value) (w : World) (c : Int) : Prop := ∃ k, v = .slice (some ⟨k, 0, none⟩) 1 1 ∧ w.cell? ⟨k, 0, none⟩ = some (.int .u8 c)
theorem OneB.grown {v : Value} {w w' : World} {c : Int} (h : OneB v w c) (hg : w.grownBy w' none) : OneB v w' c := by
  obtain ⟨k, hv, hc⟩ := h
  exact ⟨k, hv, hg.cell hc (by simp)⟩
theorem conv_oneb {u : World} {k : Nat} {c : Int} (hc : u.cell? ⟨k, 0, none⟩ = some (.int .u8 c)) : (convert 22 9 (.slice (some ⟨k, 0, none⟩) 1 1)).run Tryz.prog u = .ok (.string (one c)) u := by
  refine run_convert_bytes_arg (P := Tryz.prog) _ 22 5 Tryz.underlying22 Tryz.underlying5 k 0 1 1 [c] rfl ?_ 9 Tryz.underlying9
  intro i hi
  obtain rfl : i = 0 := by omega
  exact hc

/-- What each operation of the loop's region answers. -/
def lval (n g : Nat) (a b a2 b2 a3 b3 : Int) (A2 A3 : Option Addr) (c k2 c2 k3 c3 : Nat) (X Y s1 s2 s3 s4 s5 s6 : ByteArray) : Nat → Value
  | 0 => .string (one a) | 1 => .pointer (some ⟨n, 1, none⟩) | 2 => .int .u8 b | 4 => .string (one b) | 5 => .string s1 | 6 => .string s2
  | 7 => .pointer (some ⟨n, 2, none⟩) | 8 => .slice (some ⟨g, 0, none⟩) 2 c | 9 => .pointer (some ⟨g, 0, none⟩) | 10 => .agg #[.int .u8 a2, .int .u8 b2, .slice A2 k2 c2] | 11 => .string X | 12 => .string s3 | 13 => .string s4
  | 14 => .pointer (some ⟨n, 2, none⟩) | 15 => .slice (some ⟨g, 0, none⟩) 2 c | 16 => .pointer (some ⟨g, 3, none⟩) | 17 => .agg #[.int .u8 a3, .int .u8 b3, .slice A3 k3 c3] | 18 => .string Y | 19 => .string s5
  | 20 => .pointer (some ⟨n, 0, none⟩) | 21 => .int .u8 a | 22 => .int .u8 (a + 2) | 24 => .string (one (a + 2)) | _ => .string s6
def lR (n g : Nat) (a b a2 b2 a3 b3 : Int) (A2 A3 : Option Addr) (c k2 c2 k3 c3 : Nat) (X Y s1 s2 s3 s4 s5 s6 : ByteArray) (i : Nat) (v : Value) (w : World) : Prop :=
  if i = 3 then OneB v w b else if i = 23 then OneB v w (a + 2) else v = lval n g a b a2 b2 a3 b3 A2 A3 c k2 c2 k3 c3 X Y s1 s2 s3 s4 s5 s6 i

set_option maxRecDepth 100000 in
set_option maxHeartbeats 8000000 in
theorem stxt_loop (t s r : Tm) (a b a2 b2 a3 b3 : Int) (A A2 A3 : Option Addr) (c k2 c2 k3 c3 : Nat) (w : World) (ha : a = 91 ∨ a = 123) (hb : (b != 0) = true) (ht : t.txt = byt a :: byt b :: 58 :: (s.txt ++ (62 :: (r.txt ++ [byt (a + 2)])))) (hl : t.txt.length ≤ 1000000)
    (ho : w.ownsRow 0 57 3 (.slice A 2 c) 2 (flat3 [(a2, b2, .slice A2 k2 c2), (a3, b3, .slice A3 k3 c3)]))
    (ih1 : ∀ u : World, w.grownBy u none → Calls Tryz.prog 31 #[.agg #[.int .u8 a2, .int .u8 b2, .slice A2 k2 c2]] u (STxtPost s u))
    (ih2 : ∀ u : World, w.grownBy u none → Calls Tryz.prog 31 #[.agg #[.int .u8 a3, .int .u8 b3, .slice A3 k3 c3]] u (STxtPost r u)) :
    Calls Tryz.prog 31 #[.agg #[.int .u8 a, .int .u8 b, .slice A 2 c]] w (STxtPost t w) := by
  have wa2 : IntKind.u8.wrap (a + 2) = a + 2 := by rcases ha with rfl | rfl <;> rfl
  obtain ⟨-, -, hrow⟩ := srow3 (xs := [(a2, b2, .slice A2 k2 c2), (a3, b3, .slice A3 k3 c3)]) ho
  obtain ⟨g, rfl, hg1, hcell⟩ := hrow (by omega)
  obtain ⟨q0, q1, q2⟩ := hcell 0 _ rfl
  obtain ⟨q3, q4, q5⟩ := hcell 1 _ rfl
  simp only [Nat.zero_mul, Nat.zero_add, Nat.one_mul] at q0 q1 q2 q3 q4 q5
  have HX := Lib.hid (c3_new w (.int .u8 a) (.int .u8 b) (.slice (some ⟨g, 0, none⟩) 2 c) 57)
  have x0 := HX.out.c0
  have x1 := HX.out.c1
  have x2 := HX.out.c2
  have x0b := (HX.out.alloc (.cells #[.int .u8 a] 5)).c0
  have x1b := (HX.out.alloc (.cells #[.int .u8 a] 5)).c1
  have x2b := (HX.out.alloc (.cells #[.int .u8 a] 5)).c2
  have HTX := Lib.hid ht
  have hcv := conv_byte (w.alloc (.cells #[.int .u8 a, .int .u8 b, .slice (some ⟨g, 0, none⟩) 2 c] 57)) a (w.heap.size + 1) (by simp)
  have HG := Lib.hid (gr_al (gr_al (gr_refl w none) (.cells #[.int .u8 a, .int .u8 b, .slice (some ⟨g, 0, none⟩) 2 c] 57)) (.cells #[.int .u8 a] 5))
  have h0 := HG.out.cell q0 (by simp)
  have h1 := HG.out.cell q1 (by simp)
  have h2 := HG.out.cell q2 (by simp)
  have h3 := HG.out.cell q3 (by simp)
  have h4 := HG.out.cell q4 (by simp)
  have h5 := HG.out.cell q5 (by simp)
  obtain ⟨X, hX⟩ : ∃ X, bytesOf s.txt = X := ⟨_, rfl⟩
  obtain ⟨Y, hY⟩ : ∃ Y, bytesOf r.txt = Y := ⟨_, rfl⟩
  have hXs : X.size ≤ 1000000 := by rw [← hX, bytesOf_size]; rw [ht] at hl; simp at hl; omega
  have hYs : Y.size ≤ 1000000 := by rw [← hY, bytesOf_size]; rw [ht] at hl; simp at hl; omega
  have HI1 : Hid (∀ (v u : World), w.grownBy v none → v.grownBy u none → Calls Tryz.prog 31 #[.agg #[.int .u8 a2, .int .u8 b2, .slice A2 k2 c2]] u (STxtPost2 X v u)) :=
    Lib.hid (fun v u hv hu => (ih1 u (hv.trans hu)).mono fun e w' ⟨he, hg⟩ => ⟨by rw [he, hX], hu.trans hg, hg⟩)
  have HI2 : Hid (∀ (v u : World), w.grownBy v none → v.grownBy u none → Calls Tryz.prog 31 #[.agg #[.int .u8 a3, .int .u8 b3, .slice A3 k3 c3]] u (STxtPost2 Y v u)) :=
    Lib.hid (fun v u hv hu => (ih2 u (hv.trans hu)).mono fun e w' ⟨he, hg⟩ => ⟨by rw [he, hY], hu.trans hg, hg⟩)
  have hoa : (one a).size ≤ 1 := by rw [one_size]; exact Nat.le_refl _
  have hob : (one b).size ≤ 1 := by rw [one_size]; exact Nat.le_refl _
  have hoc : (one (a + 2)).size ≤ 1 := by rw [one_size]; exact Nat.le_refl _
  have HXE := Lib.hid hX
  have HYE := Lib.hid hY
  clear ht hcell hrow ho ih1 ih2 q0 q1 q2 q3 q4 q5 hX hY hl ha
  go_enter Tryz.func31, Tryz.ntmps31
  go_wp2_with fail
  have hbz : w.heap.size < ((w.alloc (.cells #[.int .u8 a, .int .u8 b, .slice (some ⟨g, 0, none⟩) 2 c] 57)).alloc (.cells #[.int .u8 a] 5)).heap.size := by simp; omega
  have hgz : g < ((w.alloc (.cells #[.int .u8 a, .int .u8 b, .slice (some ⟨g, 0, none⟩) 2 c] 57)).alloc (.cells #[.int .u8 a] 5)).heap.size := by simp; omega
  clear x0 x1 x2 hcv
  obtain ⟨s1, hs1⟩ : ∃ s1 : ByteArray, one a ++ one b = s1 := ⟨_, rfl⟩
  obtain ⟨s2, hs2⟩ : ∃ s2 : ByteArray, s1 ++ { data := #[58] } = s2 := ⟨_, rfl⟩
  obtain ⟨s3, hs3⟩ : ∃ s3 : ByteArray, s2 ++ X = s3 := ⟨_, rfl⟩
  obtain ⟨s4, hs4⟩ : ∃ s4 : ByteArray, s3 ++ { data := #[62] } = s4 := ⟨_, rfl⟩
  obtain ⟨s5, hs5⟩ : ∃ s5 : ByteArray, s4 ++ Y = s5 := ⟨_, rfl⟩
  obtain ⟨s6, hs6⟩ : ∃ s6 : ByteArray, s5 ++ one (a + 2) = s6 := ⟨_, rfl⟩
  have z1 : s1.size ≤ 1 + 1 := by rw [← hs1]; exact stxt_size2 hoa hob
  have z2 : s2.size ≤ 1 + 1 + 1 := by rw [← hs2]; exact stxt_size2 z1 (by decide)
  have z3 : s3.size ≤ 1 + 1 + 1 + 1000000 := by rw [← hs3]; exact stxt_size2 z2 hXs
  have z4 : s4.size ≤ 1 + 1 + 1 + 1000000 + 1 := by rw [← hs4]; exact stxt_size2 z3 (by decide)
  have z5 : s5.size ≤ 1 + 1 + 1 + 1000000 + 1 + 1000000 := by rw [← hs5]; exact stxt_size2 z4 hYs
  have hd1 := fun u => str_add (one b) (one a) s1 hs1 (by omega) u
  have hd2 := fun u => str_add { data := #[58] } s1 s2 hs2 (by have : ({ data := #[58] } : ByteArray).size = 1 := rfl; omega) u
  have hd3 := fun u => str_add X s2 s3 hs3 (by omega) u
  have hd4 := fun u => str_add { data := #[62] } s3 s4 hs4 (by have : ({ data := #[62] } : ByteArray).size = 1 := rfl; omega) u
  have hd5 := fun u => str_add Y s4 s5 hs5 (by omega) u
  have hd6 := fun u => str_add (one (a + 2)) s5 s6 hs6 (by omega) u
  have HS6 : Hid (s6 = (((((one a ++ one b) ++ { data := #[58] }) ++ X) ++ { data := #[62] }) ++ Y) ++ one (a + 2)) := Lib.hid (by rw [hs1, hs2, hs3, hs4, hs5, hs6])
  clear hs1 hs2 hs3 hs4 hs5 hs6 z1 z2 z3 z4 z5 hXs hYs hoa hob hoc
  generalize (w.alloc (.cells #[.int .u8 a, .int .u8 b, .slice (some ⟨g, 0, none⟩) 2 c] 57)).alloc (.cells #[.int .u8 a] 5) = u at HG x0b x1b x2b h0 h1 h2 h3 h4 h5 hbz hgz ⊢
  have HX0 := Lib.hid x0b
  have HX1 := Lib.hid x1b
  have HX2 := Lib.hid x2b
  have HH0 := Lib.hid h0
  have HH1 := Lib.hid h1
  have HH2 := Lib.hid h2
  have HH3 := Lib.hid h3
  have HH4 := Lib.hid h4
  have HH5 := Lib.hid h5
  clear x0b x1b x2b h0 h1 h2 h3 h4 h5
  --REGION
  refine wp_region_steps (u := u) 74 rfl (by kernel_rfl) (lR w.heap.size g a b a2 b2 a3 b3 A2 A3 c k2 c2 k3 c3 X Y s1 s2 s3 s4 s5 s6) (by kernel_rfl) ?_ ?_ ?_ u (gr_drewN u 1 none)
  · intro i v w w' h hg
    unfold lR at h ⊢
    split at h
    · rename_i hi; simp only [hi, if_true]; exact h.grown hg
    · rename_i h3'
      rw [if_neg h3']
      split at h
      · rename_i hi; simp only [hi, if_true]; exact h.grown hg
      · rename_i h23'; rw [if_neg h23']; exact h
  · intro a' w' hdf hgr hfar hall
    have e2 : a'.tmps.getD 2 undef = .string s6 := hall 26 _ 2 rfl rfl
    have e2' : a'.tmps[2]?.getD undef = .string s6 := by rw [← e2]; simp
    go_wp2_with fail
    refine bodyPost_ret (v := .string s6) (by simp [results, Tryz.results31, go_sem, e2']) hdf ?_
    refine ⟨?_, HG.out.trans hgr⟩
    rw [HTX.out, bytesOf_cons, bytesOf_cons, show (58 : UInt8) = byt 58 from rfl, bytesOf_cons, bytesOf_app, show (62 : UInt8) = byt 62 from rfl, bytesOf_cons, bytesOf_app, bytesOf_one, HXE.out, HYE.out, HS6.out]
    simp only [ByteArray.append_assoc]
    rfl
  refine ⟨?_, ?_, ?_, ?_, ?_, ?_, ?_, ?_, ?_, ?_, ?_, ?_, ?_, ?_, ?_, ?_, ?_, ?_, ?_, ?_, ?_, ?_, ?_, ?_, ?_, ?_, ?_, trivial⟩
  · intro a' w' hdf hgr hfar hdep
    have e3 : a'.tmps.getD 3 undef = .string (one a) := hfar 3 (by kernel_rfl)
    go_simp
    exact ⟨_, rfl, gr_refl _ _, rfl⟩
  · intro a' w' hdf hgr hfar hdep
    have e1 : a'.tmps.getD 1 undef = .pointer (some ⟨w.heap.size, 0, none⟩) := hfar 1 (by kernel_rfl)
    go_simp
    exact ⟨_, rfl, gr_refl _ _, rfl⟩
  · intro a' w' hdf hgr hfar hdep
    have e34 : a'.tmps.getD 34 undef = .pointer (some ⟨w.heap.size, 1, none⟩) := hdep 1 _ 34 (by kernel_rfl) rfl rfl
    have f1 := hgr.cell HX1.out (by simp)
    go_simp
    exact ⟨_, rfl, gr_refl _ _, rfl⟩
  · intro a' w' hdf hgr hfar hdep
    have e35 : a'.tmps.getD 35 undef = .int .u8 b := hdep 2 _ 35 (by kernel_rfl) rfl rfl
    have e35' : a'.tmps[35]?.getD undef = .int .u8 b := by rw [← e35]; simp
    go_simp
    exact ⟨_, rfl, World.grownBy_alloc _ _ _, ⟨_, rfl, cell_of_row _ _ 0 _ _ (0, 0) (heap_alloc_new _ _)⟩⟩
  · intro a' w' hdf hgr hfar hdep
    obtain ⟨kk, hk, hc⟩ : OneB (a'.tmps.getD 36 undef) w' (b) := hdep 3 _ 36 (by kernel_rfl) rfl rfl
    have hcv := conv_oneb hc
    go_simp
    exact ⟨_, rfl, gr_refl _ _, rfl⟩
  · intro a' w' hdf hgr hfar hdep
    have e33 : a'.tmps.getD 33 undef = .string (one a) := hdep 0 _ 33 (by kernel_rfl) rfl rfl
    have e37 : a'.tmps.getD 37 undef = .string (one b) := hdep 4 _ 37 (by kernel_rfl) rfl rfl
    go_simp
    exact ⟨_, rfl, gr_refl _ _, rfl⟩
  · intro a' w' hdf hgr hfar hdep
    have e38 : a'.tmps.getD 38 undef = .string s1 := hdep 5 _ 38 (by kernel_rfl) rfl rfl
    go_simp
    exact ⟨_, rfl, gr_refl _ _, rfl⟩
  · intro a' w' hdf hgr hfar hdep
    have e1 : a'.tmps.getD 1 undef = .pointer (some ⟨w.heap.size, 0, none⟩) := hfar 1 (by kernel_rfl)
    go_simp
    exact ⟨_, rfl, gr_refl _ _, rfl⟩
  · intro a' w' hdf hgr hfar hdep
    have e40 : a'.tmps.getD 40 undef = .pointer (some ⟨w.heap.size, 2, none⟩) := hdep 7 _ 40 (by kernel_rfl) rfl rfl
    have f2 := hgr.cell HX2.out (by simp)
    go_simp
    exact ⟨_, rfl, gr_refl _ _, rfl⟩
  · intro a' w' hdf hgr hfar hdep
    have e41 : a'.tmps.getD 41 undef = .slice (some ⟨g, 0, none⟩) 2 c := hdep 8 _ 41 (by kernel_rfl) rfl rfl
    go_simp
    exact ⟨_, rfl, gr_refl _ _, rfl⟩
  · intro a' w' hdf hgr hfar hdep
    have e42 : a'.tmps.getD 42 undef = .pointer (some ⟨g, 0, none⟩) := hdep 9 _ 42 (by kernel_rfl) rfl rfl
    have r0 := hgr.cell HH0.out (by simp)
    have r1 := hgr.cell HH1.out (by simp)
    have r2 := hgr.cell HH2.out (by simp)
    go_simp
    exact ⟨_, rfl, gr_refl _ _, rfl⟩
  · intro a' w' hdf hgr hfar hdep
    have e43 : a'.tmps.getD 43 undef = .agg #[.int .u8 a2, .int .u8 b2, .slice A2 k2 c2] := hdep 10 _ 43 (by kernel_rfl) rfl rfl
    go_simp
    refine (HI1.out u w' HG.out hgr).mono ?_
    rintro e w2 ⟨rfl, _, hg2⟩
    exact ⟨_, rfl, hg2, rfl⟩
  · intro a' w' hdf hgr hfar hdep
    have e39 : a'.tmps.getD 39 undef = .string s2 := hdep 6 _ 39 (by kernel_rfl) rfl rfl
    have e44 : a'.tmps.getD 44 undef = .string X := hdep 11 _ 44 (by kernel_rfl) rfl rfl
    go_simp
    exact ⟨_, rfl, gr_refl _ _, rfl⟩
  · intro a' w' hdf hgr hfar hdep
    have e45 : a'.tmps.getD 45 undef = .string s3 := hdep 12 _ 45 (by kernel_rfl) rfl rfl
    go_simp
    exact ⟨_, rfl, gr_refl _ _, rfl⟩
  · intro a' w' hdf hgr hfar hdep
    have e1 : a'.tmps.getD 1 undef = .pointer (some ⟨w.heap.size, 0, none⟩) := hfar 1 (by kernel_rfl)
    go_simp
    exact ⟨_, rfl, gr_refl _ _, rfl⟩
  · intro a' w' hdf hgr hfar hdep
    have e47 : a'.tmps.getD 47 undef = .pointer (some ⟨w.heap.size, 2, none⟩) := hdep 14 _ 47 (by kernel_rfl) rfl rfl
    have f2 := hgr.cell HX2.out (by simp)
    go_simp
    exact ⟨_, rfl, gr_refl _ _, rfl⟩
  · intro a' w' hdf hgr hfar hdep
    have e48 : a'.tmps.getD 48 undef = .slice (some ⟨g, 0, none⟩) 2 c := hdep 15 _ 48 (by kernel_rfl) rfl rfl
    go_simp
    exact ⟨_, rfl, gr_refl _ _, rfl⟩
  · intro a' w' hdf hgr hfar hdep
    have e49 : a'.tmps.getD 49 undef = .pointer (some ⟨g, 3, none⟩) := hdep 16 _ 49 (by kernel_rfl) rfl rfl
    have r3 := hgr.cell HH3.out (by simp)
    have r4 := hgr.cell HH4.out (by simp)
    have r5 := hgr.cell HH5.out (by simp)
    go_simp
    exact ⟨_, rfl, gr_refl _ _, rfl⟩
  · intro a' w' hdf hgr hfar hdep
    have e50 : a'.tmps.getD 50 undef = .agg #[.int .u8 a3, .int .u8 b3, .slice A3 k3 c3] := hdep 17 _ 50 (by kernel_rfl) rfl rfl
    go_simp
    refine (HI2.out u w' HG.out hgr).mono ?_
    rintro e w2 ⟨rfl, _, hg2⟩
    exact ⟨_, rfl, hg2, rfl⟩
  · intro a' w' hdf hgr hfar hdep
    have e46 : a'.tmps.getD 46 undef = .string s4 := hdep 13 _ 46 (by kernel_rfl) rfl rfl
    have e51 : a'.tmps.getD 51 undef = .string Y := hdep 18 _ 51 (by kernel_rfl) rfl rfl
    go_simp
    exact ⟨_, rfl, gr_refl _ _, rfl⟩
  · intro a' w' hdf hgr hfar hdep
    have e1 : a'.tmps.getD 1 undef = .pointer (some ⟨w.heap.size, 0, none⟩) := hfar 1 (by kernel_rfl)
    go_simp
    exact ⟨_, rfl, gr_refl _ _, rfl⟩
  · intro a' w' hdf hgr hfar hdep
    have e53 : a'.tmps.getD 53 undef = .pointer (some ⟨w.heap.size, 0, none⟩) := hdep 20 _ 53 (by kernel_rfl) rfl rfl
    have f0 := hgr.cell HX0.out (by simp)
    go_simp
    exact ⟨_, rfl, gr_refl _ _, rfl⟩
  · intro a' w' hdf hgr hfar hdep
    have e54 : a'.tmps.getD 54 undef = .int .u8 a := hdep 21 _ 54 (by kernel_rfl) rfl rfl
    go_simp
    exact ⟨_, rfl, gr_refl _ _, rfl⟩
  · intro a' w' hdf hgr hfar hdep
    have e55 : a'.tmps.getD 55 undef = .int .u8 (a + 2) := hdep 22 _ 55 (by kernel_rfl) rfl rfl
    have e55' : a'.tmps[55]?.getD undef = .int .u8 (a + 2) := by rw [← e55]; simp
    go_simp
    exact ⟨_, rfl, World.grownBy_alloc _ _ _, ⟨_, rfl, cell_of_row _ _ 0 _ _ (0, 0) (heap_alloc_new _ _)⟩⟩
  · intro a' w' hdf hgr hfar hdep
    obtain ⟨kk, hk, hc⟩ : OneB (a'.tmps.getD 56 undef) w' (a + 2) := hdep 23 _ 56 (by kernel_rfl) rfl rfl
    have hcv := conv_oneb hc
    go_simp
    exact ⟨_, rfl, gr_refl _ _, rfl⟩
  · intro a' w' hdf hgr hfar hdep
    have e52 : a'.tmps.getD 52 undef = .string s5 := hdep 19 _ 52 (by kernel_rfl) rfl rfl
    have e57 : a'.tmps.getD 57 undef = .string (one (a + 2)) := hdep 24 _ 57 (by kernel_rfl) rfl rfl
    go_simp
    exact ⟨_, rfl, gr_refl _ _, rfl⟩
  · intro a' w' hdf hgr hfar hdep
    have e58 : a'.tmps.getD 58 undef = .string s6 := hdep 25 _ 58 (by kernel_rfl) rfl rfl
    go_simp
    exact ⟨_, rfl, gr_refl _ _, rfl⟩
end

section
open Go.RowKit

theorem stxt_any : ∀ (t : Tm) (S : Nat → Prop) (a b : Int) (A : Option Addr) (k c : Nat) (w : World), t.Ok → t.txt.length ≤ 1000000 → SN w S t (a, b, .slice A k c) →
    Calls Tryz.prog 31 #[.agg #[.int .u8 a, .int .u8 b, .slice A k c]] w (STxtPost t w)
  | .dig d, S, a, b, A, k, c, w, _, _, h => by
    obtain ⟨_, h2, ho, _⟩ := h
    simp only at h2 ho
    subst h2
    obtain rfl := own_len ho
    exact stxt_leaf _ a b A c w rfl
  | .var d, S, a, b, A, k, c, w, _, _, h => by
    obtain ⟨_, h2, ho, _⟩ := h
    simp only at h2 ho
    subst h2
    obtain rfl := own_len ho
    exact stxt_leaf _ a b A c w rfl
  | .pre d s, S, a, b, A, k, c, w, hok, hl, h => by
    obtain ⟨h1, h2, ⟨y1, y2, y3⟩, ho, _, hs⟩ := h
    simp only at h1 h2 ho
    subst h1; subst h2
    obtain rfl := own_len ho
    obtain ⟨A2, k2, c2, hsv⟩ := hs.form
    simp only at hsv
    subst hsv
    have hl2 : s.txt.length ≤ 1000000 := by simp only [Tm.txt, List.length_cons] at hl; omega
    exact stxt_pre _ s a 0 y1 y2 A A2 c k2 c2 w rfl hl2 ho (fun u hg => (stxt_any s S y1 y2 A2 k2 c2 u hok.2 hl2 (hs.grown hg)))
  | .two d s t, S, a, b, A, k, c, w, hok, hl, h => by
    obtain ⟨h1, h2, ⟨y1, y2, y3⟩, ⟨z1, z2, z3⟩, ho, _, hs, ht⟩ := h
    simp only at h1 h2 ho
    subst h1; subst h2
    obtain rfl := own_len ho
    obtain ⟨A2, k2, c2, hsv⟩ := hs.form
    obtain ⟨A3, k3, c3, htv⟩ := ht.form
    simp only at hsv htv
    subst hsv; subst htv
    have hl2 : s.txt.length ≤ 1000000 ∧ t.txt.length ≤ 1000000 := by simp only [Tm.txt, List.length_cons, List.length_append] at hl; omega
    exact stxt_two _ s t a y1 y2 z1 z2 A A2 A3 c k2 c2 k3 c3 w rfl hl ho (fun u hg => stxt_any s S y1 y2 A2 k2 c2 u hok.2.1 hl2.1 (hs.grown hg)) (fun u hg => stxt_any t S z1 z2 A3 k3 c3 u hok.2.2 hl2.2 (ht.grown hg))
  | .loop d i s t, S, a, b, A, k, c, w, hok, hl, h => by
    obtain ⟨h1, h2, ⟨y1, y2, y3⟩, ⟨z1, z2, z3⟩, ho, _, hs, ht⟩ := h
    simp only at h1 h2 ho
    subst h1; subst h2
    obtain rfl := own_len ho
    obtain ⟨A2, k2, c2, hsv⟩ := hs.form
    obtain ⟨A3, k3, c3, htv⟩ := ht.form
    simp only at hsv htv
    subst hsv; subst htv
    have hl2 : s.txt.length ≤ 1000000 ∧ t.txt.length ≤ 1000000 := by simp only [Tm.txt, List.length_cons, List.length_append] at hl; omega
    have hi := isL_ge hok.2.1
    exact stxt_loop _ s t a b y1 y2 z1 z2 A A2 A3 c k2 c2 k3 c3 w hok.1 (by rw [bne_iff_ne]; omega) rfl hl ho (fun u hg => stxt_any s S y1 y2 A2 k2 c2 u hok.2.2.1 hl2.1 (hs.grown hg)) (fun u hg => stxt_any t S z1 z2 A3 k3 c3 u hok.2.2.2 hl2.2 (ht.grown hg))
end

end Go.Proofs.YtboddoaekcchpaaGreat
