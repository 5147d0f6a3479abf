/- What the model's reader of terms does: node at a sign between two parts. -/
import Derived.Test.YtboddoaekcchpaaGreatSTNode
namespace Go.Proofs.YtboddoaekcchpaaGreat
open Go.RowKit

set_option maxRecDepth 100000 in
set_option maxHeartbeats 4000000 in
theorem snode_two (g f p : Nat) (s : ByteArray) (hs : s.size ≤ 1048576) (ih : ∀ (p : Nat) (w : World), p ≤ s.size → s.size < p + f → SR w g s p false → Calls Tryz.prog 51 #[.pointer (some ⟨g, 0, none⟩)] w (SPost s f p g w)) (hf : s.size < p + 1 + f)
    (w : World) (h : SR w g s p false) (hp : p < s.size) (hc40 : ba s p = 40) :
    Calls Tryz.prog 51 #[.pointer (some ⟨g, 0, none⟩)] w (SPost s (f + 1) p g w) := by
  have HIH := Lib.hid ih
  clear ih
  have HR := Lib.hid h
  have hgw := h.lt
  have HR0 := Lib.hid (h.alloc (.cells #[.int .u8 0, .int .u8 0, .slice none 0 0] 57))
  have HN := Lib.hid (c3_new w (.int .u8 0) (.int .u8 0) (.slice none 0 0) 57)
  have HG0 := Lib.hid (World.grownBy_alloc w (.cells #[.int .u8 0, .int .u8 0, .slice none 0 0] 57) (some g))
  have HZ0 := Lib.hid (show (w.alloc (.cells #[.int .u8 0, .int .u8 0, .slice none 0 0] 57)).heap.size = w.heap.size + 1 by simp)
  clear h
  go_enter Tryz.func51, Tryz.ntmps51
  go_wp2_with fail
  refine (snext_any g p s false _ HR0.out hs).mono ?_
  generalize w.alloc (.cells #[.int .u8 0, .int .u8 0, .slice none 0 0] 57) = w0 at HR0 HN HG0 HZ0 ⊢
  rintro e w1 ⟨hg1, c, rfl, hc0, hc1, hcase⟩
  have HN1 := Lib.hid (HN.out.grown hg1 (by simp; omega))
  have HG1 := Lib.hid (HG0.out.trans hg1)
  have hz1 : w.heap.size + 1 ≤ w1.heap.size := by have := HZ0.out; have := hg1.size; omega
  clear hg1 HR0 HN HG0
  rcases hcase with ⟨hlt, hcb, hr1⟩ | ⟨hge, _⟩
  case inr => omega
  obtain rfl : c = 40 := by omega
  have HC40 := Lib.hid hc40
  have HI := Lib.hid (fun w => in_any 40 48 57 false (by rfl) w)
  have HJ := Lib.hid (fun w => in_any 40 118 122 false (by rfl) w)
  have HK := Lib.hid (fun w => findP 40 (by omega) (by omega) false (by rfl) w)
  have HR1 := Lib.hid hr1
  clear hr1 hcb hc40
  go_wp2_with fail
  refine (HI.out w1).mono ?_
  rintro e w' ⟨rfl, rfl⟩
  go_wp2_with fail
  refine (HJ.out w').mono ?_
  rintro e w' ⟨rfl, rfl⟩
  go_wp2_with fail
  refine (HK.out w').mono ?_
  rintro e w' ⟨kk, rfl, hkk, rfl⟩
  go_wp2_with fail
  clear hkk
  refine (spart_good g f (p + 1) s _ HR1.out (fun w h => HIH.out (p + 1) w (by omega) (by omega) h)).mono ?_
  rintro e w2 ⟨hg2, a, b, A, k2, c2, rfl, hcase2⟩
  have HX2 := Lib.hid (c3_new w2 (.int .u8 a) (.int .u8 b) (.slice A k2 c2) 57)
  have HN2 := Lib.hid ((HN1.out.grown hg2 (by simp; omega)).alloc (.cells #[.int .u8 a, .int .u8 b, .slice A k2 c2] 57))
  have HG2 := Lib.hid ((HG1.out.trans hg2).trans (World.grownBy_alloc w2 (.cells #[.int .u8 a, .int .u8 b, .slice A k2 c2] 57) (some g)))
  have HC2 := Lib.hid hcase2
  have hz2 : w'.heap.size ≤ w2.heap.size := hg2.size
  have hzb : w2.heap.size < (w2.alloc (.cells #[.int .u8 a, .int .u8 b, .slice A k2 c2] 57)).heap.size := by simp
  have HKP := Lib.hid (fun (k : Nat) (hk : k < w2.heap.size) => Below.heap_alloc w2 (.cells #[.int .u8 a, .int .u8 b, .slice A k2 c2] 57) k hk)
  clear hg2 hcase2
  go_wp2_with fail
  generalize w2.alloc (.cells #[.int .u8 a, .int .u8 b, .slice A k2 c2] 57) = w3 at HX2 HN2 HG2 hzb HKP ⊢
  rcases HC2.out with ⟨x, q2, hx, hrx, hnx⟩ | ⟨hx, q2, hq2, hrx⟩
  · have HMX := Lib.hid hx
    have gx := tm_ge s f _ _ _ hx
    have HSX3 := Lib.hid ((hnx.wide (S' := fun b => w.heap.size + 1 ≤ b) (fun b hb => by omega)).keep (fun k _ hk => HKP.out k hk) (fun _ h _ => h) _ _)
    have HR3 := Lib.hid (show SR w3 g s q2 false from (HKP.out g (by omega)).trans hrx)
    clear hx hrx hnx HC2 HKP
    refine (snext_any g q2 s false w3 HR3.out hs).mono ?_
    rintro e w4 ⟨hg4, d, rfl, hd0, hd1, hcase4⟩
    have HX4 := Lib.hid (HX2.out.grown hg4 (by simp; omega))
    have HN4 := Lib.hid (HN2.out.grown hg4 (by simp; omega))
    have HG4 := Lib.hid (HG2.out.trans hg4)
    have HSX4 := Lib.hid (HSX3.out.more hg4 (by show ¬ (w.heap.size + 1 ≤ g); omega))
    have hz4 : w3.heap.size ≤ w4.heap.size := hg4.size
    clear hg4 HX2 HN2 HG2 HSX3 HR3
    rcases hcase4 with ⟨hq4, hdb, hr4⟩ | ⟨hq4, hdb, rfl, hr4⟩
    · have HR4 := Lib.hid hr4
      have rc := hr4.c2
      have rf := hr4.f 2
      clear hr4
      cases hB : isB d
      · have HL := Lib.hid (fun w => findB d hd0 hd1 false hB w)
        have HNO := Lib.hid (tm_two_n2 HC40.out HMX.out (by rw [← hdb]; exact hB))
        clear hB hdb
        go_wp2_with fail
        refine (HL.out w4).mono ?_
        rintro e w' ⟨k9, rfl, hk9, rfl⟩
        have hk9' : decide (k9 < 0) = true := by have := of_decide_eq_false hk9; simp; omega
        go_wp2_with fail
        clear hk9 hk9' rc rf
        have HXv := Lib.hid (show C3 (w'.setCell ⟨g, 2, none⟩ (.bool true)) w2.heap.size (.int .u8 a) (.int .u8 b) (.slice A k2 c2) 57 from (Below.heap_setCell _ _ _ _ (by show w2.heap.size ≠ g; omega)).trans HX4.out)
        have HNv := Lib.hid (show C3 (w'.setCell ⟨g, 2, none⟩ (.bool true)) w.heap.size (.int .u8 0) (.int .u8 0) (.slice none 0 0) 57 from (Below.heap_setCell _ _ _ _ (by show w.heap.size ≠ g; omega)).trans HN4.out)
        have HGv := Lib.hid (HG4.out.trans (gr_set w' g 2 (.bool true)))
        have HRv := Lib.hid (HR4.out.set2 true)
        have hzv : w'.heap.size ≤ (w'.setCell ⟨g, 2, none⟩ (.bool true)).heap.size := by simp
        generalize w'.setCell ⟨g, 2, none⟩ (.bool true) = v at HXv HNv HGv HRv hzv ⊢
        refine (spart_bad g (q2 + 1) s v HRv.out).mono ?_
        rintro e wy ⟨rfl, hry, hgy⟩
        have HXy := Lib.hid ((HXv.out.grown hgy (by simp; omega)).alloc (.cells #[.int .u8 0, .int .u8 0, .slice none 0 0] 57))
        have HYy := Lib.hid (c3_new wy (.int .u8 0) (.int .u8 0) (.slice none 0 0) 57)
        have HNy := Lib.hid ((HNv.out.grown hgy (by simp; omega)).alloc (.cells #[.int .u8 0, .int .u8 0, .slice none 0 0] 57))
        have HGy := Lib.hid ((HGv.out.trans hgy).trans (World.grownBy_alloc wy (.cells #[.int .u8 0, .int .u8 0, .slice none 0 0] 57) (some g)))
        have HRy := Lib.hid (hry.alloc (.cells #[.int .u8 0, .int .u8 0, .slice none 0 0] 57))
        have ry := HRy.out.c2
        clear hry hgy
        have x0 := HXy.out.c0
        have x1 := HXy.out.c1
        have x2 := HXy.out.c2
        have y0 := HYy.out.c0
        have y1 := HYy.out.c1
        have y2 := HYy.out.c2
        have HNZ := Lib.hid (HNy.out.alloc (.cells #[.int .u8 a, .int .u8 b, .slice A k2 c2, .int .u8 0, .int .u8 0, .slice none 0 0] 57))
        have n0 := HNZ.out.c0
        have n1 := HNZ.out.c1
        have n2 := HNZ.out.c2
        have f0 := HNZ.out.f 0
        have f1 := HNZ.out.f 1
        have f2 := HNZ.out.f 2
        go_wp2_with fail
        have HL := Lib.hid (HNZ.out.laid (x' := .int .u8 d) (y' := .int .u8 0) (z' := (.slice (some ⟨wy.heap.size + 1, 0, none⟩) 2 2)))
        clear n0 n1 n2 f0 f1 f2
        have n0 := HL.out.c0
        have n1 := HL.out.c1
        have n2 := HL.out.c2
        unfold laid3 at n0 n1 n2
        refine bodyPost_ret (v := .agg #[.int .u8 d, .int .u8 0, (.slice (some ⟨wy.heap.size + 1, 0, none⟩) 2 2)]) (by simp [results, Tryz.results51, go_sem, n0, n1, n2]) rfl ?_
        have HGL := gr_laid3 (HGy.out.trans (World.grownBy_alloc _ (.cells #[.int .u8 a, .int .u8 b, .slice A k2 c2, .int .u8 0, .int .u8 0, .slice none 0 0] 57) (some g))) (Nat.le_refl _) (.int .u8 d) (.int .u8 0) (.slice (some ⟨wy.heap.size + 1, 0, none⟩) 2 2)
        exact spost_bad HGL rfl HNO.out hq4 ((HRy.out.alloc _).laid (by omega) _ _ _)
  
      · have HL := Lib.hid (fun w => findB d hd0 hd1 true hB w)
        have HBB := Lib.hid (show isB (ba s q2) = true by rw [← hdb]; exact hB)
        have HDB := Lib.hid hdb
        clear hB hdb
        go_wp2_with fail
        refine (HL.out w4).mono ?_
        rintro e w' ⟨k9, rfl, hk9, rfl⟩
        have hk9' : decide (k9 < 0) = false := by have := of_decide_eq_true hk9; simp; omega
        go_wp2_with fail
        clear hk9 hk9' rc rf
        have HXv := Lib.hid (show C3 (w'.setCell ⟨g, 2, none⟩ (.bool false)) w2.heap.size (.int .u8 a) (.int .u8 b) (.slice A k2 c2) 57 from (Below.heap_setCell _ _ _ _ (by show w2.heap.size ≠ g; omega)).trans HX4.out)
        have HNv := Lib.hid (show C3 (w'.setCell ⟨g, 2, none⟩ (.bool false)) w.heap.size (.int .u8 0) (.int .u8 0) (.slice none 0 0) 57 from (Below.heap_setCell _ _ _ _ (by show w.heap.size ≠ g; omega)).trans HN4.out)
        have HGv := Lib.hid (HG4.out.trans (gr_set w' g 2 (.bool false)))
        have HRv := Lib.hid (HR4.out.set2 false)
        have HSXv := Lib.hid (HSX4.out.far (b := g) (i := 2) (by show ¬ (w.heap.size + 1 ≤ g); omega) (.bool false))
        have hzv : w'.heap.size ≤ (w'.setCell ⟨g, 2, none⟩ (.bool false)).heap.size := by simp
        generalize w'.setCell ⟨g, 2, none⟩ (.bool false) = v at HXv HNv HGv HRv HSXv hzv ⊢
        refine (spart_good g f (q2 + 1) s v HRv.out (fun w h => HIH.out (q2 + 1) w (by omega) (by omega) h)).mono ?_
        rintro e w5 ⟨hg5, a5, b5, A5, k5, c5, rfl, hcase5⟩
        have hz5 : v.heap.size ≤ w5.heap.size := hg5.size
        have HX5 := Lib.hid ((HXv.out.grown hg5 (by simp; omega)).alloc (.cells #[.int .u8 a5, .int .u8 b5, .slice A5 k5 c5] 57))
        have HY5 := Lib.hid (c3_new w5 (.int .u8 a5) (.int .u8 b5) (.slice A5 k5 c5) 57)
        have HN5 := Lib.hid ((HNv.out.grown hg5 (by simp; omega)).alloc (.cells #[.int .u8 a5, .int .u8 b5, .slice A5 k5 c5] 57))
        have HG5 := Lib.hid ((HGv.out.trans hg5).trans (World.grownBy_alloc w5 (.cells #[.int .u8 a5, .int .u8 b5, .slice A5 k5 c5] 57) (some g)))
        have HSX5 := Lib.hid ((HSXv.out.more hg5 (by show ¬ (w.heap.size + 1 ≤ g); omega)).keep (fun k _ hk => Below.heap_alloc w5 (.cells #[.int .u8 a5, .int .u8 b5, .slice A5 k5 c5] 57) k hk) (fun _ h _ => h) _ _)
        clear hg5
        rcases hcase5 with ⟨y, q5, hy, hr5, hsy⟩ | ⟨hy, q5, hq5, hr5⟩
        · have g5 := tm_ge s f _ _ _ hy
          have HMY := Lib.hid hy
          have HR5 := Lib.hid (hr5.alloc (.cells #[.int .u8 a5, .int .u8 b5, .slice A5 k5 c5] 57))
          have HSY5 := Lib.hid ((hsy.wide (S' := fun b => w.heap.size + 1 ≤ b) (fun b hb => by omega)).keep (fun k _ hk => Below.heap_alloc w5 (.cells #[.int .u8 a5, .int .u8 b5, .slice A5 k5 c5] 57) k hk) (fun _ h _ => h) _ _)
          have hzz : w5.heap.size < (w5.alloc (.cells #[.int .u8 a5, .int .u8 b5, .slice A5 k5 c5] 57)).heap.size := by simp
          have ry := HR5.out.c2
          clear hy hr5 hsy
          go_wp2_with fail
          clear ry
          generalize w5.alloc (.cells #[.int .u8 a5, .int .u8 b5, .slice A5 k5 c5] 57) = w6 at HX5 HY5 HN5 HG5 HR5 HSX5 HSY5 hzz ⊢
          refine (sis_any g q5 s 41 false w6 HR5.out (by omega) g5.2.1 hs).mono ?_
          rintro e w7 ⟨rfl, hg7, hcase7⟩
          have HX7 := Lib.hid (HX5.out.grown hg7 (by simp; omega))
          have HY7 := Lib.hid (HY5.out.grown hg7 (by simp; omega))
          have HN7 := Lib.hid (HN5.out.grown hg7 (by simp; omega))
          have HG7 := Lib.hid (HG5.out.trans hg7)
          have HSX7 := Lib.hid (HSX5.out.more hg7 (by show ¬ (w.heap.size + 1 ≤ g); omega))
          have HSY7 := Lib.hid (HSY5.out.more hg7 (by show ¬ (w.heap.size + 1 ≤ g); omega))
          have hz7 : w6.heap.size ≤ w7.heap.size := hg7.size
          have HC7 := Lib.hid hcase7
          clear hg7 hcase7
          have x0 := HX7.out.c0
          have x1 := HX7.out.c1
          have x2 := HX7.out.c2
          have y0 := HY7.out.c0
          have y1 := HY7.out.c1
          have y2 := HY7.out.c2
          have HNZ := Lib.hid (HN7.out.alloc (.cells #[.int .u8 a, .int .u8 b, .slice A k2 c2, .int .u8 a5, .int .u8 b5, .slice A5 k5 c5] 57))
          have n0 := HNZ.out.c0
          have n1 := HNZ.out.c1
          have n2 := HNZ.out.c2
          have f0 := HNZ.out.f 0
          have f1 := HNZ.out.f 1
          have f2 := HNZ.out.f 2
          go_wp2_with fail
          have HL := Lib.hid (HNZ.out.laid (x' := .int .u8 d) (y' := .int .u8 0) (z' := (.slice (some ⟨w7.heap.size, 0, none⟩) 2 2)))
          clear n0 n1 n2 f0 f1 f2
          have n0 := HL.out.c0
          have n1 := HL.out.c1
          have n2 := HL.out.c2
          unfold laid3 at n0 n1 n2
          refine bodyPost_ret (v := .agg #[.int .u8 d, .int .u8 0, (.slice (some ⟨w7.heap.size, 0, none⟩) 2 2)]) (by simp [results, Tryz.results51, go_sem, n0, n1, n2]) rfl ?_
          have HGL := gr_laid3 (HG7.out.trans (World.grownBy_alloc w7 (.cells #[.int .u8 a, .int .u8 b, .slice A k2 c2, .int .u8 a5, .int .u8 b5, .slice A5 k5 c5] 57) (some g))) (Nat.le_refl _) (.int .u8 d) (.int .u8 0) (.slice (some ⟨w7.heap.size, 0, none⟩) 2 2)
          rcases HC7.out with ⟨_, hc41, hr7⟩ | ⟨hc41, q7, hq7, hr7⟩
          · refine spost_ok HGL rfl (tm_two_s HC40.out HMX.out HBB.out HMY.out hc41) ((hr7.alloc _).laid (by omega) _ _ _) ?_
            refine ⟨HDB.out, rfl, (a, b, .slice A k2 c2), (a5, b5, .slice A5 k5 c5), own_keep (row_new [(a, b, .slice A k2 c2), (a5, b5, .slice A5 k5 c5)] _ rfl rfl (by simp)) (fun k hk => laid3_heap _ _ _ _ _ _ (by simp [Value.ownBlock] at hk; omega)), fun k hk => by simp [Value.ownBlock] at hk; omega, ?_, ?_⟩
            · exact (SN.laid (HSX7.out.keep (fun k _ hk => Below.heap_alloc _ _ _ hk) (fun _ h _ => h) _ _) (by show ¬ (w.heap.size + 1 ≤ w.heap.size); omega) _ _ _).wide (fun b hb => by omega)
            · exact (SN.laid (HSY7.out.keep (fun k _ hk => Below.heap_alloc _ _ _ hk) (fun _ h _ => h) _ _) (by show ¬ (w.heap.size + 1 ≤ w.heap.size); omega) _ _ _).wide (fun b hb => by omega)
          · exact spost_bad HGL rfl (tm_two_n4 HC40.out HMX.out HBB.out HMY.out (fun hh => hc41 ⟨by first | rfl | trivial, hh⟩)) hq7 ((hr7.alloc _).laid (by omega) _ _ _)
        · have HNO := Lib.hid (tm_two_n3 HC40.out HMX.out HBB.out hy)
          have HR5 := Lib.hid (hr5.alloc (.cells #[.int .u8 a5, .int .u8 b5, .slice A5 k5 c5] 57))
          have ry := HR5.out.c2
          clear hy hr5
          have x0 := HX5.out.c0
          have x1 := HX5.out.c1
          have x2 := HX5.out.c2
          have y0 := HY5.out.c0
          have y1 := HY5.out.c1
          have y2 := HY5.out.c2
          have HNZ := Lib.hid (HN5.out.alloc (.cells #[.int .u8 a, .int .u8 b, .slice A k2 c2, .int .u8 a5, .int .u8 b5, .slice A5 k5 c5] 57))
          have n0 := HNZ.out.c0
          have n1 := HNZ.out.c1
          have n2 := HNZ.out.c2
          have f0 := HNZ.out.f 0
          have f1 := HNZ.out.f 1
          have f2 := HNZ.out.f 2
          go_wp2_with fail
          have HL := Lib.hid (HNZ.out.laid (x' := .int .u8 d) (y' := .int .u8 0) (z' := (.slice (some ⟨w5.heap.size + 1, 0, none⟩) 2 2)))
          clear n0 n1 n2 f0 f1 f2
          have n0 := HL.out.c0
          have n1 := HL.out.c1
          have n2 := HL.out.c2
          unfold laid3 at n0 n1 n2
          refine bodyPost_ret (v := .agg #[.int .u8 d, .int .u8 0, (.slice (some ⟨w5.heap.size + 1, 0, none⟩) 2 2)]) (by simp [results, Tryz.results51, go_sem, n0, n1, n2]) rfl ?_
          have HGL := gr_laid3 (HG5.out.trans (World.grownBy_alloc _ (.cells #[.int .u8 a, .int .u8 b, .slice A k2 c2, .int .u8 a5, .int .u8 b5, .slice A5 k5 c5] 57) (some g))) (Nat.le_refl _) (.int .u8 d) (.int .u8 0) (.slice (some ⟨w5.heap.size + 1, 0, none⟩) 2 2)
          exact spost_bad HGL rfl HNO.out hq5 ((HR5.out.alloc _).laid (by omega) _ _ _)
  
    · have HR4 := Lib.hid hr4
      have rc := hr4.c2
      have rf := hr4.f 2
      have HNO := Lib.hid (tm_two_n2 HC40.out HMX.out (by rw [hdb]; rfl))
      clear hr4 hdb
      go_wp2_with fail
      clear rc rf
      have HXv := Lib.hid (show C3 (w4.setCell ⟨g, 2, none⟩ (.bool true)) w2.heap.size (.int .u8 a) (.int .u8 b) (.slice A k2 c2) 57 from (Below.heap_setCell _ _ _ _ (by show w2.heap.size ≠ g; omega)).trans HX4.out)
      have HNv := Lib.hid (show C3 (w4.setCell ⟨g, 2, none⟩ (.bool true)) w.heap.size (.int .u8 0) (.int .u8 0) (.slice none 0 0) 57 from (Below.heap_setCell _ _ _ _ (by show w.heap.size ≠ g; omega)).trans HN4.out)
      have HGv := Lib.hid (HG4.out.trans (gr_set w4 g 2 (.bool true)))
      have HRv := Lib.hid (HR4.out.set2 true)
      have hzv : w4.heap.size ≤ (w4.setCell ⟨g, 2, none⟩ (.bool true)).heap.size := by simp
      generalize w4.setCell ⟨g, 2, none⟩ (.bool true) = v at HXv HNv HGv HRv hzv ⊢
      refine (spart_bad g q2 s v HRv.out).mono ?_
      rintro e wy ⟨rfl, hry, hgy⟩
      have HXy := Lib.hid ((HXv.out.grown hgy (by simp; omega)).alloc (.cells #[.int .u8 0, .int .u8 0, .slice none 0 0] 57))
      have HYy := Lib.hid (c3_new wy (.int .u8 0) (.int .u8 0) (.slice none 0 0) 57)
      have HNy := Lib.hid ((HNv.out.grown hgy (by simp; omega)).alloc (.cells #[.int .u8 0, .int .u8 0, .slice none 0 0] 57))
      have HGy := Lib.hid ((HGv.out.trans hgy).trans (World.grownBy_alloc wy (.cells #[.int .u8 0, .int .u8 0, .slice none 0 0] 57) (some g)))
      have HRy := Lib.hid (hry.alloc (.cells #[.int .u8 0, .int .u8 0, .slice none 0 0] 57))
      have ry := HRy.out.c2
      clear hry hgy
      have x0 := HXy.out.c0
      have x1 := HXy.out.c1
      have x2 := HXy.out.c2
      have y0 := HYy.out.c0
      have y1 := HYy.out.c1
      have y2 := HYy.out.c2
      have HNZ := Lib.hid (HNy.out.alloc (.cells #[.int .u8 a, .int .u8 b, .slice A k2 c2, .int .u8 0, .int .u8 0, .slice none 0 0] 57))
      have n0 := HNZ.out.c0
      have n1 := HNZ.out.c1
      have n2 := HNZ.out.c2
      have f0 := HNZ.out.f 0
      have f1 := HNZ.out.f 1
      have f2 := HNZ.out.f 2
      go_wp2_with fail
      have HL := Lib.hid (HNZ.out.laid (x' := .int .u8 0) (y' := .int .u8 0) (z' := (.slice (some ⟨wy.heap.size + 1, 0, none⟩) 2 2)))
      clear n0 n1 n2 f0 f1 f2
      have n0 := HL.out.c0
      have n1 := HL.out.c1
      have n2 := HL.out.c2
      unfold laid3 at n0 n1 n2
      refine bodyPost_ret (v := .agg #[.int .u8 0, .int .u8 0, (.slice (some ⟨wy.heap.size + 1, 0, none⟩) 2 2)]) (by simp [results, Tryz.results51, go_sem, n0, n1, n2]) rfl ?_
      have HGL := gr_laid3 (HGy.out.trans (World.grownBy_alloc _ (.cells #[.int .u8 a, .int .u8 b, .slice A k2 c2, .int .u8 0, .int .u8 0, .slice none 0 0] 57) (some g))) (Nat.le_refl _) (.int .u8 0) (.int .u8 0) (.slice (some ⟨wy.heap.size + 1, 0, none⟩) 2 2)
      exact spost_bad HGL rfl HNO.out gx.2.1 ((HRy.out.alloc _).laid (by omega) _ _ _)
  
  · have HNO := Lib.hid (tm_two_n1 HC40.out hx)
    have HR3 := Lib.hid (show SR w3 g s q2 true from (HKP.out g (by omega)).trans hrx)
    clear hx hrx HC2 HKP
    refine (snext_any g q2 s true w3 HR3.out hs).mono ?_
    rintro e w4 ⟨hg4, d, rfl, hd0, hd1, hcase4⟩
    have HX4 := Lib.hid (HX2.out.grown hg4 (by simp; omega))
    have HN4 := Lib.hid (HN2.out.grown hg4 (by simp; omega))
    have HG4 := Lib.hid (HG2.out.trans hg4)
    have hz4 : w3.heap.size ≤ w4.heap.size := hg4.size
    clear hg4 HX2 HN2 HG2 HR3
    have hr4' : ∃ q4, q4 ≤ s.size ∧ SR w4 g s q4 true := by
      rcases hcase4 with ⟨hq4, _, hr4⟩ | ⟨hq4, _, _, hr4⟩
      · exact ⟨_, hq4, hr4⟩
      · exact ⟨_, hq2, hr4⟩
    obtain ⟨q4, hq4, hr4⟩ := hr4'
    have HR4 := Lib.hid hr4
    have rc := hr4.c2
    have rf := hr4.f 2
    clear hr4 hcase4
    go_wp2_with fail
    clear rc rf
    have HXv := Lib.hid (show C3 (w4.setCell ⟨g, 2, none⟩ (.bool true)) w2.heap.size (.int .u8 a) (.int .u8 b) (.slice A k2 c2) 57 from (Below.heap_setCell _ _ _ _ (by show w2.heap.size ≠ g; omega)).trans HX4.out)
    have HNv := Lib.hid (show C3 (w4.setCell ⟨g, 2, none⟩ (.bool true)) w.heap.size (.int .u8 0) (.int .u8 0) (.slice none 0 0) 57 from (Below.heap_setCell _ _ _ _ (by show w.heap.size ≠ g; omega)).trans HN4.out)
    have HGv := Lib.hid (HG4.out.trans (gr_set w4 g 2 (.bool true)))
    have HRv := Lib.hid (HR4.out.set2 true)
    have hzv : w4.heap.size ≤ (w4.setCell ⟨g, 2, none⟩ (.bool true)).heap.size := by simp
    generalize w4.setCell ⟨g, 2, none⟩ (.bool true) = v at HXv HNv HGv HRv hzv ⊢
    refine (spart_bad g q4 s v HRv.out).mono ?_
    rintro e wy ⟨rfl, hry, hgy⟩
    have HXy := Lib.hid ((HXv.out.grown hgy (by simp; omega)).alloc (.cells #[.int .u8 0, .int .u8 0, .slice none 0 0] 57))
    have HYy := Lib.hid (c3_new wy (.int .u8 0) (.int .u8 0) (.slice none 0 0) 57)
    have HNy := Lib.hid ((HNv.out.grown hgy (by simp; omega)).alloc (.cells #[.int .u8 0, .int .u8 0, .slice none 0 0] 57))
    have HGy := Lib.hid ((HGv.out.trans hgy).trans (World.grownBy_alloc wy (.cells #[.int .u8 0, .int .u8 0, .slice none 0 0] 57) (some g)))
    have HRy := Lib.hid (hry.alloc (.cells #[.int .u8 0, .int .u8 0, .slice none 0 0] 57))
    have ry := HRy.out.c2
    clear hry hgy
    have x0 := HXy.out.c0
    have x1 := HXy.out.c1
    have x2 := HXy.out.c2
    have y0 := HYy.out.c0
    have y1 := HYy.out.c1
    have y2 := HYy.out.c2
    have HNZ := Lib.hid (HNy.out.alloc (.cells #[.int .u8 a, .int .u8 b, .slice A k2 c2, .int .u8 0, .int .u8 0, .slice none 0 0] 57))
    have n0 := HNZ.out.c0
    have n1 := HNZ.out.c1
    have n2 := HNZ.out.c2
    have f0 := HNZ.out.f 0
    have f1 := HNZ.out.f 1
    have f2 := HNZ.out.f 2
    go_wp2_with fail
    have HL := Lib.hid (HNZ.out.laid (x' := .int .u8 d) (y' := .int .u8 0) (z' := (.slice (some ⟨wy.heap.size + 1, 0, none⟩) 2 2)))
    clear n0 n1 n2 f0 f1 f2
    have n0 := HL.out.c0
    have n1 := HL.out.c1
    have n2 := HL.out.c2
    unfold laid3 at n0 n1 n2
    refine bodyPost_ret (v := .agg #[.int .u8 d, .int .u8 0, (.slice (some ⟨wy.heap.size + 1, 0, none⟩) 2 2)]) (by simp [results, Tryz.results51, go_sem, n0, n1, n2]) rfl ?_
    have HGL := gr_laid3 (HGy.out.trans (World.grownBy_alloc _ (.cells #[.int .u8 a, .int .u8 b, .slice A k2 c2, .int .u8 0, .int .u8 0, .slice none 0 0] 57) (some g))) (Nat.le_refl _) (.int .u8 d) (.int .u8 0) (.slice (some ⟨wy.heap.size + 1, 0, none⟩) 2 2)
    exact spost_bad HGL rfl HNO.out hq4 ((HRy.out.alloc _).laid (by omega) _ _ _)

end Go.Proofs.YtboddoaekcchpaaGreat
