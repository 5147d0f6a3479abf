/- What the model's reader of terms does: node at a loop; and at whatever stands there. -/
import Derived.Test.YtboddoaekcchpaaGreatSTNodeP
namespace Go.Proofs.YtboddoaekcchpaaGreat
open Go.RowKit

set_option maxRecDepth 100000 in
set_option maxHeartbeats 8000000 in
theorem snode_loop91 (g f p : Nat) (s : ByteArray) (hs : s.size ≤ 1048576) (ih : ∀ (p : Nat) (w : World), p ≤ s.size → s.size < p + f → SR w g s p false → Calls Tryz.prog 51 #[.pointer (some ⟨g, 0, none⟩)] w (SPost s f p g w)) (hf : s.size < p + 1 + f)
    (w : World) (h : SR w g s p false) (hp : p < s.size) (hcc : ba s p = 91) :
    Calls Tryz.prog 51 #[.pointer (some ⟨g, 0, none⟩)] w (SPost s (f + 1) p g w) := by
  have HIH := Lib.hid ih
  clear ih
  have HR := Lib.hid h
  have hgw := h.lt
  have HR0 := Lib.hid (h.alloc (.cells #[.int .u8 0, .int .u8 0, .slice none 0 0] 57))
  have HN := Lib.hid (c3_new w (.int .u8 0) (.int .u8 0) (.slice none 0 0) 57)
  have HG0 := Lib.hid (World.grownBy_alloc w (.cells #[.int .u8 0, .int .u8 0, .slice none 0 0] 57) (some g))
  have HZ0 := Lib.hid (show (w.alloc (.cells #[.int .u8 0, .int .u8 0, .slice none 0 0] 57)).heap.size = w.heap.size + 1 by simp)
  clear h
  go_enter Tryz.func51, Tryz.ntmps51
  go_wp2_with fail
  refine (snext_any g p s false _ HR0.out hs).mono ?_
  generalize w.alloc (.cells #[.int .u8 0, .int .u8 0, .slice none 0 0] 57) = w0 at HR0 HN HG0 HZ0 ⊢
  rintro e w1 ⟨hg1, c, rfl, hc0, hc1, hcase⟩
  have HN1 := Lib.hid (HN.out.grown hg1 (by simp; omega))
  have HG1 := Lib.hid (HG0.out.trans hg1)
  have hz1 : w.heap.size + 1 ≤ w1.heap.size := by have := HZ0.out; have := hg1.size; omega
  clear hg1 HR0 HN HG0
  rcases hcase with ⟨hlt, hcb, hr1⟩ | ⟨hge, _⟩
  case inr => omega
  obtain rfl : c = 91 := by omega
  have HCL := Lib.hid (show ba s p = 91 ∨ ba s p = 123 by omega)
  have HCC := Lib.hid hcc
  have HI := Lib.hid (fun w => in_any 91 48 57 false (by rfl) w)
  have HJ := Lib.hid (fun w => in_any 91 118 122 false (by rfl) w)
  have HK := Lib.hid (fun w => findP 91 (by omega) (by omega) false (by rfl) w)
  have HR1 := Lib.hid hr1
  clear hr1 hcb hcc
  go_wp2_with fail
  refine (HI.out w1).mono ?_
  rintro e w' ⟨rfl, rfl⟩
  go_wp2_with fail
  refine (HJ.out w').mono ?_
  rintro e w' ⟨rfl, rfl⟩
  go_wp2_with fail
  refine (HK.out w').mono ?_
  rintro e w' ⟨kk, rfl, hkk, rfl⟩
  go_wp2_with fail
  clear hkk
  refine (snext_any g (p + 1) s false w' HR1.out hs).mono ?_
  rintro e w4 ⟨hg4, name, rfl, hd0, hd1, hcase4⟩
  have HN4 := Lib.hid (HN1.out.grown hg4 (by simp; omega))
  have HG4 := Lib.hid (HG1.out.trans hg4)
  have hz4 : w'.heap.size ≤ w4.heap.size := hg4.size
  clear hg4 HN1 HG1 HR1
  rcases hcase4 with ⟨hpl, hdb, hr4⟩ | ⟨hpl, hdb, rfl, hr4⟩
  · have HR4 := Lib.hid hr4
    have rc := hr4.c2
    have rf := hr4.f 2
    have HNM := Lib.hid hdb.symm
    clear hr4
    cases hL : isL name
    · have HLL := Lib.hid (fun w => in_any name 118 122 false hL w)
      have HNO := Lib.hid (show tm s (f + 1) p = none from tm_loop_n0 HCL.out (by rw [← hdb, hL]; simp))
      clear hL hdb
      go_wp2_with fail
      refine (HLL.out w4).mono ?_
      rintro e w' ⟨rfl, rfl⟩
      go_wp2_with fail
      clear rc rf
      have HNu := Lib.hid (show C3 (w'.setCell ⟨g, 2, none⟩ (.bool true)) w.heap.size (.int .u8 0) (.int .u8 0) (.slice none 0 0) 57 from (Below.heap_setCell _ _ _ _ (by show w.heap.size ≠ g; omega)).trans HN4.out)
      have HGu := Lib.hid (HG4.out.trans (gr_set w' g 2 (.bool true)))
      have HRu := Lib.hid (HR4.out.set2 true)
      have hzu : w'.heap.size ≤ (w'.setCell ⟨g, 2, none⟩ (.bool true)).heap.size := by simp
      generalize w'.setCell ⟨g, 2, none⟩ (.bool true) = u at HNu HGu HRu hzu ⊢
      refine (sis_any g (p + 1 + 1) s 58 true u HRu.out (by omega) hpl hs).mono ?_
      rintro e wd ⟨rfl, hgd, hcased⟩
      have HNwd := Lib.hid (HNu.out.grown hgd (by simp; omega))
      have HGwd := Lib.hid (HGu.out.trans hgd)
      have hzd : u.heap.size ≤ wd.heap.size := hgd.size
      rcases hcased with ⟨hh, _⟩ | ⟨_, qd, hqd, hrd⟩
      case inl => cases hh
      have HRwd := Lib.hid hrd
      clear hrd hgd
      go_wp2_with fail
      refine (spart_bad g qd s wd HRwd.out).mono ?_
      rintro e wa ⟨rfl, hra, hga⟩
      have HXa := Lib.hid (c3_new wa (.int .u8 0) (.int .u8 0) (.slice none 0 0) 57)
      have HNa := Lib.hid ((HNwd.out.grown hga (by simp; omega)).alloc (.cells #[.int .u8 0, .int .u8 0, .slice none 0 0] 57))
      have HGa := Lib.hid ((HGwd.out.trans hga).trans (World.grownBy_alloc wa (.cells #[.int .u8 0, .int .u8 0, .slice none 0 0] 57) (some g)))
      have HRa := Lib.hid (hra.alloc (.cells #[.int .u8 0, .int .u8 0, .slice none 0 0] 57))
      have hza : wd.heap.size ≤ wa.heap.size := hga.size
      have hzza : wa.heap.size < (wa.alloc (.cells #[.int .u8 0, .int .u8 0, .slice none 0 0] 57)).heap.size := by simp
      clear hra hga
      go_wp2_with fail
      generalize wa.alloc (.cells #[.int .u8 0, .int .u8 0, .slice none 0 0] 57) = wb at HXa HNa HGa HRa hzza ⊢
      refine (sis_any g qd s 62 true wb HRa.out (by omega) hqd hs).mono ?_
      rintro e wc ⟨rfl, hgc, hcasec⟩
      have HXc := Lib.hid (HXa.out.grown hgc (by simp; omega))
      have HNc := Lib.hid (HNa.out.grown hgc (by simp; omega))
      have HGc := Lib.hid (HGa.out.trans hgc)
      have hzc : wb.heap.size ≤ wc.heap.size := hgc.size
      rcases hcasec with ⟨hh, _⟩ | ⟨_, qc, hqc, hrc⟩
      case inl => cases hh
      have HRwc := Lib.hid hrc
      have HNwc := HNc
      have HGwc := HGc
      clear hrc hgc HXa HNa HGa HRa
      go_wp2_with fail
      refine (spart_bad g qc s wc HRwc.out).mono ?_
      rintro e wy ⟨rfl, hry, hgy⟩
      have HXy := Lib.hid ((HXc.out.grown hgy (by simp; omega)).alloc (.cells #[.int .u8 0, .int .u8 0, .slice none 0 0] 57))
      have HYy := Lib.hid (c3_new wy (.int .u8 0) (.int .u8 0) (.slice none 0 0) 57)
      have HNy := Lib.hid ((HNwc.out.grown hgy (by simp; omega)).alloc (.cells #[.int .u8 0, .int .u8 0, .slice none 0 0] 57))
      have HGy := Lib.hid ((HGwc.out.trans hgy).trans (World.grownBy_alloc wy (.cells #[.int .u8 0, .int .u8 0, .slice none 0 0] 57) (some g)))
      have HRy := Lib.hid (hry.alloc (.cells #[.int .u8 0, .int .u8 0, .slice none 0 0] 57))
      have ry := HRy.out.c2
      clear hry hgy
      have x0 := HXy.out.c0
      have x1 := HXy.out.c1
      have x2 := HXy.out.c2
      have y0 := HYy.out.c0
      have y1 := HYy.out.c1
      have y2 := HYy.out.c2
      have HNZ := Lib.hid (HNy.out.alloc (.cells #[.int .u8 0, .int .u8 0, .slice none 0 0, .int .u8 0, .int .u8 0, .slice none 0 0] 57))
      have n0 := HNZ.out.c0
      have n1 := HNZ.out.c1
      have n2 := HNZ.out.c2
      have f0 := HNZ.out.f 0
      have f1 := HNZ.out.f 1
      have f2 := HNZ.out.f 2
      go_wp2_with fail
      have HL := Lib.hid (HNZ.out.laid (x' := .int .u8 91) (y' := .int .u8 name) (z' := (.slice (some ⟨wy.heap.size + 1, 0, none⟩) 2 2)))
      clear n0 n1 n2 f0 f1 f2
      have n0 := HL.out.c0
      have n1 := HL.out.c1
      have n2 := HL.out.c2
      unfold laid3 at n0 n1 n2
      refine bodyPost_ret (v := .agg #[.int .u8 91, .int .u8 name, (.slice (some ⟨wy.heap.size + 1, 0, none⟩) 2 2)]) (by simp [results, Tryz.results51, go_sem, n0, n1, n2]) rfl ?_
      have HGL := gr_laid3 (HGy.out.trans (World.grownBy_alloc _ (.cells #[.int .u8 0, .int .u8 0, .slice none 0 0, .int .u8 0, .int .u8 0, .slice none 0 0] 57) (some g))) (Nat.le_refl _) (.int .u8 91) (.int .u8 name) (.slice (some ⟨wy.heap.size + 1, 0, none⟩) 2 2)
      exact spost_bad HGL rfl HNO.out hqc ((HRy.out.alloc _).laid (by omega) _ _ _)
  
    · have HLL := Lib.hid (fun w => in_any name 118 122 true hL w)
      have HLV := Lib.hid (show isL (ba s (p + 1)) = true by rw [← hdb]; exact hL)
      clear hL hdb
      go_wp2_with fail
      refine (HLL.out w4).mono ?_
      rintro e w' ⟨rfl, rfl⟩
      go_wp2_with fail
      clear rc rf
      have HNu := Lib.hid (show C3 (w'.setCell ⟨g, 2, none⟩ (.bool false)) w.heap.size (.int .u8 0) (.int .u8 0) (.slice none 0 0) 57 from (Below.heap_setCell _ _ _ _ (by show w.heap.size ≠ g; omega)).trans HN4.out)
      have HGu := Lib.hid (HG4.out.trans (gr_set w' g 2 (.bool false)))
      have HRu := Lib.hid (HR4.out.set2 false)
      have hzu : w'.heap.size ≤ (w'.setCell ⟨g, 2, none⟩ (.bool false)).heap.size := by simp
      generalize w'.setCell ⟨g, 2, none⟩ (.bool false) = u at HNu HGu HRu hzu ⊢
      refine (sis_any g (p + 1 + 1) s 58 false u HRu.out (by omega) hpl hs).mono ?_
      rintro e u2 ⟨rfl, hgu, hcaseu⟩
      have HNu2 := Lib.hid (HNu.out.grown hgu (by simp; omega))
      have HGu2 := Lib.hid (HGu.out.trans hgu)
      have hzu2 : u.heap.size ≤ u2.heap.size := hgu.size
      rcases hcaseu with ⟨_, h58, hru⟩ | ⟨h58, qd, hqd, hru⟩
      · have H58 := Lib.hid h58
        have HRu2 := Lib.hid hru
        have hp3 : p + 1 + 1 < s.size := ba_lt (by omega)
        clear hru hgu h58
        go_wp2_with fail
        refine (spart_good g f (p + 1 + 1 + 1) s u2 HRu2.out (fun w h => HIH.out (p + 1 + 1 + 1) w (by omega) (by omega) h)).mono ?_
        rintro e w2 ⟨hg2, a, b, A, k2, c2, rfl, hcase2⟩
        have HX2 := Lib.hid (c3_new w2 (.int .u8 a) (.int .u8 b) (.slice A k2 c2) 57)
        have HN2 := Lib.hid ((HNu2.out.grown hg2 (by simp; omega)).alloc (.cells #[.int .u8 a, .int .u8 b, .slice A k2 c2] 57))
        have HG2 := Lib.hid ((HGu2.out.trans hg2).trans (World.grownBy_alloc w2 (.cells #[.int .u8 a, .int .u8 b, .slice A k2 c2] 57) (some g)))
        have HC2 := Lib.hid hcase2
        have hz2 : u2.heap.size ≤ w2.heap.size := hg2.size
        have hzb : w2.heap.size < (w2.alloc (.cells #[.int .u8 a, .int .u8 b, .slice A k2 c2] 57)).heap.size := by simp
        have HKP := Lib.hid (fun (k : Nat) (hk : k < w2.heap.size) => Below.heap_alloc w2 (.cells #[.int .u8 a, .int .u8 b, .slice A k2 c2] 57) k hk)
        clear hg2 hcase2
        go_wp2_with fail
        generalize w2.alloc (.cells #[.int .u8 a, .int .u8 b, .slice A k2 c2] 57) = w3 at HX2 HN2 HG2 hzb HKP ⊢
        rcases HC2.out with ⟨x, q2, hx, hrx, hnx⟩ | ⟨hx, q2, hq2, hrx⟩
        · have HMX := Lib.hid hx
          have gx := tm_ge s f _ _ _ hx
          have HSX3 := Lib.hid ((hnx.wide (S' := fun b => w.heap.size + 1 ≤ b) (fun b hb => by omega)).keep (fun k _ hk => HKP.out k hk) (fun _ h _ => h) _ _)
          have HR3 := Lib.hid (show SR w3 g s q2 false from (HKP.out g (by omega)).trans hrx)
          clear hx hrx hnx HC2 HKP
          refine (sis_any g q2 s 62 false w3 HR3.out (by omega) gx.2.1 hs).mono ?_
          rintro e v ⟨rfl, hg4, hcase4⟩
          have HXv := Lib.hid (HX2.out.grown hg4 (by simp; omega))
          have HNv := Lib.hid (HN2.out.grown hg4 (by simp; omega))
          have HGv := Lib.hid (HG2.out.trans hg4)
          have HSXv := Lib.hid (HSX3.out.more hg4 (by show ¬ (w.heap.size + 1 ≤ g); omega))
          have hz4 : w3.heap.size ≤ v.heap.size := hg4.size
          clear hg4 HX2 HN2 HG2 HSX3 HR3
          rcases hcase4 with ⟨_, h62, hr4⟩ | ⟨h62, q4, hq4, hr4⟩
          · have H62 := Lib.hid h62
            have HRv := Lib.hid hr4
            have hq2' : q2 < s.size := ba_lt (by omega)
            clear hr4 h62
            go_wp2_with fail
            refine (spart_good g f (q2 + 1) s v HRv.out (fun w h => HIH.out (q2 + 1) w (by omega) (by omega) h)).mono ?_
            rintro e w5 ⟨hg5, a5, b5, A5, k5, c5, rfl, hcase5⟩
            have hz5 : v.heap.size ≤ w5.heap.size := hg5.size
            have HX5 := Lib.hid ((HXv.out.grown hg5 (by simp; omega)).alloc (.cells #[.int .u8 a5, .int .u8 b5, .slice A5 k5 c5] 57))
            have HY5 := Lib.hid (c3_new w5 (.int .u8 a5) (.int .u8 b5) (.slice A5 k5 c5) 57)
            have HN5 := Lib.hid ((HNv.out.grown hg5 (by simp; omega)).alloc (.cells #[.int .u8 a5, .int .u8 b5, .slice A5 k5 c5] 57))
            have HG5 := Lib.hid ((HGv.out.trans hg5).trans (World.grownBy_alloc w5 (.cells #[.int .u8 a5, .int .u8 b5, .slice A5 k5 c5] 57) (some g)))
            have HSX5 := Lib.hid ((HSXv.out.more hg5 (by show ¬ (w.heap.size + 1 ≤ g); omega)).keep (fun k _ hk => Below.heap_alloc w5 (.cells #[.int .u8 a5, .int .u8 b5, .slice A5 k5 c5] 57) k hk) (fun _ h _ => h) _ _)
            clear hg5
            rcases hcase5 with ⟨y, q5, hy, hr5, hsy⟩ | ⟨hy, q5, hq5, hr5⟩
            · have g5 := tm_ge s f _ _ _ hy
              have HMY := Lib.hid hy
              have HR5 := Lib.hid (hr5.alloc (.cells #[.int .u8 a5, .int .u8 b5, .slice A5 k5 c5] 57))
              have HSY5 := Lib.hid ((hsy.wide (S' := fun b => w.heap.size + 1 ≤ b) (fun b hb => by omega)).keep (fun k _ hk => Below.heap_alloc w5 (.cells #[.int .u8 a5, .int .u8 b5, .slice A5 k5 c5] 57) k hk) (fun _ h _ => h) _ _)
              have hzz : w5.heap.size < (w5.alloc (.cells #[.int .u8 a5, .int .u8 b5, .slice A5 k5 c5] 57)).heap.size := by simp
              have ry := HR5.out.c2
              clear hy hr5 hsy
              go_wp2_with fail
              clear ry
              generalize w5.alloc (.cells #[.int .u8 a5, .int .u8 b5, .slice A5 k5 c5] 57) = w6 at HX5 HY5 HN5 HG5 HR5 HSX5 HSY5 hzz ⊢
              refine (sis_any g q5 s 93 false w6 HR5.out (by omega) g5.2.1 hs).mono ?_
              rintro e w7 ⟨rfl, hg7, hcase7⟩
              have HX7 := Lib.hid (HX5.out.grown hg7 (by simp; omega))
              have HY7 := Lib.hid (HY5.out.grown hg7 (by simp; omega))
              have HN7 := Lib.hid (HN5.out.grown hg7 (by simp; omega))
              have HG7 := Lib.hid (HG5.out.trans hg7)
              have HSX7 := Lib.hid (HSX5.out.more hg7 (by show ¬ (w.heap.size + 1 ≤ g); omega))
              have HSY7 := Lib.hid (HSY5.out.more hg7 (by show ¬ (w.heap.size + 1 ≤ g); omega))
              have hz7 : w6.heap.size ≤ w7.heap.size := hg7.size
              have HC7 := Lib.hid hcase7
              clear hg7 hcase7
              have x0 := HX7.out.c0
              have x1 := HX7.out.c1
              have x2 := HX7.out.c2
              have y0 := HY7.out.c0
              have y1 := HY7.out.c1
              have y2 := HY7.out.c2
              have HNZ := Lib.hid (HN7.out.alloc (.cells #[.int .u8 a, .int .u8 b, .slice A k2 c2, .int .u8 a5, .int .u8 b5, .slice A5 k5 c5] 57))
              have n0 := HNZ.out.c0
              have n1 := HNZ.out.c1
              have n2 := HNZ.out.c2
              have f0 := HNZ.out.f 0
              have f1 := HNZ.out.f 1
              have f2 := HNZ.out.f 2
              go_wp2_with fail
              have HL := Lib.hid (HNZ.out.laid (x' := .int .u8 91) (y' := .int .u8 name) (z' := (.slice (some ⟨w7.heap.size, 0, none⟩) 2 2)))
              clear n0 n1 n2 f0 f1 f2
              have n0 := HL.out.c0
              have n1 := HL.out.c1
              have n2 := HL.out.c2
              unfold laid3 at n0 n1 n2
              refine bodyPost_ret (v := .agg #[.int .u8 91, .int .u8 name, (.slice (some ⟨w7.heap.size, 0, none⟩) 2 2)]) (by simp [results, Tryz.results51, go_sem, n0, n1, n2]) rfl ?_
              have HGL := gr_laid3 (HG7.out.trans (World.grownBy_alloc w7 (.cells #[.int .u8 a, .int .u8 b, .slice A k2 c2, .int .u8 a5, .int .u8 b5, .slice A5 k5 c5] 57) (some g))) (Nat.le_refl _) (.int .u8 91) (.int .u8 name) (.slice (some ⟨w7.heap.size, 0, none⟩) 2 2)
              rcases HC7.out with ⟨_, hc41, hr7⟩ | ⟨hc41, q7, hq7, hr7⟩
              · refine spost_ok HGL rfl (tm_loop_s HCL.out HLV.out H58.out HMX.out H62.out HMY.out (by rw [HCC.out]; exact hc41)) ((hr7.alloc _).laid (by omega) _ _ _) ?_
                refine ⟨HCC.out.symm, HNM.out.symm, (a, b, .slice A k2 c2), (a5, b5, .slice A5 k5 c5), own_keep (row_new [(a, b, .slice A k2 c2), (a5, b5, .slice A5 k5 c5)] _ rfl rfl (by simp)) (fun k hk => laid3_heap _ _ _ _ _ _ (by simp [Value.ownBlock] at hk; omega)), fun k hk => by simp [Value.ownBlock] at hk; omega, ?_, ?_⟩
                · exact (SN.laid (HSX7.out.keep (fun k _ hk => Below.heap_alloc _ _ _ hk) (fun _ h _ => h) _ _) (by show ¬ (w.heap.size + 1 ≤ w.heap.size); omega) _ _ _).wide (fun b hb => by omega)
                · exact (SN.laid (HSY7.out.keep (fun k _ hk => Below.heap_alloc _ _ _ hk) (fun _ h _ => h) _ _) (by show ¬ (w.heap.size + 1 ≤ w.heap.size); omega) _ _ _).wide (fun b hb => by omega)
              · exact spost_bad HGL rfl (tm_loop_n4 HCL.out HMX.out HMY.out (fun hh => hc41 ⟨by first | rfl | trivial, by rw [hh, HCC.out]; rfl⟩)) hq7 ((hr7.alloc _).laid (by omega) _ _ _)
            · have HNO := Lib.hid (tm_loop_n3 HCL.out HMX.out hy)
              have HR5 := Lib.hid (hr5.alloc (.cells #[.int .u8 a5, .int .u8 b5, .slice A5 k5 c5] 57))
              have ry := HR5.out.c2
              clear hy hr5
              have x0 := HX5.out.c0
              have x1 := HX5.out.c1
              have x2 := HX5.out.c2
              have y0 := HY5.out.c0
              have y1 := HY5.out.c1
              have y2 := HY5.out.c2
              have HNZ := Lib.hid (HN5.out.alloc (.cells #[.int .u8 a, .int .u8 b, .slice A k2 c2, .int .u8 a5, .int .u8 b5, .slice A5 k5 c5] 57))
              have n0 := HNZ.out.c0
              have n1 := HNZ.out.c1
              have n2 := HNZ.out.c2
              have f0 := HNZ.out.f 0
              have f1 := HNZ.out.f 1
              have f2 := HNZ.out.f 2
              go_wp2_with fail
              have HL := Lib.hid (HNZ.out.laid (x' := .int .u8 91) (y' := .int .u8 name) (z' := (.slice (some ⟨w5.heap.size + 1, 0, none⟩) 2 2)))
              clear n0 n1 n2 f0 f1 f2
              have n0 := HL.out.c0
              have n1 := HL.out.c1
              have n2 := HL.out.c2
              unfold laid3 at n0 n1 n2
              refine bodyPost_ret (v := .agg #[.int .u8 91, .int .u8 name, (.slice (some ⟨w5.heap.size + 1, 0, none⟩) 2 2)]) (by simp [results, Tryz.results51, go_sem, n0, n1, n2]) rfl ?_
              have HGL := gr_laid3 (HG5.out.trans (World.grownBy_alloc _ (.cells #[.int .u8 a, .int .u8 b, .slice A k2 c2, .int .u8 a5, .int .u8 b5, .slice A5 k5 c5] 57) (some g))) (Nat.le_refl _) (.int .u8 91) (.int .u8 name) (.slice (some ⟨w5.heap.size + 1, 0, none⟩) 2 2)
              exact spost_bad HGL rfl HNO.out hq5 ((HR5.out.alloc _).laid (by omega) _ _ _)
      
          · have HNO := Lib.hid (tm_loop_n2 HCL.out HMX.out (fun hh => h62 ⟨by first | rfl | trivial, hh⟩))
            have HRv := Lib.hid hr4
            clear hr4 h62
            go_wp2_with fail
            refine (spart_bad g q4 s v HRv.out).mono ?_
            rintro e wy ⟨rfl, hry, hgy⟩
            have HXy := Lib.hid ((HXv.out.grown hgy (by simp; omega)).alloc (.cells #[.int .u8 0, .int .u8 0, .slice none 0 0] 57))
            have HYy := Lib.hid (c3_new wy (.int .u8 0) (.int .u8 0) (.slice none 0 0) 57)
            have HNy := Lib.hid ((HNv.out.grown hgy (by simp; omega)).alloc (.cells #[.int .u8 0, .int .u8 0, .slice none 0 0] 57))
            have HGy := Lib.hid ((HGv.out.trans hgy).trans (World.grownBy_alloc wy (.cells #[.int .u8 0, .int .u8 0, .slice none 0 0] 57) (some g)))
            have HRy := Lib.hid (hry.alloc (.cells #[.int .u8 0, .int .u8 0, .slice none 0 0] 57))
            have ry := HRy.out.c2
            clear hry hgy
            have x0 := HXy.out.c0
            have x1 := HXy.out.c1
            have x2 := HXy.out.c2
            have y0 := HYy.out.c0
            have y1 := HYy.out.c1
            have y2 := HYy.out.c2
            have HNZ := Lib.hid (HNy.out.alloc (.cells #[.int .u8 a, .int .u8 b, .slice A k2 c2, .int .u8 0, .int .u8 0, .slice none 0 0] 57))
            have n0 := HNZ.out.c0
            have n1 := HNZ.out.c1
            have n2 := HNZ.out.c2
            have f0 := HNZ.out.f 0
            have f1 := HNZ.out.f 1
            have f2 := HNZ.out.f 2
            go_wp2_with fail
            have HL := Lib.hid (HNZ.out.laid (x' := .int .u8 91) (y' := .int .u8 name) (z' := (.slice (some ⟨wy.heap.size + 1, 0, none⟩) 2 2)))
            clear n0 n1 n2 f0 f1 f2
            have n0 := HL.out.c0
            have n1 := HL.out.c1
            have n2 := HL.out.c2
            unfold laid3 at n0 n1 n2
            refine bodyPost_ret (v := .agg #[.int .u8 91, .int .u8 name, (.slice (some ⟨wy.heap.size + 1, 0, none⟩) 2 2)]) (by simp [results, Tryz.results51, go_sem, n0, n1, n2]) rfl ?_
            have HGL := gr_laid3 (HGy.out.trans (World.grownBy_alloc _ (.cells #[.int .u8 a, .int .u8 b, .slice A k2 c2, .int .u8 0, .int .u8 0, .slice none 0 0] 57) (some g))) (Nat.le_refl _) (.int .u8 91) (.int .u8 name) (.slice (some ⟨wy.heap.size + 1, 0, none⟩) 2 2)
            exact spost_bad HGL rfl HNO.out hq4 ((HRy.out.alloc _).laid (by omega) _ _ _)
      
        · have HNO := Lib.hid (tm_loop_n1 HCL.out hx)
          have HR3 := Lib.hid (show SR w3 g s q2 true from (HKP.out g (by omega)).trans hrx)
          clear hx hrx HC2 HKP
          refine (sis_any g q2 s 62 true w3 HR3.out (by omega) hq2 hs).mono ?_
          rintro e v ⟨rfl, hg4, hcase4⟩
          have HXv := Lib.hid (HX2.out.grown hg4 (by simp; omega))
          have HNv := Lib.hid (HN2.out.grown hg4 (by simp; omega))
          have HGv := Lib.hid (HG2.out.trans hg4)
          have hz4 : w3.heap.size ≤ v.heap.size := hg4.size
          clear hg4 HX2 HN2 HG2 HR3
          rcases hcase4 with ⟨hh, _⟩ | ⟨_, q4, hq4, hr4⟩
          case inl => cases hh
          have HRv := Lib.hid hr4
          clear hr4
          go_wp2_with fail
          refine (spart_bad g q4 s v HRv.out).mono ?_
          rintro e wy ⟨rfl, hry, hgy⟩
          have HXy := Lib.hid ((HXv.out.grown hgy (by simp; omega)).alloc (.cells #[.int .u8 0, .int .u8 0, .slice none 0 0] 57))
          have HYy := Lib.hid (c3_new wy (.int .u8 0) (.int .u8 0) (.slice none 0 0) 57)
          have HNy := Lib.hid ((HNv.out.grown hgy (by simp; omega)).alloc (.cells #[.int .u8 0, .int .u8 0, .slice none 0 0] 57))
          have HGy := Lib.hid ((HGv.out.trans hgy).trans (World.grownBy_alloc wy (.cells #[.int .u8 0, .int .u8 0, .slice none 0 0] 57) (some g)))
          have HRy := Lib.hid (hry.alloc (.cells #[.int .u8 0, .int .u8 0, .slice none 0 0] 57))
          have ry := HRy.out.c2
          clear hry hgy
          have x0 := HXy.out.c0
          have x1 := HXy.out.c1
          have x2 := HXy.out.c2
          have y0 := HYy.out.c0
          have y1 := HYy.out.c1
          have y2 := HYy.out.c2
          have HNZ := Lib.hid (HNy.out.alloc (.cells #[.int .u8 a, .int .u8 b, .slice A k2 c2, .int .u8 0, .int .u8 0, .slice none 0 0] 57))
          have n0 := HNZ.out.c0
          have n1 := HNZ.out.c1
          have n2 := HNZ.out.c2
          have f0 := HNZ.out.f 0
          have f1 := HNZ.out.f 1
          have f2 := HNZ.out.f 2
          go_wp2_with fail
          have HL := Lib.hid (HNZ.out.laid (x' := .int .u8 91) (y' := .int .u8 name) (z' := (.slice (some ⟨wy.heap.size + 1, 0, none⟩) 2 2)))
          clear n0 n1 n2 f0 f1 f2
          have n0 := HL.out.c0
          have n1 := HL.out.c1
          have n2 := HL.out.c2
          unfold laid3 at n0 n1 n2
          refine bodyPost_ret (v := .agg #[.int .u8 91, .int .u8 name, (.slice (some ⟨wy.heap.size + 1, 0, none⟩) 2 2)]) (by simp [results, Tryz.results51, go_sem, n0, n1, n2]) rfl ?_
          have HGL := gr_laid3 (HGy.out.trans (World.grownBy_alloc _ (.cells #[.int .u8 a, .int .u8 b, .slice A k2 c2, .int .u8 0, .int .u8 0, .slice none 0 0] 57) (some g))) (Nat.le_refl _) (.int .u8 91) (.int .u8 name) (.slice (some ⟨wy.heap.size + 1, 0, none⟩) 2 2)
          exact spost_bad HGL rfl HNO.out hq4 ((HRy.out.alloc _).laid (by omega) _ _ _)
      
      · have HNO := Lib.hid (show tm s (f + 1) p = none from tm_loop_n0 HCL.out (fun hh => h58 ⟨by first | rfl | trivial, hh.2⟩))
        have HRu2 := Lib.hid hru
        clear hru hgu h58
        go_wp2_with fail
        refine (spart_bad g qd s u2 HRu2.out).mono ?_
        rintro e wa ⟨rfl, hra, hga⟩
        have HXa := Lib.hid (c3_new wa (.int .u8 0) (.int .u8 0) (.slice none 0 0) 57)
        have HNa := Lib.hid ((HNu2.out.grown hga (by simp; omega)).alloc (.cells #[.int .u8 0, .int .u8 0, .slice none 0 0] 57))
        have HGa := Lib.hid ((HGu2.out.trans hga).trans (World.grownBy_alloc wa (.cells #[.int .u8 0, .int .u8 0, .slice none 0 0] 57) (some g)))
        have HRa := Lib.hid (hra.alloc (.cells #[.int .u8 0, .int .u8 0, .slice none 0 0] 57))
        have hza : u2.heap.size ≤ wa.heap.size := hga.size
        have hzza : wa.heap.size < (wa.alloc (.cells #[.int .u8 0, .int .u8 0, .slice none 0 0] 57)).heap.size := by simp
        clear hra hga
        go_wp2_with fail
        generalize wa.alloc (.cells #[.int .u8 0, .int .u8 0, .slice none 0 0] 57) = wb at HXa HNa HGa HRa hzza ⊢
        refine (sis_any g qd s 62 true wb HRa.out (by omega) hqd hs).mono ?_
        rintro e wc ⟨rfl, hgc, hcasec⟩
        have HXc := Lib.hid (HXa.out.grown hgc (by simp; omega))
        have HNc := Lib.hid (HNa.out.grown hgc (by simp; omega))
        have HGc := Lib.hid (HGa.out.trans hgc)
        have hzc : wb.heap.size ≤ wc.heap.size := hgc.size
        rcases hcasec with ⟨hh, _⟩ | ⟨_, qc, hqc, hrc⟩
        case inl => cases hh
        have HRwc := Lib.hid hrc
        have HNwc := HNc
        have HGwc := HGc
        clear hrc hgc HXa HNa HGa HRa
        go_wp2_with fail
        refine (spart_bad g qc s wc HRwc.out).mono ?_
        rintro e wy ⟨rfl, hry, hgy⟩
        have HXy := Lib.hid ((HXc.out.grown hgy (by simp; omega)).alloc (.cells #[.int .u8 0, .int .u8 0, .slice none 0 0] 57))
        have HYy := Lib.hid (c3_new wy (.int .u8 0) (.int .u8 0) (.slice none 0 0) 57)
        have HNy := Lib.hid ((HNwc.out.grown hgy (by simp; omega)).alloc (.cells #[.int .u8 0, .int .u8 0, .slice none 0 0] 57))
        have HGy := Lib.hid ((HGwc.out.trans hgy).trans (World.grownBy_alloc wy (.cells #[.int .u8 0, .int .u8 0, .slice none 0 0] 57) (some g)))
        have HRy := Lib.hid (hry.alloc (.cells #[.int .u8 0, .int .u8 0, .slice none 0 0] 57))
        have ry := HRy.out.c2
        clear hry hgy
        have x0 := HXy.out.c0
        have x1 := HXy.out.c1
        have x2 := HXy.out.c2
        have y0 := HYy.out.c0
        have y1 := HYy.out.c1
        have y2 := HYy.out.c2
        have HNZ := Lib.hid (HNy.out.alloc (.cells #[.int .u8 0, .int .u8 0, .slice none 0 0, .int .u8 0, .int .u8 0, .slice none 0 0] 57))
        have n0 := HNZ.out.c0
        have n1 := HNZ.out.c1
        have n2 := HNZ.out.c2
        have f0 := HNZ.out.f 0
        have f1 := HNZ.out.f 1
        have f2 := HNZ.out.f 2
        go_wp2_with fail
        have HL := Lib.hid (HNZ.out.laid (x' := .int .u8 91) (y' := .int .u8 name) (z' := (.slice (some ⟨wy.heap.size + 1, 0, none⟩) 2 2)))
        clear n0 n1 n2 f0 f1 f2
        have n0 := HL.out.c0
        have n1 := HL.out.c1
        have n2 := HL.out.c2
        unfold laid3 at n0 n1 n2
        refine bodyPost_ret (v := .agg #[.int .u8 91, .int .u8 name, (.slice (some ⟨wy.heap.size + 1, 0, none⟩) 2 2)]) (by simp [results, Tryz.results51, go_sem, n0, n1, n2]) rfl ?_
        have HGL := gr_laid3 (HGy.out.trans (World.grownBy_alloc _ (.cells #[.int .u8 0, .int .u8 0, .slice none 0 0, .int .u8 0, .int .u8 0, .slice none 0 0] 57) (some g))) (Nat.le_refl _) (.int .u8 91) (.int .u8 name) (.slice (some ⟨wy.heap.size + 1, 0, none⟩) 2 2)
        exact spost_bad HGL rfl HNO.out hqc ((HRy.out.alloc _).laid (by omega) _ _ _)
  
  · have HR4 := Lib.hid hr4
    have rc := hr4.c2
    have rf := hr4.f 2
    have HNO := Lib.hid (show tm s (f + 1) p = none from tm_loop_n0 HCL.out (by rw [hdb]; rintro ⟨h1, _⟩; cases h1))
    clear hr4 hdb
    go_wp2_with fail
    clear rc rf
    have HNu := Lib.hid (show C3 (w4.setCell ⟨g, 2, none⟩ (.bool true)) w.heap.size (.int .u8 0) (.int .u8 0) (.slice none 0 0) 57 from (Below.heap_setCell _ _ _ _ (by show w.heap.size ≠ g; omega)).trans HN4.out)
    have HGu := Lib.hid (HG4.out.trans (gr_set w4 g 2 (.bool true)))
    have HRu := Lib.hid (HR4.out.set2 true)
    have hzu : w4.heap.size ≤ (w4.setCell ⟨g, 2, none⟩ (.bool true)).heap.size := by simp
    generalize w4.setCell ⟨g, 2, none⟩ (.bool true) = u at HNu HGu HRu hzu ⊢
    refine (sis_any g (p + 1) s 58 true u HRu.out (by omega) (show p + 1 ≤ s.size by omega) hs).mono ?_
    rintro e wd ⟨rfl, hgd, hcased⟩
    have HNwd := Lib.hid (HNu.out.grown hgd (by simp; omega))
    have HGwd := Lib.hid (HGu.out.trans hgd)
    have hzd : u.heap.size ≤ wd.heap.size := hgd.size
    rcases hcased with ⟨hh, _⟩ | ⟨_, qd, hqd, hrd⟩
    case inl => cases hh
    have HRwd := Lib.hid hrd
    clear hrd hgd
    go_wp2_with fail
    refine (spart_bad g qd s wd HRwd.out).mono ?_
    rintro e wa ⟨rfl, hra, hga⟩
    have HXa := Lib.hid (c3_new wa (.int .u8 0) (.int .u8 0) (.slice none 0 0) 57)
    have HNa := Lib.hid ((HNwd.out.grown hga (by simp; omega)).alloc (.cells #[.int .u8 0, .int .u8 0, .slice none 0 0] 57))
    have HGa := Lib.hid ((HGwd.out.trans hga).trans (World.grownBy_alloc wa (.cells #[.int .u8 0, .int .u8 0, .slice none 0 0] 57) (some g)))
    have HRa := Lib.hid (hra.alloc (.cells #[.int .u8 0, .int .u8 0, .slice none 0 0] 57))
    have hza : wd.heap.size ≤ wa.heap.size := hga.size
    have hzza : wa.heap.size < (wa.alloc (.cells #[.int .u8 0, .int .u8 0, .slice none 0 0] 57)).heap.size := by simp
    clear hra hga
    go_wp2_with fail
    generalize wa.alloc (.cells #[.int .u8 0, .int .u8 0, .slice none 0 0] 57) = wb at HXa HNa HGa HRa hzza ⊢
    refine (sis_any g qd s 62 true wb HRa.out (by omega) hqd hs).mono ?_
    rintro e wc ⟨rfl, hgc, hcasec⟩
    have HXc := Lib.hid (HXa.out.grown hgc (by simp; omega))
    have HNc := Lib.hid (HNa.out.grown hgc (by simp; omega))
    have HGc := Lib.hid (HGa.out.trans hgc)
    have hzc : wb.heap.size ≤ wc.heap.size := hgc.size
    rcases hcasec with ⟨hh, _⟩ | ⟨_, qc, hqc, hrc⟩
    case inl => cases hh
    have HRwc := Lib.hid hrc
    have HNwc := HNc
    have HGwc := HGc
    clear hrc hgc HXa HNa HGa HRa
    go_wp2_with fail
    refine (spart_bad g qc s wc HRwc.out).mono ?_
    rintro e wy ⟨rfl, hry, hgy⟩
    have HXy := Lib.hid ((HXc.out.grown hgy (by simp; omega)).alloc (.cells #[.int .u8 0, .int .u8 0, .slice none 0 0] 57))
    have HYy := Lib.hid (c3_new wy (.int .u8 0) (.int .u8 0) (.slice none 0 0) 57)
    have HNy := Lib.hid ((HNwc.out.grown hgy (by simp; omega)).alloc (.cells #[.int .u8 0, .int .u8 0, .slice none 0 0] 57))
    have HGy := Lib.hid ((HGwc.out.trans hgy).trans (World.grownBy_alloc wy (.cells #[.int .u8 0, .int .u8 0, .slice none 0 0] 57) (some g)))
    have HRy := Lib.hid (hry.alloc (.cells #[.int .u8 0, .int .u8 0, .slice none 0 0] 57))
    have ry := HRy.out.c2
    clear hry hgy
    have x0 := HXy.out.c0
    have x1 := HXy.out.c1
    have x2 := HXy.out.c2
    have y0 := HYy.out.c0
    have y1 := HYy.out.c1
    have y2 := HYy.out.c2
    have HNZ := Lib.hid (HNy.out.alloc (.cells #[.int .u8 0, .int .u8 0, .slice none 0 0, .int .u8 0, .int .u8 0, .slice none 0 0] 57))
    have n0 := HNZ.out.c0
    have n1 := HNZ.out.c1
    have n2 := HNZ.out.c2
    have f0 := HNZ.out.f 0
    have f1 := HNZ.out.f 1
    have f2 := HNZ.out.f 2
    go_wp2_with fail
    have HL := Lib.hid (HNZ.out.laid (x' := .int .u8 91) (y' := .int .u8 0) (z' := (.slice (some ⟨wy.heap.size + 1, 0, none⟩) 2 2)))
    clear n0 n1 n2 f0 f1 f2
    have n0 := HL.out.c0
    have n1 := HL.out.c1
    have n2 := HL.out.c2
    unfold laid3 at n0 n1 n2
    refine bodyPost_ret (v := .agg #[.int .u8 91, .int .u8 0, (.slice (some ⟨wy.heap.size + 1, 0, none⟩) 2 2)]) (by simp [results, Tryz.results51, go_sem, n0, n1, n2]) rfl ?_
    have HGL := gr_laid3 (HGy.out.trans (World.grownBy_alloc _ (.cells #[.int .u8 0, .int .u8 0, .slice none 0 0, .int .u8 0, .int .u8 0, .slice none 0 0] 57) (some g))) (Nat.le_refl _) (.int .u8 91) (.int .u8 0) (.slice (some ⟨wy.heap.size + 1, 0, none⟩) 2 2)
    exact spost_bad HGL rfl HNO.out hqc ((HRy.out.alloc _).laid (by omega) _ _ _)

set_option maxRecDepth 100000 in
set_option maxHeartbeats 8000000 in
theorem snode_loop123 (g f p : Nat) (s : ByteArray) (hs : s.size ≤ 1048576) (ih : ∀ (p : Nat) (w : World), p ≤ s.size → s.size < p + f → SR w g s p false → Calls Tryz.prog 51 #[.pointer (some ⟨g, 0, none⟩)] w (SPost s f p g w)) (hf : s.size < p + 1 + f)
    (w : World) (h : SR w g s p false) (hp : p < s.size) (hcc : ba s p = 123) :
    Calls Tryz.prog 51 #[.pointer (some ⟨g, 0, none⟩)] w (SPost s (f + 1) p g w) := by
  have HIH := Lib.hid ih
  clear ih
  have HR := Lib.hid h
  have hgw := h.lt
  have HR0 := Lib.hid (h.alloc (.cells #[.int .u8 0, .int .u8 0, .slice none 0 0] 57))
  have HN := Lib.hid (c3_new w (.int .u8 0) (.int .u8 0) (.slice none 0 0) 57)
  have HG0 := Lib.hid (World.grownBy_alloc w (.cells #[.int .u8 0, .int .u8 0, .slice none 0 0] 57) (some g))
  have HZ0 := Lib.hid (show (w.alloc (.cells #[.int .u8 0, .int .u8 0, .slice none 0 0] 57)).heap.size = w.heap.size + 1 by simp)
  clear h
  go_enter Tryz.func51, Tryz.ntmps51
  go_wp2_with fail
  refine (snext_any g p s false _ HR0.out hs).mono ?_
  generalize w.alloc (.cells #[.int .u8 0, .int .u8 0, .slice none 0 0] 57) = w0 at HR0 HN HG0 HZ0 ⊢
  rintro e w1 ⟨hg1, c, rfl, hc0, hc1, hcase⟩
  have HN1 := Lib.hid (HN.out.grown hg1 (by simp; omega))
  have HG1 := Lib.hid (HG0.out.trans hg1)
  have hz1 : w.heap.size + 1 ≤ w1.heap.size := by have := HZ0.out; have := hg1.size; omega
  clear hg1 HR0 HN HG0
  rcases hcase with ⟨hlt, hcb, hr1⟩ | ⟨hge, _⟩
  case inr => omega
  obtain rfl : c = 123 := by omega
  have HCL := Lib.hid (show ba s p = 91 ∨ ba s p = 123 by omega)
  have HCC := Lib.hid hcc
  have HI := Lib.hid (fun w => in_any 123 48 57 false (by rfl) w)
  have HJ := Lib.hid (fun w => in_any 123 118 122 false (by rfl) w)
  have HK := Lib.hid (fun w => findP 123 (by omega) (by omega) false (by rfl) w)
  have HR1 := Lib.hid hr1
  clear hr1 hcb hcc
  go_wp2_with fail
  refine (HI.out w1).mono ?_
  rintro e w' ⟨rfl, rfl⟩
  go_wp2_with fail
  refine (HJ.out w').mono ?_
  rintro e w' ⟨rfl, rfl⟩
  go_wp2_with fail
  refine (HK.out w').mono ?_
  rintro e w' ⟨kk, rfl, hkk, rfl⟩
  go_wp2_with fail
  clear hkk
  refine (snext_any g (p + 1) s false w' HR1.out hs).mono ?_
  rintro e w4 ⟨hg4, name, rfl, hd0, hd1, hcase4⟩
  have HN4 := Lib.hid (HN1.out.grown hg4 (by simp; omega))
  have HG4 := Lib.hid (HG1.out.trans hg4)
  have hz4 : w'.heap.size ≤ w4.heap.size := hg4.size
  clear hg4 HN1 HG1 HR1
  rcases hcase4 with ⟨hpl, hdb, hr4⟩ | ⟨hpl, hdb, rfl, hr4⟩
  · have HR4 := Lib.hid hr4
    have rc := hr4.c2
    have rf := hr4.f 2
    have HNM := Lib.hid hdb.symm
    clear hr4
    cases hL : isL name
    · have HLL := Lib.hid (fun w => in_any name 118 122 false hL w)
      have HNO := Lib.hid (show tm s (f + 1) p = none from tm_loop_n0 HCL.out (by rw [← hdb, hL]; simp))
      clear hL hdb
      go_wp2_with fail
      refine (HLL.out w4).mono ?_
      rintro e w' ⟨rfl, rfl⟩
      go_wp2_with fail
      clear rc rf
      have HNu := Lib.hid (show C3 (w'.setCell ⟨g, 2, none⟩ (.bool true)) w.heap.size (.int .u8 0) (.int .u8 0) (.slice none 0 0) 57 from (Below.heap_setCell _ _ _ _ (by show w.heap.size ≠ g; omega)).trans HN4.out)
      have HGu := Lib.hid (HG4.out.trans (gr_set w' g 2 (.bool true)))
      have HRu := Lib.hid (HR4.out.set2 true)
      have hzu : w'.heap.size ≤ (w'.setCell ⟨g, 2, none⟩ (.bool true)).heap.size := by simp
      generalize w'.setCell ⟨g, 2, none⟩ (.bool true) = u at HNu HGu HRu hzu ⊢
      refine (sis_any g (p + 1 + 1) s 58 true u HRu.out (by omega) hpl hs).mono ?_
      rintro e wd ⟨rfl, hgd, hcased⟩
      have HNwd := Lib.hid (HNu.out.grown hgd (by simp; omega))
      have HGwd := Lib.hid (HGu.out.trans hgd)
      have hzd : u.heap.size ≤ wd.heap.size := hgd.size
      rcases hcased with ⟨hh, _⟩ | ⟨_, qd, hqd, hrd⟩
      case inl => cases hh
      have HRwd := Lib.hid hrd
      clear hrd hgd
      go_wp2_with fail
      refine (spart_bad g qd s wd HRwd.out).mono ?_
      rintro e wa ⟨rfl, hra, hga⟩
      have HXa := Lib.hid (c3_new wa (.int .u8 0) (.int .u8 0) (.slice none 0 0) 57)
      have HNa := Lib.hid ((HNwd.out.grown hga (by simp; omega)).alloc (.cells #[.int .u8 0, .int .u8 0, .slice none 0 0] 57))
      have HGa := Lib.hid ((HGwd.out.trans hga).trans (World.grownBy_alloc wa (.cells #[.int .u8 0, .int .u8 0, .slice none 0 0] 57) (some g)))
      have HRa := Lib.hid (hra.alloc (.cells #[.int .u8 0, .int .u8 0, .slice none 0 0] 57))
      have hza : wd.heap.size ≤ wa.heap.size := hga.size
      have hzza : wa.heap.size < (wa.alloc (.cells #[.int .u8 0, .int .u8 0, .slice none 0 0] 57)).heap.size := by simp
      clear hra hga
      go_wp2_with fail
      generalize wa.alloc (.cells #[.int .u8 0, .int .u8 0, .slice none 0 0] 57) = wb at HXa HNa HGa HRa hzza ⊢
      refine (sis_any g qd s 62 true wb HRa.out (by omega) hqd hs).mono ?_
      rintro e wc ⟨rfl, hgc, hcasec⟩
      have HXc := Lib.hid (HXa.out.grown hgc (by simp; omega))
      have HNc := Lib.hid (HNa.out.grown hgc (by simp; omega))
      have HGc := Lib.hid (HGa.out.trans hgc)
      have hzc : wb.heap.size ≤ wc.heap.size := hgc.size
      rcases hcasec with ⟨hh, _⟩ | ⟨_, qc, hqc, hrc⟩
      case inl => cases hh
      have HRwc := Lib.hid hrc
      have HNwc := HNc
      have HGwc := HGc
      clear hrc hgc HXa HNa HGa HRa
      go_wp2_with fail
      refine (spart_bad g qc s wc HRwc.out).mono ?_
      rintro e wy ⟨rfl, hry, hgy⟩
      have HXy := Lib.hid ((HXc.out.grown hgy (by simp; omega)).alloc (.cells #[.int .u8 0, .int .u8 0, .slice none 0 0] 57))
      have HYy := Lib.hid (c3_new wy (.int .u8 0) (.int .u8 0) (.slice none 0 0) 57)
      have HNy := Lib.hid ((HNwc.out.grown hgy (by simp; omega)).alloc (.cells #[.int .u8 0, .int .u8 0, .slice none 0 0] 57))
      have HGy := Lib.hid ((HGwc.out.trans hgy).trans (World.grownBy_alloc wy (.cells #[.int .u8 0, .int .u8 0, .slice none 0 0] 57) (some g)))
      have HRy := Lib.hid (hry.alloc (.cells #[.int .u8 0, .int .u8 0, .slice none 0 0] 57))
      have ry := HRy.out.c2
      clear hry hgy
      have x0 := HXy.out.c0
      have x1 := HXy.out.c1
      have x2 := HXy.out.c2
      have y0 := HYy.out.c0
      have y1 := HYy.out.c1
      have y2 := HYy.out.c2
      have HNZ := Lib.hid (HNy.out.alloc (.cells #[.int .u8 0, .int .u8 0, .slice none 0 0, .int .u8 0, .int .u8 0, .slice none 0 0] 57))
      have n0 := HNZ.out.c0
      have n1 := HNZ.out.c1
      have n2 := HNZ.out.c2
      have f0 := HNZ.out.f 0
      have f1 := HNZ.out.f 1
      have f2 := HNZ.out.f 2
      go_wp2_with fail
      have HL := Lib.hid (HNZ.out.laid (x' := .int .u8 123) (y' := .int .u8 name) (z' := (.slice (some ⟨wy.heap.size + 1, 0, none⟩) 2 2)))
      clear n0 n1 n2 f0 f1 f2
      have n0 := HL.out.c0
      have n1 := HL.out.c1
      have n2 := HL.out.c2
      unfold laid3 at n0 n1 n2
      refine bodyPost_ret (v := .agg #[.int .u8 123, .int .u8 name, (.slice (some ⟨wy.heap.size + 1, 0, none⟩) 2 2)]) (by simp [results, Tryz.results51, go_sem, n0, n1, n2]) rfl ?_
      have HGL := gr_laid3 (HGy.out.trans (World.grownBy_alloc _ (.cells #[.int .u8 0, .int .u8 0, .slice none 0 0, .int .u8 0, .int .u8 0, .slice none 0 0] 57) (some g))) (Nat.le_refl _) (.int .u8 123) (.int .u8 name) (.slice (some ⟨wy.heap.size + 1, 0, none⟩) 2 2)
      exact spost_bad HGL rfl HNO.out hqc ((HRy.out.alloc _).laid (by omega) _ _ _)
  
    · have HLL := Lib.hid (fun w => in_any name 118 122 true hL w)
      have HLV := Lib.hid (show isL (ba s (p + 1)) = true by rw [← hdb]; exact hL)
      clear hL hdb
      go_wp2_with fail
      refine (HLL.out w4).mono ?_
      rintro e w' ⟨rfl, rfl⟩
      go_wp2_with fail
      clear rc rf
      have HNu := Lib.hid (show C3 (w'.setCell ⟨g, 2, none⟩ (.bool false)) w.heap.size (.int .u8 0) (.int .u8 0) (.slice none 0 0) 57 from (Below.heap_setCell _ _ _ _ (by show w.heap.size ≠ g; omega)).trans HN4.out)
      have HGu := Lib.hid (HG4.out.trans (gr_set w' g 2 (.bool false)))
      have HRu := Lib.hid (HR4.out.set2 false)
      have hzu : w'.heap.size ≤ (w'.setCell ⟨g, 2, none⟩ (.bool false)).heap.size := by simp
      generalize w'.setCell ⟨g, 2, none⟩ (.bool false) = u at HNu HGu HRu hzu ⊢
      refine (sis_any g (p + 1 + 1) s 58 false u HRu.out (by omega) hpl hs).mono ?_
      rintro e u2 ⟨rfl, hgu, hcaseu⟩
      have HNu2 := Lib.hid (HNu.out.grown hgu (by simp; omega))
      have HGu2 := Lib.hid (HGu.out.trans hgu)
      have hzu2 : u.heap.size ≤ u2.heap.size := hgu.size
      rcases hcaseu with ⟨_, h58, hru⟩ | ⟨h58, qd, hqd, hru⟩
      · have H58 := Lib.hid h58
        have HRu2 := Lib.hid hru
        have hp3 : p + 1 + 1 < s.size := ba_lt (by omega)
        clear hru hgu h58
        go_wp2_with fail
        refine (spart_good g f (p + 1 + 1 + 1) s u2 HRu2.out (fun w h => HIH.out (p + 1 + 1 + 1) w (by omega) (by omega) h)).mono ?_
        rintro e w2 ⟨hg2, a, b, A, k2, c2, rfl, hcase2⟩
        have HX2 := Lib.hid (c3_new w2 (.int .u8 a) (.int .u8 b) (.slice A k2 c2) 57)
        have HN2 := Lib.hid ((HNu2.out.grown hg2 (by simp; omega)).alloc (.cells #[.int .u8 a, .int .u8 b, .slice A k2 c2] 57))
        have HG2 := Lib.hid ((HGu2.out.trans hg2).trans (World.grownBy_alloc w2 (.cells #[.int .u8 a, .int .u8 b, .slice A k2 c2] 57) (some g)))
        have HC2 := Lib.hid hcase2
        have hz2 : u2.heap.size ≤ w2.heap.size := hg2.size
        have hzb : w2.heap.size < (w2.alloc (.cells #[.int .u8 a, .int .u8 b, .slice A k2 c2] 57)).heap.size := by simp
        have HKP := Lib.hid (fun (k : Nat) (hk : k < w2.heap.size) => Below.heap_alloc w2 (.cells #[.int .u8 a, .int .u8 b, .slice A k2 c2] 57) k hk)
        clear hg2 hcase2
        go_wp2_with fail
        generalize w2.alloc (.cells #[.int .u8 a, .int .u8 b, .slice A k2 c2] 57) = w3 at HX2 HN2 HG2 hzb HKP ⊢
        rcases HC2.out with ⟨x, q2, hx, hrx, hnx⟩ | ⟨hx, q2, hq2, hrx⟩
        · have HMX := Lib.hid hx
          have gx := tm_ge s f _ _ _ hx
          have HSX3 := Lib.hid ((hnx.wide (S' := fun b => w.heap.size + 1 ≤ b) (fun b hb => by omega)).keep (fun k _ hk => HKP.out k hk) (fun _ h _ => h) _ _)
          have HR3 := Lib.hid (show SR w3 g s q2 false from (HKP.out g (by omega)).trans hrx)
          clear hx hrx hnx HC2 HKP
          refine (sis_any g q2 s 62 false w3 HR3.out (by omega) gx.2.1 hs).mono ?_
          rintro e v ⟨rfl, hg4, hcase4⟩
          have HXv := Lib.hid (HX2.out.grown hg4 (by simp; omega))
          have HNv := Lib.hid (HN2.out.grown hg4 (by simp; omega))
          have HGv := Lib.hid (HG2.out.trans hg4)
          have HSXv := Lib.hid (HSX3.out.more hg4 (by show ¬ (w.heap.size + 1 ≤ g); omega))
          have hz4 : w3.heap.size ≤ v.heap.size := hg4.size
          clear hg4 HX2 HN2 HG2 HSX3 HR3
          rcases hcase4 with ⟨_, h62, hr4⟩ | ⟨h62, q4, hq4, hr4⟩
          · have H62 := Lib.hid h62
            have HRv := Lib.hid hr4
            have hq2' : q2 < s.size := ba_lt (by omega)
            clear hr4 h62
            go_wp2_with fail
            refine (spart_good g f (q2 + 1) s v HRv.out (fun w h => HIH.out (q2 + 1) w (by omega) (by omega) h)).mono ?_
            rintro e w5 ⟨hg5, a5, b5, A5, k5, c5, rfl, hcase5⟩
            have hz5 : v.heap.size ≤ w5.heap.size := hg5.size
            have HX5 := Lib.hid ((HXv.out.grown hg5 (by simp; omega)).alloc (.cells #[.int .u8 a5, .int .u8 b5, .slice A5 k5 c5] 57))
            have HY5 := Lib.hid (c3_new w5 (.int .u8 a5) (.int .u8 b5) (.slice A5 k5 c5) 57)
            have HN5 := Lib.hid ((HNv.out.grown hg5 (by simp; omega)).alloc (.cells #[.int .u8 a5, .int .u8 b5, .slice A5 k5 c5] 57))
            have HG5 := Lib.hid ((HGv.out.trans hg5).trans (World.grownBy_alloc w5 (.cells #[.int .u8 a5, .int .u8 b5, .slice A5 k5 c5] 57) (some g)))
            have HSX5 := Lib.hid ((HSXv.out.more hg5 (by show ¬ (w.heap.size + 1 ≤ g); omega)).keep (fun k _ hk => Below.heap_alloc w5 (.cells #[.int .u8 a5, .int .u8 b5, .slice A5 k5 c5] 57) k hk) (fun _ h _ => h) _ _)
            clear hg5
            rcases hcase5 with ⟨y, q5, hy, hr5, hsy⟩ | ⟨hy, q5, hq5, hr5⟩
            · have g5 := tm_ge s f _ _ _ hy
              have HMY := Lib.hid hy
              have HR5 := Lib.hid (hr5.alloc (.cells #[.int .u8 a5, .int .u8 b5, .slice A5 k5 c5] 57))
              have HSY5 := Lib.hid ((hsy.wide (S' := fun b => w.heap.size + 1 ≤ b) (fun b hb => by omega)).keep (fun k _ hk => Below.heap_alloc w5 (.cells #[.int .u8 a5, .int .u8 b5, .slice A5 k5 c5] 57) k hk) (fun _ h _ => h) _ _)
              have hzz : w5.heap.size < (w5.alloc (.cells #[.int .u8 a5, .int .u8 b5, .slice A5 k5 c5] 57)).heap.size := by simp
              have ry := HR5.out.c2
              clear hy hr5 hsy
              go_wp2_with fail
              clear ry
              generalize w5.alloc (.cells #[.int .u8 a5, .int .u8 b5, .slice A5 k5 c5] 57) = w6 at HX5 HY5 HN5 HG5 HR5 HSX5 HSY5 hzz ⊢
              refine (sis_any g q5 s 125 false w6 HR5.out (by omega) g5.2.1 hs).mono ?_
              rintro e w7 ⟨rfl, hg7, hcase7⟩
              have HX7 := Lib.hid (HX5.out.grown hg7 (by simp; omega))
              have HY7 := Lib.hid (HY5.out.grown hg7 (by simp; omega))
              have HN7 := Lib.hid (HN5.out.grown hg7 (by simp; omega))
              have HG7 := Lib.hid (HG5.out.trans hg7)
              have HSX7 := Lib.hid (HSX5.out.more hg7 (by show ¬ (w.heap.size + 1 ≤ g); omega))
              have HSY7 := Lib.hid (HSY5.out.more hg7 (by show ¬ (w.heap.size + 1 ≤ g); omega))
              have hz7 : w6.heap.size ≤ w7.heap.size := hg7.size
              have HC7 := Lib.hid hcase7
              clear hg7 hcase7
              have x0 := HX7.out.c0
              have x1 := HX7.out.c1
              have x2 := HX7.out.c2
              have y0 := HY7.out.c0
              have y1 := HY7.out.c1
              have y2 := HY7.out.c2
              have HNZ := Lib.hid (HN7.out.alloc (.cells #[.int .u8 a, .int .u8 b, .slice A k2 c2, .int .u8 a5, .int .u8 b5, .slice A5 k5 c5] 57))
              have n0 := HNZ.out.c0
              have n1 := HNZ.out.c1
              have n2 := HNZ.out.c2
              have f0 := HNZ.out.f 0
              have f1 := HNZ.out.f 1
              have f2 := HNZ.out.f 2
              go_wp2_with fail
              have HL := Lib.hid (HNZ.out.laid (x' := .int .u8 123) (y' := .int .u8 name) (z' := (.slice (some ⟨w7.heap.size, 0, none⟩) 2 2)))
              clear n0 n1 n2 f0 f1 f2
              have n0 := HL.out.c0
              have n1 := HL.out.c1
              have n2 := HL.out.c2
              unfold laid3 at n0 n1 n2
              refine bodyPost_ret (v := .agg #[.int .u8 123, .int .u8 name, (.slice (some ⟨w7.heap.size, 0, none⟩) 2 2)]) (by simp [results, Tryz.results51, go_sem, n0, n1, n2]) rfl ?_
              have HGL := gr_laid3 (HG7.out.trans (World.grownBy_alloc w7 (.cells #[.int .u8 a, .int .u8 b, .slice A k2 c2, .int .u8 a5, .int .u8 b5, .slice A5 k5 c5] 57) (some g))) (Nat.le_refl _) (.int .u8 123) (.int .u8 name) (.slice (some ⟨w7.heap.size, 0, none⟩) 2 2)
              rcases HC7.out with ⟨_, hc41, hr7⟩ | ⟨hc41, q7, hq7, hr7⟩
              · refine spost_ok HGL rfl (tm_loop_s HCL.out HLV.out H58.out HMX.out H62.out HMY.out (by rw [HCC.out]; exact hc41)) ((hr7.alloc _).laid (by omega) _ _ _) ?_
                refine ⟨HCC.out.symm, HNM.out.symm, (a, b, .slice A k2 c2), (a5, b5, .slice A5 k5 c5), own_keep (row_new [(a, b, .slice A k2 c2), (a5, b5, .slice A5 k5 c5)] _ rfl rfl (by simp)) (fun k hk => laid3_heap _ _ _ _ _ _ (by simp [Value.ownBlock] at hk; omega)), fun k hk => by simp [Value.ownBlock] at hk; omega, ?_, ?_⟩
                · exact (SN.laid (HSX7.out.keep (fun k _ hk => Below.heap_alloc _ _ _ hk) (fun _ h _ => h) _ _) (by show ¬ (w.heap.size + 1 ≤ w.heap.size); omega) _ _ _).wide (fun b hb => by omega)
                · exact (SN.laid (HSY7.out.keep (fun k _ hk => Below.heap_alloc _ _ _ hk) (fun _ h _ => h) _ _) (by show ¬ (w.heap.size + 1 ≤ w.heap.size); omega) _ _ _).wide (fun b hb => by omega)
              · exact spost_bad HGL rfl (tm_loop_n4 HCL.out HMX.out HMY.out (fun hh => hc41 ⟨by first | rfl | trivial, by rw [hh, HCC.out]; rfl⟩)) hq7 ((hr7.alloc _).laid (by omega) _ _ _)
            · have HNO := Lib.hid (tm_loop_n3 HCL.out HMX.out hy)
              have HR5 := Lib.hid (hr5.alloc (.cells #[.int .u8 a5, .int .u8 b5, .slice A5 k5 c5] 57))
              have ry := HR5.out.c2
              clear hy hr5
              have x0 := HX5.out.c0
              have x1 := HX5.out.c1
              have x2 := HX5.out.c2
              have y0 := HY5.out.c0
              have y1 := HY5.out.c1
              have y2 := HY5.out.c2
              have HNZ := Lib.hid (HN5.out.alloc (.cells #[.int .u8 a, .int .u8 b, .slice A k2 c2, .int .u8 a5, .int .u8 b5, .slice A5 k5 c5] 57))
              have n0 := HNZ.out.c0
              have n1 := HNZ.out.c1
              have n2 := HNZ.out.c2
              have f0 := HNZ.out.f 0
              have f1 := HNZ.out.f 1
              have f2 := HNZ.out.f 2
              go_wp2_with fail
              have HL := Lib.hid (HNZ.out.laid (x' := .int .u8 123) (y' := .int .u8 name) (z' := (.slice (some ⟨w5.heap.size + 1, 0, none⟩) 2 2)))
              clear n0 n1 n2 f0 f1 f2
              have n0 := HL.out.c0
              have n1 := HL.out.c1
              have n2 := HL.out.c2
              unfold laid3 at n0 n1 n2
              refine bodyPost_ret (v := .agg #[.int .u8 123, .int .u8 name, (.slice (some ⟨w5.heap.size + 1, 0, none⟩) 2 2)]) (by simp [results, Tryz.results51, go_sem, n0, n1, n2]) rfl ?_
              have HGL := gr_laid3 (HG5.out.trans (World.grownBy_alloc _ (.cells #[.int .u8 a, .int .u8 b, .slice A k2 c2, .int .u8 a5, .int .u8 b5, .slice A5 k5 c5] 57) (some g))) (Nat.le_refl _) (.int .u8 123) (.int .u8 name) (.slice (some ⟨w5.heap.size + 1, 0, none⟩) 2 2)
              exact spost_bad HGL rfl HNO.out hq5 ((HR5.out.alloc _).laid (by omega) _ _ _)
      
          · have HNO := Lib.hid (tm_loop_n2 HCL.out HMX.out (fun hh => h62 ⟨by first | rfl | trivial, hh⟩))
            have HRv := Lib.hid hr4
            clear hr4 h62
            go_wp2_with fail
            refine (spart_bad g q4 s v HRv.out).mono ?_
            rintro e wy ⟨rfl, hry, hgy⟩
            have HXy := Lib.hid ((HXv.out.grown hgy (by simp; omega)).alloc (.cells #[.int .u8 0, .int .u8 0, .slice none 0 0] 57))
            have HYy := Lib.hid (c3_new wy (.int .u8 0) (.int .u8 0) (.slice none 0 0) 57)
            have HNy := Lib.hid ((HNv.out.grown hgy (by simp; omega)).alloc (.cells #[.int .u8 0, .int .u8 0, .slice none 0 0] 57))
            have HGy := Lib.hid ((HGv.out.trans hgy).trans (World.grownBy_alloc wy (.cells #[.int .u8 0, .int .u8 0, .slice none 0 0] 57) (some g)))
            have HRy := Lib.hid (hry.alloc (.cells #[.int .u8 0, .int .u8 0, .slice none 0 0] 57))
            have ry := HRy.out.c2
            clear hry hgy
            have x0 := HXy.out.c0
            have x1 := HXy.out.c1
            have x2 := HXy.out.c2
            have y0 := HYy.out.c0
            have y1 := HYy.out.c1
            have y2 := HYy.out.c2
            have HNZ := Lib.hid (HNy.out.alloc (.cells #[.int .u8 a, .int .u8 b, .slice A k2 c2, .int .u8 0, .int .u8 0, .slice none 0 0] 57))
            have n0 := HNZ.out.c0
            have n1 := HNZ.out.c1
            have n2 := HNZ.out.c2
            have f0 := HNZ.out.f 0
            have f1 := HNZ.out.f 1
            have f2 := HNZ.out.f 2
            go_wp2_with fail
            have HL := Lib.hid (HNZ.out.laid (x' := .int .u8 123) (y' := .int .u8 name) (z' := (.slice (some ⟨wy.heap.size + 1, 0, none⟩) 2 2)))
            clear n0 n1 n2 f0 f1 f2
            have n0 := HL.out.c0
            have n1 := HL.out.c1
            have n2 := HL.out.c2
            unfold laid3 at n0 n1 n2
            refine bodyPost_ret (v := .agg #[.int .u8 123, .int .u8 name, (.slice (some ⟨wy.heap.size + 1, 0, none⟩) 2 2)]) (by simp [results, Tryz.results51, go_sem, n0, n1, n2]) rfl ?_
            have HGL := gr_laid3 (HGy.out.trans (World.grownBy_alloc _ (.cells #[.int .u8 a, .int .u8 b, .slice A k2 c2, .int .u8 0, .int .u8 0, .slice none 0 0] 57) (some g))) (Nat.le_refl _) (.int .u8 123) (.int .u8 name) (.slice (some ⟨wy.heap.size + 1, 0, none⟩) 2 2)
            exact spost_bad HGL rfl HNO.out hq4 ((HRy.out.alloc _).laid (by omega) _ _ _)
      
        · have HNO := Lib.hid (tm_loop_n1 HCL.out hx)
          have HR3 := Lib.hid (show SR w3 g s q2 true from (HKP.out g (by omega)).trans hrx)
          clear hx hrx HC2 HKP
          refine (sis_any g q2 s 62 true w3 HR3.out (by omega) hq2 hs).mono ?_
          rintro e v ⟨rfl, hg4, hcase4⟩
          have HXv := Lib.hid (HX2.out.grown hg4 (by simp; omega))
          have HNv := Lib.hid (HN2.out.grown hg4 (by simp; omega))
          have HGv := Lib.hid (HG2.out.trans hg4)
          have hz4 : w3.heap.size ≤ v.heap.size := hg4.size
          clear hg4 HX2 HN2 HG2 HR3
          rcases hcase4 with ⟨hh, _⟩ | ⟨_, q4, hq4, hr4⟩
          case inl => cases hh
          have HRv := Lib.hid hr4
          clear hr4
          go_wp2_with fail
          refine (spart_bad g q4 s v HRv.out).mono ?_
          rintro e wy ⟨rfl, hry, hgy⟩
          have HXy := Lib.hid ((HXv.out.grown hgy (by simp; omega)).alloc (.cells #[.int .u8 0, .int .u8 0, .slice none 0 0] 57))
          have HYy := Lib.hid (c3_new wy (.int .u8 0) (.int .u8 0) (.slice none 0 0) 57)
          have HNy := Lib.hid ((HNv.out.grown hgy (by simp; omega)).alloc (.cells #[.int .u8 0, .int .u8 0, .slice none 0 0] 57))
          have HGy := Lib.hid ((HGv.out.trans hgy).trans (World.grownBy_alloc wy (.cells #[.int .u8 0, .int .u8 0, .slice none 0 0] 57) (some g)))
          have HRy := Lib.hid (hry.alloc (.cells #[.int .u8 0, .int .u8 0, .slice none 0 0] 57))
          have ry := HRy.out.c2
          clear hry hgy
          have x0 := HXy.out.c0
          have x1 := HXy.out.c1
          have x2 := HXy.out.c2
          have y0 := HYy.out.c0
          have y1 := HYy.out.c1
          have y2 := HYy.out.c2
          have HNZ := Lib.hid (HNy.out.alloc (.cells #[.int .u8 a, .int .u8 b, .slice A k2 c2, .int .u8 0, .int .u8 0, .slice none 0 0] 57))
          have n0 := HNZ.out.c0
          have n1 := HNZ.out.c1
          have n2 := HNZ.out.c2
          have f0 := HNZ.out.f 0
          have f1 := HNZ.out.f 1
          have f2 := HNZ.out.f 2
          go_wp2_with fail
          have HL := Lib.hid (HNZ.out.laid (x' := .int .u8 123) (y' := .int .u8 name) (z' := (.slice (some ⟨wy.heap.size + 1, 0, none⟩) 2 2)))
          clear n0 n1 n2 f0 f1 f2
          have n0 := HL.out.c0
          have n1 := HL.out.c1
          have n2 := HL.out.c2
          unfold laid3 at n0 n1 n2
          refine bodyPost_ret (v := .agg #[.int .u8 123, .int .u8 name, (.slice (some ⟨wy.heap.size + 1, 0, none⟩) 2 2)]) (by simp [results, Tryz.results51, go_sem, n0, n1, n2]) rfl ?_
          have HGL := gr_laid3 (HGy.out.trans (World.grownBy_alloc _ (.cells #[.int .u8 a, .int .u8 b, .slice A k2 c2, .int .u8 0, .int .u8 0, .slice none 0 0] 57) (some g))) (Nat.le_refl _) (.int .u8 123) (.int .u8 name) (.slice (some ⟨wy.heap.size + 1, 0, none⟩) 2 2)
          exact spost_bad HGL rfl HNO.out hq4 ((HRy.out.alloc _).laid (by omega) _ _ _)
      
      · have HNO := Lib.hid (show tm s (f + 1) p = none from tm_loop_n0 HCL.out (fun hh => h58 ⟨by first | rfl | trivial, hh.2⟩))
        have HRu2 := Lib.hid hru
        clear hru hgu h58
        go_wp2_with fail
        refine (spart_bad g qd s u2 HRu2.out).mono ?_
        rintro e wa ⟨rfl, hra, hga⟩
        have HXa := Lib.hid (c3_new wa (.int .u8 0) (.int .u8 0) (.slice none 0 0) 57)
        have HNa := Lib.hid ((HNu2.out.grown hga (by simp; omega)).alloc (.cells #[.int .u8 0, .int .u8 0, .slice none 0 0] 57))
        have HGa := Lib.hid ((HGu2.out.trans hga).trans (World.grownBy_alloc wa (.cells #[.int .u8 0, .int .u8 0, .slice none 0 0] 57) (some g)))
        have HRa := Lib.hid (hra.alloc (.cells #[.int .u8 0, .int .u8 0, .slice none 0 0] 57))
        have hza : u2.heap.size ≤ wa.heap.size := hga.size
        have hzza : wa.heap.size < (wa.alloc (.cells #[.int .u8 0, .int .u8 0, .slice none 0 0] 57)).heap.size := by simp
        clear hra hga
        go_wp2_with fail
        generalize wa.alloc (.cells #[.int .u8 0, .int .u8 0, .slice none 0 0] 57) = wb at HXa HNa HGa HRa hzza ⊢
        refine (sis_any g qd s 62 true wb HRa.out (by omega) hqd hs).mono ?_
        rintro e wc ⟨rfl, hgc, hcasec⟩
        have HXc := Lib.hid (HXa.out.grown hgc (by simp; omega))
        have HNc := Lib.hid (HNa.out.grown hgc (by simp; omega))
        have HGc := Lib.hid (HGa.out.trans hgc)
        have hzc : wb.heap.size ≤ wc.heap.size := hgc.size
        rcases hcasec with ⟨hh, _⟩ | ⟨_, qc, hqc, hrc⟩
        case inl => cases hh
        have HRwc := Lib.hid hrc
        have HNwc := HNc
        have HGwc := HGc
        clear hrc hgc HXa HNa HGa HRa
        go_wp2_with fail
        refine (spart_bad g qc s wc HRwc.out).mono ?_
        rintro e wy ⟨rfl, hry, hgy⟩
        have HXy := Lib.hid ((HXc.out.grown hgy (by simp; omega)).alloc (.cells #[.int .u8 0, .int .u8 0, .slice none 0 0] 57))
        have HYy := Lib.hid (c3_new wy (.int .u8 0) (.int .u8 0) (.slice none 0 0) 57)
        have HNy := Lib.hid ((HNwc.out.grown hgy (by simp; omega)).alloc (.cells #[.int .u8 0, .int .u8 0, .slice none 0 0] 57))
        have HGy := Lib.hid ((HGwc.out.trans hgy).trans (World.grownBy_alloc wy (.cells #[.int .u8 0, .int .u8 0, .slice none 0 0] 57) (some g)))
        have HRy := Lib.hid (hry.alloc (.cells #[.int .u8 0, .int .u8 0, .slice none 0 0] 57))
        have ry := HRy.out.c2
        clear hry hgy
        have x0 := HXy.out.c0
        have x1 := HXy.out.c1
        have x2 := HXy.out.c2
        have y0 := HYy.out.c0
        have y1 := HYy.out.c1
        have y2 := HYy.out.c2
        have HNZ := Lib.hid (HNy.out.alloc (.cells #[.int .u8 0, .int .u8 0, .slice none 0 0, .int .u8 0, .int .u8 0, .slice none 0 0] 57))
        have n0 := HNZ.out.c0
        have n1 := HNZ.out.c1
        have n2 := HNZ.out.c2
        have f0 := HNZ.out.f 0
        have f1 := HNZ.out.f 1
        have f2 := HNZ.out.f 2
        go_wp2_with fail
        have HL := Lib.hid (HNZ.out.laid (x' := .int .u8 123) (y' := .int .u8 name) (z' := (.slice (some ⟨wy.heap.size + 1, 0, none⟩) 2 2)))
        clear n0 n1 n2 f0 f1 f2
        have n0 := HL.out.c0
        have n1 := HL.out.c1
        have n2 := HL.out.c2
        unfold laid3 at n0 n1 n2
        refine bodyPost_ret (v := .agg #[.int .u8 123, .int .u8 name, (.slice (some ⟨wy.heap.size + 1, 0, none⟩) 2 2)]) (by simp [results, Tryz.results51, go_sem, n0, n1, n2]) rfl ?_
        have HGL := gr_laid3 (HGy.out.trans (World.grownBy_alloc _ (.cells #[.int .u8 0, .int .u8 0, .slice none 0 0, .int .u8 0, .int .u8 0, .slice none 0 0] 57) (some g))) (Nat.le_refl _) (.int .u8 123) (.int .u8 name) (.slice (some ⟨wy.heap.size + 1, 0, none⟩) 2 2)
        exact spost_bad HGL rfl HNO.out hqc ((HRy.out.alloc _).laid (by omega) _ _ _)
  
  · have HR4 := Lib.hid hr4
    have rc := hr4.c2
    have rf := hr4.f 2
    have HNO := Lib.hid (show tm s (f + 1) p = none from tm_loop_n0 HCL.out (by rw [hdb]; rintro ⟨h1, _⟩; cases h1))
    clear hr4 hdb
    go_wp2_with fail
    clear rc rf
    have HNu := Lib.hid (show C3 (w4.setCell ⟨g, 2, none⟩ (.bool true)) w.heap.size (.int .u8 0) (.int .u8 0) (.slice none 0 0) 57 from (Below.heap_setCell _ _ _ _ (by show w.heap.size ≠ g; omega)).trans HN4.out)
    have HGu := Lib.hid (HG4.out.trans (gr_set w4 g 2 (.bool true)))
    have HRu := Lib.hid (HR4.out.set2 true)
    have hzu : w4.heap.size ≤ (w4.setCell ⟨g, 2, none⟩ (.bool true)).heap.size := by simp
    generalize w4.setCell ⟨g, 2, none⟩ (.bool true) = u at HNu HGu HRu hzu ⊢
    refine (sis_any g (p + 1) s 58 true u HRu.out (by omega) (show p + 1 ≤ s.size by omega) hs).mono ?_
    rintro e wd ⟨rfl, hgd, hcased⟩
    have HNwd := Lib.hid (HNu.out.grown hgd (by simp; omega))
    have HGwd := Lib.hid (HGu.out.trans hgd)
    have hzd : u.heap.size ≤ wd.heap.size := hgd.size
    rcases hcased with ⟨hh, _⟩ | ⟨_, qd, hqd, hrd⟩
    case inl => cases hh
    have HRwd := Lib.hid hrd
    clear hrd hgd
    go_wp2_with fail
    refine (spart_bad g qd s wd HRwd.out).mono ?_
    rintro e wa ⟨rfl, hra, hga⟩
    have HXa := Lib.hid (c3_new wa (.int .u8 0) (.int .u8 0) (.slice none 0 0) 57)
    have HNa := Lib.hid ((HNwd.out.grown hga (by simp; omega)).alloc (.cells #[.int .u8 0, .int .u8 0, .slice none 0 0] 57))
    have HGa := Lib.hid ((HGwd.out.trans hga).trans (World.grownBy_alloc wa (.cells #[.int .u8 0, .int .u8 0, .slice none 0 0] 57) (some g)))
    have HRa := Lib.hid (hra.alloc (.cells #[.int .u8 0, .int .u8 0, .slice none 0 0] 57))
    have hza : wd.heap.size ≤ wa.heap.size := hga.size
    have hzza : wa.heap.size < (wa.alloc (.cells #[.int .u8 0, .int .u8 0, .slice none 0 0] 57)).heap.size := by simp
    clear hra hga
    go_wp2_with fail
    generalize wa.alloc (.cells #[.int .u8 0, .int .u8 0, .slice none 0 0] 57) = wb at HXa HNa HGa HRa hzza ⊢
    refine (sis_any g qd s 62 true wb HRa.out (by omega) hqd hs).mono ?_
    rintro e wc ⟨rfl, hgc, hcasec⟩
    have HXc := Lib.hid (HXa.out.grown hgc (by simp; omega))
    have HNc := Lib.hid (HNa.out.grown hgc (by simp; omega))
    have HGc := Lib.hid (HGa.out.trans hgc)
    have hzc : wb.heap.size ≤ wc.heap.size := hgc.size
    rcases hcasec with ⟨hh, _⟩ | ⟨_, qc, hqc, hrc⟩
    case inl => cases hh
    have HRwc := Lib.hid hrc
    have HNwc := HNc
    have HGwc := HGc
    clear hrc hgc HXa HNa HGa HRa
    go_wp2_with fail
    refine (spart_bad g qc s wc HRwc.out).mono ?_
    rintro e wy ⟨rfl, hry, hgy⟩
    have HXy := Lib.hid ((HXc.out.grown hgy (by simp; omega)).alloc (.cells #[.int .u8 0, .int .u8 0, .slice none 0 0] 57))
    have HYy := Lib.hid (c3_new wy (.int .u8 0) (.int .u8 0) (.slice none 0 0) 57)
    have HNy := Lib.hid ((HNwc.out.grown hgy (by simp; omega)).alloc (.cells #[.int .u8 0, .int .u8 0, .slice none 0 0] 57))
    have HGy := Lib.hid ((HGwc.out.trans hgy).trans (World.grownBy_alloc wy (.cells #[.int .u8 0, .int .u8 0, .slice none 0 0] 57) (some g)))
    have HRy := Lib.hid (hry.alloc (.cells #[.int .u8 0, .int .u8 0, .slice none 0 0] 57))
    have ry := HRy.out.c2
    clear hry hgy
    have x0 := HXy.out.c0
    have x1 := HXy.out.c1
    have x2 := HXy.out.c2
    have y0 := HYy.out.c0
    have y1 := HYy.out.c1
    have y2 := HYy.out.c2
    have HNZ := Lib.hid (HNy.out.alloc (.cells #[.int .u8 0, .int .u8 0, .slice none 0 0, .int .u8 0, .int .u8 0, .slice none 0 0] 57))
    have n0 := HNZ.out.c0
    have n1 := HNZ.out.c1
    have n2 := HNZ.out.c2
    have f0 := HNZ.out.f 0
    have f1 := HNZ.out.f 1
    have f2 := HNZ.out.f 2
    go_wp2_with fail
    have HL := Lib.hid (HNZ.out.laid (x' := .int .u8 123) (y' := .int .u8 0) (z' := (.slice (some ⟨wy.heap.size + 1, 0, none⟩) 2 2)))
    clear n0 n1 n2 f0 f1 f2
    have n0 := HL.out.c0
    have n1 := HL.out.c1
    have n2 := HL.out.c2
    unfold laid3 at n0 n1 n2
    refine bodyPost_ret (v := .agg #[.int .u8 123, .int .u8 0, (.slice (some ⟨wy.heap.size + 1, 0, none⟩) 2 2)]) (by simp [results, Tryz.results51, go_sem, n0, n1, n2]) rfl ?_
    have HGL := gr_laid3 (HGy.out.trans (World.grownBy_alloc _ (.cells #[.int .u8 0, .int .u8 0, .slice none 0 0, .int .u8 0, .int .u8 0, .slice none 0 0] 57) (some g))) (Nat.le_refl _) (.int .u8 123) (.int .u8 0) (.slice (some ⟨wy.heap.size + 1, 0, none⟩) 2 2)
    exact spost_bad HGL rfl HNO.out hqc ((HRy.out.alloc _).laid (by omega) _ _ _)

theorem snode_any (g : Nat) (s : ByteArray) (hs : s.size ≤ 1048576) : ∀ (f p : Nat) (w : World), p ≤ s.size → s.size < p + f → SR w g s p false →
    Calls Tryz.prog 51 #[.pointer (some ⟨g, 0, none⟩)] w (SPost s f p g w)
  | 0, p, w, hp, hf, h => by omega
  | f + 1, p, w, hp, hf, h => by
    have ih := snode_any g s hs f
    rcases Nat.lt_or_ge p s.size with hlt | hge
    case inr => exact snode_end g f p s hs w h hge hp
    cases hD : isD (ba s p)
    case true => exact snode_dig g f p s hs w h hlt hD
    cases hV : isV (ba s p)
    case true =>
      have hv : ba s p = 97 ∨ ba s p = 98 ∨ 118 ≤ ba s p ∧ ba s p ≤ 122 := by simpa [isV] using hV
      rcases hv with hv | hv | hv
      · exact snode_var_a g f p s hs w h hlt hv hV
      · exact snode_var_b g f p s hs w h hlt hv hV
      · exact snode_var_r g f p s hs w h hlt hv hV
    cases hP : isP (ba s p)
    case true => exact snode_pre g f p s hs ih (by omega) w h hlt hP
    by_cases h40 : ba s p = 40
    · exact snode_two g f p s hs ih (by omega) w h hlt h40
    by_cases h91 : ba s p = 91
    · exact snode_loop91 g f p s hs ih (by omega) w h hlt h91
    by_cases h123 : ba s p = 123
    · exact snode_loop123 g f p s hs ih (by omega) w h hlt h123
    exact snode_none g f p s hs w h hlt hD hV hP h40 h91 h123

end Go.Proofs.YtboddoaekcchpaaGreat
