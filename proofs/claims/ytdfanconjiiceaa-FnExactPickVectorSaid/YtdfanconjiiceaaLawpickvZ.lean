/- 1 texts in one: Lawpickv. -/
import Derived.Test.YtdfanconjiiceaaZPB
import Derived.Test.YtdfanconjiiceaaZPC
import Derived.Test.YtdfanconjiiceaaZPD
import Derived.SizedLaws
import Derived.Deep.AppendLies
import Derived.Deep.RegionLaw
namespace Go.Proofs.Ytdfanconjiiceaa
/- Lawpickv -/
section
open Go.ChangeShapes Go.WideShapes Go.ChangeAt Go.RowKit

theorem vct3P {w : World} {v : Value} {k : Int} {LL : List (List Int)} {D : List Int} (h : Vct w v k LL D) : ∃ A m c B n e, v = .agg #[.int .i64 k, .slice A m c, .slice B n e] := by
  obtain ⟨A, c, B, d, hv, _⟩ := h
  exact ⟨_, _, _, _, _, _, hv⟩
theorem OwnVct.keepP {w w' : World} {base : Nat} {v : Value} {n : Int} {LL : List (List Int)} {D : List Int} (h : OwnVct w base v n LL D) (hk : ∀ g, base ≤ g → g < w.heap.size → w'.heap[g]? = w.heap[g]?) : OwnVct w' base v n LL D := by
  obtain ⟨x, y, rfl, h⟩ := h
  exact ⟨x, y, rfl, h.keep hk⟩
theorem OwnVct.zeroP (w : World) (base : Nat) : OwnVct w base (.agg #[.int .i64 0, .slice none 0 0, .slice none 0 0]) 0 [] [] := by
  refine ⟨_, _, rfl, none, 0, .slice none 0 0, [], rfl, Nat.le_refl _, World.ownsRow_nil _ _ _ _, fun i L hi hL => ?_, fun i i' v u L L' g hi hi' hne => ?_⟩
  · have h0 : i = 0 := by simpa using hi
    subst h0
    simp at hL
    subst hL
    exact ⟨_, rfl, none, 0, rfl, Nat.le_refl _, fun h => by simp at h⟩
  · simp at hi hi'
    omega
theorem pick_impl2 (A B Aa : Option Addr) (c e ca : Nat) (k : Int) (LL : List (List Int)) (D a : List Int) (w : World) (h : VctQ w (.agg #[.int .i64 k, .slice A LL.length c, .slice B D.length e]) k LL D) (ha : Ints w Aa a) (hn : LL.length + totL LL + D.length ≤ 1048576) (ham : a.length ≤ 1048576) :
    Calls Try.prog 25 #[.agg #[.int .i64 k, .slice A LL.length c, .slice B D.length e], .slice Aa a.length ca] w fun ee w' => ∃ u, ee = .returned (.tuple #[u, .bool (pickB k LL D a)]) ∧ w.grownBy w' none ∧ OwnVct w' w.heap.size u (pkK k LL D a) (pkL k LL D a) (pkD k LL D a) := by
  refine (pick_impl A B Aa c e ca k LL D a w h ha hn ham).mono ?_
  rintro ee w' ⟨hg, hh⟩
  unfold pkK pkL pkD
  by_cases hb : pickB k LL D a = true
  · rw [if_pos hb] at hh
    obtain ⟨u, rfl, ho⟩ := hh
    rw [hb]
    exact ⟨_, rfl, hg, by simpa using ho⟩
  · rw [if_neg hb] at hh
    have hb2 : pickB k LL D a = false := by simpa using hb
    rw [hb2]
    exact ⟨_, hh, hg, by simpa using OwnVct.zeroP w' w.heap.size⟩

set_option maxRecDepth 100000 in
set_option maxHeartbeats 8000000 in
theorem law_pickv (v0 : Value) (Aa : Option Addr) (ca : Nat) (k : Int) (LL : List (List Int)) (D a : List Int) (w : World) (h : Vct w v0 k LL D) (ha : Ints w Aa a) (hn : LL.length ≤ 9223372036854775807) (hsz : ∀ M ∈ LL, M.length ≤ 9223372036854775807) (hd : D.length ≤ 9223372036854775807) :
    Calls Try.prog 5 #[v0, .slice Aa a.length ca] w fun e w' => e = .returned (.bool true) ∧ w.grownBy w' none := by
  have HZ := Lib.hid (fun w h => szv_any v0 k LL D w h hn hsz hd)
  have H := Lib.hid h
  have HAA := Lib.hid ha
  obtain ⟨A, c, B, d, rfl, _⟩ := h
  obtain ⟨n, hnn⟩ : ∃ n, LL.length = n := ⟨_, rfl⟩
  obtain ⟨m, hm⟩ : ∃ m, D.length = m := ⟨_, rfl⟩
  obtain ⟨q, hq⟩ : ∃ q, a.length = q := ⟨_, rfl⟩
  have HN := Lib.hid hnn
  have HM := Lib.hid hm
  have HQ := Lib.hid hq
  have HW1 := Lib.hid (fun A B E c d f w h hp hn => spickv_any A B E c d f k LL D a w h hp hn)
  have HW2 := Lib.hid (fun A B E c d f w h hp hn ham => pick_impl2 A B E c d f k LL D a w h hp hn ham)
  have HB := Lib.hid (fun hn => pk_bound (k := k) (LL := LL) (D := D) (a := a) hn)
  generalize pkK k LL D a = k2 at HW1 HW2
  generalize pkL k LL D a = L2 at HW1 HW2 HB
  generalize pkD k LL D a = D2 at HW1 HW2 HB
  generalize pickB k LL D a = b at HW1 HW2
  rw [hm, hnn] at HZ H HW1 HW2
  rw [hq] at HW1 HW2
  rw [hm, hnn, hq]
  clear ha hn hnn hm hsz hd hq
  have HG0 := Lib.hid (World.grownBy_alloc w (.cells #[.int .i64 k, .slice A n c, .slice B m d] 44) none)
  have HP0 := Lib.hid (Tri.new w 44 (.int .i64 k) (.slice A n c) (.slice B m d))
  by_cases hbig : 1048576 < q
  · go_enter Try.func5, Try.ntmps5
    go_wp2_with fail
    go_ret
    exact ⟨rfl, HG0.out⟩
  · have hq1 : q ≤ 1048576 := by omega
    have HQL := Lib.hid (show a.length ≤ 1048576 by have := HQ.out; omega)
    go_enter Try.func5, Try.ntmps5
    go_wp2_with fail
    refine (HZ.out _ (H.out.grown HG0.out)).mono ?_
    rintro e w1 ⟨⟨r, rfl, hr⟩, hg1⟩
    have HG1 := Lib.hid (HG0.out.trans hg1)
    have HP1 := Lib.hid (HP0.out.grown hg1 (by simp))
    have HR := Lib.hid hr
    clear hg1 hr
    by_cases hneg : r < 0
    · go_wp2_with fail
      go_ret
      exact ⟨rfl, HG1.out⟩
    · have hr0 : 0 ≤ r := by omega
      have hfit := HR.out hr0
      rw [← HN.out, ← HM.out] at hfit
      have HFIT := Lib.hid hfit
      have HFIT2 := Lib.hid (show n + totL LL + m ≤ 1048576 by have := HN.out; have := HM.out; omega)
      have HB2 := Lib.hid (HB.out hfit)
      clear hfit
      have HT := Lib.hid (fun u (hg : w.grownBy u none) => tovq_any _ k LL D u (H.out.grown hg) HFIT.out)
      have HTI := Lib.hid (fun u (hg : w.grownBy u none) => toi_any Aa ca a u (HAA.out.grown hg (by simp)) HQL.out)
      rw [HQ.out] at HTI
      have HEI := Lib.hid (fun A B c d w h h2 => eqi_draws A B c d a w h h2 (Nat.le_trans HQL.out (by decide)))
      rw [HQ.out] at HEI
      have HEA := Lib.hid (fun u v w h h2 => eqv_any u v k LL D w h h2 (Nat.le_trans HFIT.out (by decide)))
      have HE := Lib.hid (fun u v w h h2 => eqv_any u v k2 L2 D2 w h h2 (by have := HB2.out; omega))
      have p0 := HP1.out.c0
      have p1 := HP1.out.c1
      have p2 := HP1.out.c2
      go_wp2_with fail
      refine (HT.out _ HG1.out).mono ?_
      rintro e w2 ⟨u2, rfl, hg2, ho2, hq2⟩
      have HG2 := Lib.hid (HG1.out.trans hg2)
      have HP2 := Lib.hid (HP1.out.grown hg2 (by simp))
      have hl2 := ho2.vct
      obtain ⟨A2, c2, B2, d2, rfl, _⟩ := hq2
      have HO2 := Lib.hid hl2
      rw [HN.out, HM.out] at HO2 ⊢
      clear p0 p1 p2 hg2 ho2 hl2
      go_wp2_with fail
      refine (HTI.out _ HG2.out).mono ?_
      rintro e w3 ⟨rfl, hg3, ho3⟩
      have HG3 := Lib.hid (HG2.out.trans hg3)
      have HP3 := Lib.hid (HP2.out.grown hg3 (by simp))
      have HO3 := Lib.hid (HO2.out.grown hg3)
      have HI3 := Lib.hid (show Ints w3 (some ⟨w2.heap.size, 0, none⟩) a from Ints.of_own (e := 3) (by rw [HQ.out]; exact ho3))
      clear hg3 ho3
      go_wp2_with fail
      refine (HW1.out A2 B2 _ c2 d2 q w3 HO3.out HI3.out HFIT2.out).mono ?_
      rintro e w4 ⟨u4, rfl, hg4, hv4⟩
      obtain ⟨A4, m4, c4, B4, n4, e4, rfl⟩ := vct3P hv4
      have ga := World.grownBy_alloc w4 (.cells #[.int .i64 k2, .slice A4 m4 c4, .slice B4 n4 e4] 34) none
      have HG4 := Lib.hid ((HG3.out.trans hg4).trans ga)
      have HP4 := Lib.hid (HP3.out.grown (hg4.trans ga) (by simp))
      have HV4 := Lib.hid (hv4.grown ga)
      have HX4 := Lib.hid (Tri.new w4 34 (.int .i64 k2) (.slice A4 m4 c4) (.slice B4 n4 e4))
      clear hg4 hv4 ga
      have p0 := HP4.out.c0
      have p1 := HP4.out.c1
      have p2 := HP4.out.c2
      go_wp2_with fail
      generalize w4.alloc (.cells #[.int .i64 k2, .slice A4 m4 c4, .slice B4 n4 e4] 34) = v4 at HG4 HP4 HV4 HX4 p0 p1 p2 ⊢
      refine (HT.out v4 HG4.out).mono ?_
      rintro e w5 ⟨u5, rfl, hg5, ho5, hq5⟩
      have hq5' := hq5
      obtain ⟨A5, c5, B5, d5, rfl, _⟩ := hq5
      rw [HN.out, HM.out] at hq5' ho5 ⊢
      have ga := World.grownBy_alloc w5 (.cells #[.int .i64 k, .slice A5 n c5, .slice B5 m d5] 34) none
      have HG5 := Lib.hid (hg5.trans ga)
      have HP5 := Lib.hid (HP4.out.grown (hg5.trans ga) (by simp))
      have HX45 := Lib.hid (HX4.out.grown (hg5.trans ga) (by simp))
      have HO5 := Lib.hid (ho5.top.grown ga)
      have HQ5 := Lib.hid (hq5'.grown ga)
      have HX5 := Lib.hid (Tri.new w5 34 (.int .i64 k) (.slice A5 n c5) (.slice B5 m d5))
      have HS5 := Lib.hid (sz_alloc w5 (.cells #[.int .i64 k, .slice A5 n c5, .slice B5 m d5] 34))
      have HS45 := Lib.hid hg5.size
      clear p0 p1 p2 hg5 ho5 hq5' ga
      go_wp2_with fail
      generalize w5.alloc (.cells #[.int .i64 k, .slice A5 n c5, .slice B5 m d5] 34) = v5 at HG5 HP5 HX45 HO5 HQ5 HX5 HS5 ⊢
      refine (HTI.out v5 (HG4.out.trans HG5.out)).mono ?_
      rintro e w6 ⟨rfl, hg6, ho6⟩
      have HG6 := Lib.hid (HG5.out.trans hg6)
      have HP6 := Lib.hid (HP5.out.grown hg6 (by simp))
      have HX46 := Lib.hid (HX45.out.grown hg6 (by simp))
      have HO6 := Lib.hid (HO5.out.grown hg6)
      have HQ6 := Lib.hid (HQ5.out.grown hg6)
      have HX6 := Lib.hid (HX5.out.grown hg6 (by simp))
      have HR6 := Lib.hid ho6
      have HI6 := Lib.hid (show Ints w6 (some ⟨v5.heap.size, 0, none⟩) a from Ints.of_own (e := 3) (by rw [HQ.out]; exact ho6))
      have HS6 := Lib.hid ((ho6.lt _ rfl).2)
      clear hg6 ho6
      have p0 := HX6.out.c0
      have p1 := HX6.out.c1
      have p2 := HX6.out.c2
      go_wp2_with fail
      refine (HW2.out A5 B5 _ c5 d5 q w6 HQ6.out HI6.out HFIT2.out hq1).mono ?_
      rintro e w7 ⟨u7, rfl, hg7, ho7⟩
      obtain ⟨A7, m7, c7, B7, n7, e7, rfl⟩ := vct3P ho7.vct
      have ga := World.grownBy_alloc w7 (.cells #[.int .i64 k2, .slice A7 m7 c7, .slice B7 n7 e7] 34) none
      have HG7 := Lib.hid (HG6.out.trans (hg7.trans ga))
      have HP7 := Lib.hid (HP6.out.grown (hg7.trans ga) (by simp))
      have HX47 := Lib.hid (HX46.out.grown (hg7.trans ga) (by simp))
      have HX57 := Lib.hid (HX6.out.grown (hg7.trans ga) (by simp))
      have HO57 := Lib.hid (HO6.out.grown (hg7.trans ga))
      have HR7 := Lib.hid (own_keep HR6.out (fun g hg => (hg7.trans ga).block g (HR6.out.lt g hg).2 (by simp)))
      have HO7 := Lib.hid (ho7.keepP (fun g _ hl => ga.block g hl (by simp)))
      have HX7 := Lib.hid (Tri.new w7 34 (.int .i64 k2) (.slice A7 m7 c7) (.slice B7 n7 e7))
      have HS7 := Lib.hid hg7.size
      clear p0 p1 p2 hg7 ho7 ga
      have p0 := HX47.out.c0
      have p1 := HX47.out.c1
      have p2 := HX47.out.c2
      go_wp2_with fail
      generalize w7.alloc (.cells #[.int .i64 k2, .slice A7 m7 c7, .slice B7 n7 e7] 34) = v7 at HG7 HP7 HX47 HX57 HO57 HR7 HO7 HX7 p0 p1 p2 ⊢
      refine (HE.out _ _ v7 HO7.out.vct (HV4.out.grown HG7.out)).mono ?_
      rintro e w8 ⟨rfl, hg8⟩
      have HB8 := Lib.hid hg8
      clear hg8 p0 p1 p2
      have hbb : (b != b) = false := by simp
      have p0 := (HP7.out.grown HB8.out (by simp)).c0
      have p1 := (HP7.out.grown HB8.out (by simp)).c1
      have p2 := (HP7.out.grown HB8.out (by simp)).c2
      have p3 := (HX57.out.grown HB8.out (by simp)).c0
      have p4 := (HX57.out.grown HB8.out (by simp)).c1
      have p5 := (HX57.out.grown HB8.out (by simp)).c2
      go_wp2_with fail
      go_region_law (first
        | (go_simp
           go_at_call 23
           refine (HT.out _ (HG4.out.trans (HG7.out.trans (HB8.out.trans (gr_drewN w8 _ none))))).mono ?_
           rintro e w9 ⟨u9, rfl, hg9, ho9, hq9⟩
           have HB9 := Lib.hid (HB8.out.trans ((gr_drewN w8 _ none).trans hg9))
           have q3 := (HX57.out.grown HB9.out (by simp)).c0
           have q4 := (HX57.out.grown HB9.out (by simp)).c1
           have q5 := (HX57.out.grown HB9.out (by simp)).c2
           have HE9 := Lib.hid (HEA.out _ _ w9 (HO57.out.grown HB9.out).own.vct ho9.vct)
           clear hg9 ho9 hq9)
        | (go_simp
           go_at_call 16
           refine HE9.out.mono ?_
           rintro e w10 ⟨rfl, hg10⟩
           have HB10 := Lib.hid (HB9.out.trans hg10)
           clear hg10))
      all_goals
        clear p0 p1 p2 p3 p4 p5 q3 q4 q5
        go_wp2_with fail
        refine (HTI.out w10 (HG4.out.trans (HG7.out.trans HB10.out))).mono ?_
        rintro e w11 ⟨rfl, hg11, ho11⟩
        have HB11 := Lib.hid (HB10.out.trans hg11)
        have HE11 := Lib.hid (HEI.out (some ⟨v5.heap.size, 0, none⟩) (some ⟨w10.heap.size, 0, none⟩) q q w11 (Ints.of_own (e := 3) (by rw [HQ.out]; exact own_keep HR7.out (fun g hg => HB11.out.block g (HR7.out.lt g hg).2 (by simp)))) (Ints.of_own (e := 3) (by rw [HQ.out]; exact ho11)))
        clear hg11 ho11
        go_wp2_with fail
        refine HE11.out.mono ?_
        rintro e w12r ⟨rfl, n12, rfl⟩
        have HB12 := Lib.hid (HB11.out.trans (gr_drewN w11 n12 none))
        generalize w11.drewN n12 = w12 at HB12 ⊢
        have HX512 := Lib.hid (HX57.out.grown HB12.out (by simp))
        have HMA := Lib.hid (markvA_any _ k v4.heap.size w5.heap.size LL D w12 (HO57.out.grown HB12.out) (by have := HFIT.out; omega) (by have := HFIT.out; omega))
        obtain ⟨y1, hy1⟩ : ∃ y, 1 + totL LL + D.length = y := ⟨_, rfl⟩
        have hy1b : y1 ≤ 1048577 := by have := HFIT.out; omega
        rw [hy1] at HMA
        have HR12 := Lib.hid (own_keep HR7.out (fun g hg => HB12.out.block g (HR7.out.lt g hg).2 (by simp)))
        have HO12 := Lib.hid (HO7.out.keepP (fun g _ hl => HB12.out.block g hl (by simp)))
        have p0 := HX512.out.c0
        have p1 := HX512.out.c1
        have p2 := HX512.out.c2
        clear hy1
        go_wp2_with fail
        refine HMA.out.mono ?_
        rintro e w13 ⟨rfl, -, hb13, hot13⟩
        have HB413 := Lib.hid (Btw.gr (HG7.out.trans HB12.out) hb13 (Nat.le_refl _))
        have HX713 := Lib.hid (show Tri w13 w7.heap.size 34 (.int .i64 k2) (.slice A7 m7 c7) (.slice B7 n7 e7) from hot13 _ _ _ _ (by decide) (HX7.out.grown HB12.out (by simp)))
        have HX413 := Lib.hid (show Tri w13 w4.heap.size 34 (.int .i64 k2) (.slice A4 m4 c4) (.slice B4 n4 e4) from hot13 _ _ _ _ (by decide) (HX47.out.grown HB12.out (by simp)))
        have HP13 := Lib.hid (show Tri w13 w.heap.size 44 (.int .i64 k) (.slice A n c) (.slice B m d) from hot13 _ _ _ _ (by decide) (HP7.out.grown HB12.out (by simp)))
        have hs5 := HS5.out
        have hs45 := HS45.out
        have hs6 := HS6.out
        have hs7 := HS7.out
        have HR13 := Lib.hid (own_keep HR12.out (fun g hg => hb13.block g (.inr (by cases hg; show w5.heap.size ≤ v5.heap.size; omega)) (HR12.out.lt g hg).2))
        have HO13 := Lib.hid (HO12.out.keepP (fun g hge hl => hb13.block g (.inr (by omega)) hl))
        have HMI := Lib.hid (mark_any (some ⟨v5.heap.size, 0, none⟩) v5.heap.size q y1 q _ w13 HR13.out (by omega) (by omega))
        unfold MarkPost at HMI
        obtain ⟨y2, hy2⟩ : ∃ y, y1 + q = y := ⟨_, rfl⟩
        rw [hy2] at HMI
        have hy2n : ¬ ((y2 : Int) < 0) := by omega
        have hl4 := HX4.out.lt
        have hlw := HP4.out.lt
        have HNE5 := Lib.hid (show w7.heap.size ≠ v5.heap.size ∧ w4.heap.size ≠ v5.heap.size ∧ w.heap.size ≠ v5.heap.size ∧ v5.heap.size < w6.heap.size ∧ v4.heap.size ≤ v5.heap.size by refine ⟨?_, ?_, ?_, ?_, ?_⟩ <;> omega)
        clear hb13 hot13 hs5 hs45 hs6 hs7 hl4 hlw hy2 p0 p1 p2
        go_wp2_with fail
        refine HMI.out.mono ?_
        rintro e w14 ⟨rfl, hg14, -⟩
        have HB414 := Lib.hid (gr_ownF HB413.out hg14 (fun k hk => by cases hk; exact HNE5.out.2.2.2.2))
        have HX714 := Lib.hid (HX713.out.grown hg14 (by have := HNE5.out; simp [Value.ownBlock]; omega))
        have HX414 := Lib.hid (HX413.out.grown hg14 (by have := HNE5.out; simp [Value.ownBlock]; omega))
        have HP14 := Lib.hid (HP13.out.grown hg14 (by have := HNE5.out; simp [Value.ownBlock]; omega))
        have HO14 := Lib.hid (HO13.out.keepP (fun g hge hl => hg14.block g hl (by have := HNE5.out; simp [Value.ownBlock]; omega)))
        clear hg14
        have p0 := HX714.out.c0
        have p1 := HX714.out.c1
        have p2 := HX714.out.c2
        have p3 := HX414.out.c0
        have p4 := HX414.out.c1
        have p5 := HX414.out.c2
        go_wp2_with fail
        refine (HE.out _ _ w14 HO14.out.vct (HV4.out.grown HB414.out)).mono ?_
        rintro e w15 ⟨rfl, hg15⟩
        have HB415 := Lib.hid (HB414.out.trans hg15)
        have HX715 := Lib.hid (HX714.out.grown hg15 (by simp))
        have HX415 := Lib.hid (HX414.out.grown hg15 (by simp))
        have HP15 := Lib.hid (HP14.out.grown hg15 (by simp))
        have HO15 := Lib.hid (HO14.out.keepP (fun g _ hl => hg15.block g hl (by simp)))
        clear hg15 p0 p1 p2 p3 p4 p5
        have p0 := HX715.out.c0
        have p1 := HX715.out.c1
        have p2 := HX715.out.c2
        have HMK := Lib.hid (markv_any _ k2 w6.heap.size L2 D2 w15 HO15.out (by have := HB2.out; omega) (by have := HB2.out; omega))
        have HHD := Lib.hid (fun v w h => heldv_any v k2 1 L2 D2.length w h (by have := HB2.out; omega) (by have := HB2.out; omega))
        obtain ⟨y3, hy3⟩ : ∃ y, 1 + totL L2 + D2.length = y := ⟨_, rfl⟩
        rw [hy3] at HMK HHD
        have hy3n : ¬ ((y3 : Int) < 0) := by omega
        have hyy : ((y3 : Int) != (y3 : Int)) = false := by simp
        clear hy3
        go_wp2_with fail
        refine HMK.out.mono ?_
        rintro e w16 ⟨rfl, hn16, hg16, ho16⟩
        have HB416 := Lib.hid (hg16 v4 HB415.out (by have := HNE5.out; omega))
        have HX716 := Lib.hid (show Tri w16 w7.heap.size 34 (.int .i64 k2) (.slice A7 m7 c7) (.slice B7 n7 e7) from ho16 _ _ _ _ (by decide) HX715.out)
        have HX416 := Lib.hid (show Tri w16 w4.heap.size 34 (.int .i64 k2) (.slice A4 m4 c4) (.slice B4 n4 e4) from ho16 _ _ _ _ (by decide) HX415.out)
        have HP16 := Lib.hid (show Tri w16 w.heap.size 44 (.int .i64 k) (.slice A n c) (.slice B m d) from ho16 _ _ _ _ (by decide) HP15.out)
        have HN16 := Lib.hid hn16
        clear hn16 hg16 ho16 p0 p1 p2
        have p0 := HX716.out.c0
        have p1 := HX716.out.c1
        have p2 := HX716.out.c2
        go_wp2_with fail
        refine (HHD.out _ w16 HN16.out).mono ?_
        rintro e w17 ⟨rfl, hg17⟩
        have HB417 := Lib.hid (HB416.out.trans hg17)
        have HX717 := Lib.hid (HX716.out.grown hg17 (by simp))
        have HX417 := Lib.hid (HX416.out.grown hg17 (by simp))
        have HP17 := Lib.hid (HP16.out.grown hg17 (by simp))
        have HN17 := Lib.hid (show numVct w17 _ k2 1 L2 D2.length from Vct.grown HN16.out hg17)
        clear hg17 p0 p1 p2
        have p0 := HP17.out.c0
        have p1 := HP17.out.c1
        have p2 := HP17.out.c2
        go_wp2_with fail
        refine (HT.out w17 (HG4.out.trans HB417.out)).mono ?_
        rintro e w18 ⟨u18, rfl, hg18, -, hq18⟩
        have hq18' := hq18
        obtain ⟨A8, c8, B8, d8, rfl, _⟩ := hq18
        rw [HN.out, HM.out] at hq18' ⊢
        have HB18 := Lib.hid hg18
        have HQ18 := Lib.hid hq18'
        clear hg18 hq18' p0 p1 p2
        go_wp2_with fail
        refine (HTI.out w18 (HG4.out.trans (HB417.out.trans HB18.out))).mono ?_
        rintro e w19 ⟨rfl, hg19, ho19⟩
        have HB19 := Lib.hid (HB18.out.trans hg19)
        have HQ19 := Lib.hid (HQ18.out.grown hg19)
        have HI19 := Lib.hid (show Ints w19 (some ⟨w18.heap.size, 0, none⟩) a from Ints.of_own (e := 3) (by rw [HQ.out]; exact ho19))
        clear hg19 ho19
        go_wp2_with fail
        refine (HW2.out A8 B8 _ c8 d8 q w19 HQ19.out HI19.out HFIT2.out hq1).mono ?_
        rintro e w20 ⟨u20, rfl, hg20, ho20⟩
        obtain ⟨A9, m9, c9, B9, n9, e9, rfl⟩ := vct3P ho20.vct
        have ga := World.grownBy_alloc w20 (.cells #[.int .i64 k2, .slice A9 m9 c9, .slice B9 n9 e9] 34) none
        have HB20 := Lib.hid (HB19.out.trans (hg20.trans ga))
        have HV20 := Lib.hid (ho20.vct.grown ga)
        clear hg20 ho20 ga
        have p0 := (HX417.out.grown HB20.out (by simp)).c0
        have p1 := (HX417.out.grown HB20.out (by simp)).c1
        have p2 := (HX417.out.grown HB20.out (by simp)).c2
        go_wp2_with fail
        generalize w20.alloc (.cells #[.int .i64 k2, .slice A9 m9 c9, .slice B9 n9 e9] 34) = v20 at HB20 HV20 p0 p1 p2 ⊢
        refine (HE.out _ _ v20 HV20.out (HV4.out.grown (HB417.out.trans HB20.out))).mono ?_
        rintro e w21 ⟨rfl, hg21⟩
        have HB21 := Lib.hid (HB20.out.trans hg21)
        clear hg21 p0 p1 p2
        have p0 := (HX717.out.grown HB21.out (by simp)).c0
        have p1 := (HX717.out.grown HB21.out (by simp)).c1
        have p2 := (HX717.out.grown HB21.out (by simp)).c2
        go_wp2_with fail
        refine (HHD.out _ w21 (show numVct w21 _ k2 1 L2 D2.length from Vct.grown HN17.out HB21.out)).mono ?_
        rintro e w22 ⟨rfl, hg22⟩
        have HB22 := Lib.hid (HB21.out.trans hg22)
        clear hg22 p0 p1 p2
        go_wp2_with fail
        go_ret
        exact ⟨rfl, HG4.out.trans (HB417.out.trans HB22.out)⟩

set_option maxRecDepth 100000 in
theorem pickv_lifted (os : Os) (started : os.Started) (H : Type) (enc : TypeId × Value → H) :
    ReturnsInHanded {} Try.checked os 5 .any (Rows.fnExactPickVectorSpec.pre6 enc Try.prog Try.f5 Rows.fnExactPickVectorRow.domain false) (Rows.fnExactPickVectorSpec.post enc Try.prog Try.f5 false true false false) := by
  refine returnsInHanded_of_change (C := Try.checked) knob_own started (by kernel_rfl) Try.func5
    (ChangeSpec.witness6 (enc := enc) (C := Try.checked) false ⟨#[], #[.agg #[.int .i64 0, .slice none 0 0, .slice none 0 0], .slice none 0 0], []⟩ 8 (by kernel_rfl) (by kernel_rfl) (by kernel_rfl) (by kernel_rfl)) ?_
  intro W base args ds gs before hval0 hW hcnd _
  have hval : ∀ (j : Nat) t v, Try.f5.params[j]? = some t → args[j]? = some v → Value.okWide Try.prog W .any base t v := hval0
  have hW' := hW
  obtain ⟨p, q, hA0, hV, rfl, hfz, hnd⟩ := hW
  have hA : DataW.TrodAll enc Try.prog W 0 (fun _ => true) true Try.f5.params.toList args.toList ds p := hA0
  rw [Try.params5] at hA hval
  obtain ⟨v0, v1, d0, d1, p0, p1, rfl, rfl, rfl, h0, h1⟩ := trodAll_two hA
  obtain ⟨rfl, rfl⟩ := trodVars_none hV
  obtain ⟨k, LL, D, hl, -, hn, hsz, hd, _⟩ := open_vector (hval 0 44 v0 rfl rfl) h0
  obtain ⟨E0, len, cap, rfl⟩ := okWide_slice Try.underlying23 (hval 1 23 v1 rfl rfl)
  have h1' := h1
  obtain ⟨fuel, h1'⟩ := h1'
  simp only [Value.cells] at h1'
  obtain ⟨E, f, path, hv1, _, _, hp, _⟩ := open_listarg h1'
  cases hv1
  clear hA0 hval0
  simp only [List.append_nil] at hW'
  have hlt : ∀ x ∈ p0 ++ p1, x.block < W.heap.size := fun x hx => by simpa using hW'.lt x hx
  refine (law_pickv v0 E0 cap k LL D path W hl hp hn hsz hd).mono fun e W' ⟨he, hg⟩ => ?_
  subst he
  refine ⟨_, rfl, _, _, _, [], p0 ++ p1, [], hW', ?_, ?_, rfl, (below_of hg).frame _, fun h => by cases h⟩
  · exact trodAll_mk1 (shut_bool Try.underlying4 _)
  · exact trodAll_mk2 (Below.trod laid_out (by kernel_rfl) (of_decide_eq_true (by kernel_rfl)) h0 (below_of hg) (fun x hx => hlt x (List.mem_append_left _ hx))) (Below.trod laid_out (by kernel_rfl) (of_decide_eq_true (by kernel_rfl)) h1 (below_of hg) (fun x hx => hlt x (List.mem_append_right _ hx)))

theorem pickv_holds : Rows.FnExactPickVectorSaid :=
  OpenClaim.holds_of_wide 5 Try.f5 rfl rfl rfl rfl rfl rfl rfl ⟨rfl, rfl, rfl, rfl, rfl⟩ rfl rfl rfl rfl rfl (by kernel_rfl) Try.func5 (by kernel_rfl)
    (of_decide_eq_true (by kernel_rfl)) (by unfold Func.isWrapper; first | (rw [if_pos (by decide +kernel)]; kernel_rfl) | (rw [if_neg (by decide +kernel)]; exact ⟨rfl, rfl⟩))
    (fun os started H enc _ => pickv_lifted os started H enc)

#print axioms pickv_holds
end

end Go.Proofs.Ytdfanconjiiceaa
