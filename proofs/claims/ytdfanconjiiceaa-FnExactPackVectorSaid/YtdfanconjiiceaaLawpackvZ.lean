/- 1 texts in one: Lawpackv. -/
import Derived.Test.YtdfanconjiiceaaZVP
import Derived.Test.YtdfanconjiiceaaZVM
import Derived.Test.YtdfanconjiiceaaStrM
import Derived.Test.YtdfanconjiiceaaLytArg
import Derived.SizedLaws
namespace Go.Proofs.Ytdfanconjiiceaa
/- Lawpackv -/
section
open Go.ChangeShapes Go.WideShapes Go.ChangeAt Go.RowKit

theorem vct3 {w : World} {v : Value} {k : Int} {LL : List (List Int)} {D : List Int} (h : Vct w v k LL D) : ∃ A m c B n e, v = .agg #[.int .i64 k, .slice A m c, .slice B n e] := by
  obtain ⟨A, c, B, d, hv, _⟩ := h
  exact ⟨_, _, _, _, _, _, hv⟩
theorem tri_box {w w' : World} {g0 g n : Nat} {x y z : Value} (hp : Tri w g0 34 x y z) (hr : RowS w g n) (hg : w.grownBy w' (some g)) : Tri w' g0 34 x y z :=
  hp.grown hg (fun e => by
    cases e
    obtain ⟨cur, h1, _⟩ := hr
    unfold Tri at hp
    rw [h1] at hp
    cases hp)
theorem OwnVct.grown {w w' : World} {base : Nat} {v : Value} {n : Int} {LL : List (List Int)} {D : List Int} (h : OwnVct w base v n LL D) (hg : w.grownBy w' none) : OwnVct w' base v n LL D :=
  h.kept (fun _ hu => hu.keep (fun g _ h2 => hg.block g h2 (by simp)))

set_option maxRecDepth 100000 in
set_option maxHeartbeats 4000000 in
theorem law_packv (A : Option Addr) (c : Nat) (n : Int) (ss : List ByteArray) (w : World) (h : Strs w A ss) (hn : ss.length ≤ 9223372036854775807) (hsz : ∀ s ∈ ss, s.size ≤ 9223372036854775807) :
    Calls Try.prog 4 #[.slice A ss.length c, .int .i64 n] w fun e w' => e = .returned (.bool true) ∧ w.grownBy w' none := by
  have HZ := Lib.hid (sz_any A c 1048576 ss w h (Nat.le_refl _) hn hsz)
  have HS := Lib.hid h
  obtain ⟨N, hN⟩ : ∃ N, ss.length = N := ⟨_, rfl⟩
  have HN := Lib.hid hN
  rw [hN] at HZ ⊢
  clear h hn hsz hN
  go_enter Try.func4, Try.ntmps4
  go_wp2_with fail
  refine HZ.out.mono ?_
  rintro e w1 ⟨⟨r, rfl, hr⟩, rfl⟩
  have HR := Lib.hid hr
  clear hr
  by_cases hneg : r < 0
  · go_wp2_with fail
    go_ret
    exact ⟨rfl, gr_refl _ _⟩
  · have hr0 : 0 ≤ r := by omega
    have hfit := HR.out hr0
    have hlen : ss.length ≤ 1048576 := by omega
    have hNl : N ≤ 1048576 := by have := HN.out; omega
    have HLEN := Lib.hid hlen
    obtain ⟨k, LL, D, b, hb, h1, h2⟩ := both_packv ss n hlen
    have H1 := Lib.hid (fun A c w h => h1 A c w h)
    have H2 := Lib.hid (fun A c w h => h2 A c w h)
    rw [HN.out] at H1 H2
    have HE := Lib.hid (fun u v w h h2 => eqv_any u v k LL D w h h2 (by omega))
    have HMK := Lib.hid (fun v base w h => markv_any v k base LL D w h (by omega) (by omega))
    have HHD := Lib.hid (fun v w h => heldv_any v k 1 LL D.length w h (by omega) (by omega))
    obtain ⟨y, hy⟩ : ∃ y, 1 + totL LL + D.length = y := ⟨_, rfl⟩
    have hy1 : y ≤ 1048576 := by omega
    rw [hy] at HMK HHD
    have HT := Lib.hid (fun u (hg : w.grownBy u none) => toR_any A c ss u (HS.out.grown hg) HLEN.out)
    unfold ToPostR at HT
    rw [HN.out] at HT
    have hyneg : ¬ ((y : Int) < 0) := by omega
    have hyy : ((y : Int) != (y : Int)) = false := by simp
    have hbb : (b != b) = false := by simp
    clear hfit hlen hb h1 h2 hy hr0
    go_wp2_with fail
    refine (HT.out w (gr_refl _ _)).mono ?_
    rintro e w1 ⟨rfl, hg1, hs1, -⟩
    have HG1 := Lib.hid hg1
    have HS1 := Lib.hid hs1
    clear hg1 hs1
    go_wp2_with fail
    refine (H1.out _ _ w1 HS1.out).mono ?_
    rintro e w2 ⟨u2, rfl, hg2, hv2⟩
    obtain ⟨A2, m2, c2, B2, n2, e2, rfl⟩ := vct3 hv2
    have ga := World.grownBy_alloc w2 (.cells #[.int .i64 k, .slice A2 m2 c2, .slice B2 n2 e2] 34) none
    have HG2 := Lib.hid ((HG1.out.trans hg2).trans ga)
    have HV2 := Lib.hid (hv2.grown ga)
    have HX2 := Lib.hid (Tri.new w2 34 (.int .i64 k) (.slice A2 m2 c2) (.slice B2 n2 e2))
    clear hg2 hv2 ga
    go_wp2_with fail
    generalize w2.alloc (.cells #[.int .i64 k, .slice A2 m2 c2, .slice B2 n2 e2] 34) = v2 at HG2 HV2 HX2 ⊢
    refine (HT.out v2 HG2.out).mono ?_
    rintro e w3 ⟨rfl, hg3, hs3, hr3⟩
    have HG3 := Lib.hid hg3
    have HS3 := Lib.hid hs3
    have HR3 := Lib.hid hr3.s
    obtain ⟨g3, hg3e⟩ : ∃ g3, v2.heap.size = g3 := ⟨_, rfl⟩
    have HGE := Lib.hid hg3e
    rw [hg3e] at HS3 HR3 ⊢
    clear hg3 hs3 hr3 hg3e
    go_wp2_with fail
    refine (H2.out _ _ w3 HS3.out).mono ?_
    rintro e w4 ⟨u4, rfl, hg4, ho4⟩
    obtain ⟨A4, m4, c4, B4, n4, e4, rfl⟩ := vct3 ho4.vct
    have ga := World.grownBy_alloc w4 (.cells #[.int .i64 k, .slice A4 m4 c4, .slice B4 n4 e4] 34) none
    -- from v2 on
    have HG4 := Lib.hid ((HG3.out.trans hg4).trans ga)
    have HS4 := Lib.hid (HS3.out.grown (hg4.trans ga))
    have HR4 := Lib.hid (HR3.out.grown (hg4.trans ga))
    have HO4 := Lib.hid (ho4.grown ga)
    have HX4 := Lib.hid (Tri.new w4 34 (.int .i64 k) (.slice A4 m4 c4) (.slice B4 n4 e4))
    have HX24 := Lib.hid (HX2.out.grown HG4.out (by simp))
    have HLT := Lib.hid (show g3 < w3.heap.size by obtain ⟨cur, h1, _⟩ := HR3.out; exact (Array.getElem?_eq_some_iff.1 h1).1)
    clear hg4 ho4 ga
    have p0 := HX24.out.c0
    have p1 := HX24.out.c1
    have p2 := HX24.out.c2
    go_wp2_with fail
    generalize w4.alloc (.cells #[.int .i64 k, .slice A4 m4 c4, .slice B4 n4 e4] 34) = v4 at HG4 HS4 HR4 HO4 HX4 HX24 p0 p1 p2 ⊢
    refine (HE.out _ _ v4 HO4.out.vct (HV2.out.grown HG4.out)).mono ?_
    rintro e w5 ⟨rfl, hg5⟩
    have HG5 := Lib.hid (HG4.out.trans hg5)
    have HS5 := Lib.hid (HS4.out.grown hg5)
    have HR5 := Lib.hid (HR4.out.grown hg5)
    have HO5 := Lib.hid (HO4.out.grown hg5)
    have HX5 := Lib.hid (HX4.out.grown hg5 (by simp))
    have HX25 := Lib.hid (HX24.out.grown hg5 (by simp))
    clear hg5 p0 p1 p2
    go_wp2_with fail
    refine (HT.out w5 (HG2.out.trans HG5.out)).mono ?_
    rintro e w6 ⟨rfl, hg6, hs6, -⟩
    have HG6 := Lib.hid (HG5.out.trans hg6)
    have HS6 := Lib.hid (HS5.out.grown hg6)
    have HR6 := Lib.hid (HR5.out.grown hg6)
    have HO6 := Lib.hid (HO5.out.grown hg6)
    have HX6 := Lib.hid (HX5.out.grown hg6 (by simp))
    have HX26 := Lib.hid (HX25.out.grown hg6 (by simp))
    have HEQ := Lib.hid (eq_any (some ⟨g3, 0, none⟩) (some ⟨w5.heap.size, 0, none⟩) ss.length ss.length ss w6 HS6.out hs6 HLEN.out)
    rw [HN.out] at HEQ
    clear hg6 hs6
    go_wp2_with fail
    refine HEQ.out.mono ?_
    rintro e w7 ⟨rfl, hg7⟩
    have HG7 := Lib.hid (HG6.out.trans hg7)
    have HR7 := Lib.hid (HR6.out.grown hg7)
    have HO7 := Lib.hid (HO6.out.grown hg7)
    have HX7 := Lib.hid (HX6.out.grown hg7 (by simp))
    have HX27 := Lib.hid (HX26.out.grown hg7 (by simp))
    have HMS := Lib.hid (markS_any g3 N N 1 w7 HR7.out (Nat.le_refl _) (by omega))
    clear hg7
    obtain ⟨q, hq⟩ : ∃ q, 1 + N = q := ⟨_, rfl⟩
    rw [hq] at HMS
    have hqn : ¬ ((q : Int) < 0) := by omega
    clear hq
    go_wp2_with fail
    refine HMS.out.mono ?_
    rintro e w8 ⟨rfl, hg8⟩
    have HG8 := Lib.hid (gr_ownF HG7.out hg8 (fun k hk => by cases hk; have := HGE.out; omega))
    have HO8 := Lib.hid (show OwnVct w8 w3.heap.size _ k LL D from HO7.out.kept (fun _ hu => hu.keep (fun g hb h2 => hg8.block g h2 (by have := HLT.out; simp; omega))))
    have HX8 := Lib.hid (tri_box HX7.out HR7.out hg8)
    have HX28 := Lib.hid (tri_box HX27.out HR7.out hg8)
    clear hg8
    have p0 := HX28.out.c0
    have p1 := HX28.out.c1
    have p2 := HX28.out.c2
    have p3 := HX8.out.c0
    have p4 := HX8.out.c1
    have p5 := HX8.out.c2
    go_wp2_with fail
    refine (HE.out _ _ w8 HO8.out.vct (HV2.out.grown HG8.out)).mono ?_
    rintro e w9 ⟨rfl, hg9⟩
    have HG9 := Lib.hid (HG8.out.trans hg9)
    have HO9 := Lib.hid (HO8.out.grown hg9)
    have HX9 := Lib.hid (HX8.out.grown hg9 (by simp))
    have HX29 := Lib.hid (HX28.out.grown hg9 (by simp))
    clear hg9 p0 p1 p2 p3 p4 p5
    have p0 := HX9.out.c0
    have p1 := HX9.out.c1
    have p2 := HX9.out.c2
    go_wp2_with fail
    refine (HMK.out _ _ w9 HO9.out).mono ?_
    rintro e w10 ⟨rfl, hn10, hg10, ho10⟩
    have HG10 := Lib.hid (hg10 v2 HG9.out HG3.out.size)
    have HX10 := Lib.hid (show Tri w10 w4.heap.size 34 (.int .i64 k) (.slice A4 m4 c4) (.slice B4 n4 e4) from ho10 _ _ _ _ (by decide) HX9.out)
    have HX210 := Lib.hid (show Tri w10 w2.heap.size 34 (.int .i64 k) (.slice A2 m2 c2) (.slice B2 n2 e2) from ho10 _ _ _ _ (by decide) HX29.out)
    have HN10 := Lib.hid hn10
    clear hn10 hg10 ho10 p0 p1 p2
    have p0 := HX10.out.c0
    have p1 := HX10.out.c1
    have p2 := HX10.out.c2
    go_wp2_with fail
    refine (HHD.out _ w10 HN10.out).mono ?_
    rintro e w11 ⟨rfl, hg11⟩
    have HG11 := Lib.hid (HG10.out.trans hg11)
    have HX11 := Lib.hid (HX10.out.grown hg11 (by simp))
    have HX211 := Lib.hid (HX210.out.grown hg11 (by simp))
    have HN11 := Lib.hid (show numVct w11 _ k 1 LL D.length from Vct.grown HN10.out hg11)
    clear hg11 p0 p1 p2
    go_wp2_with fail
    refine (HT.out w11 (HG2.out.trans HG11.out)).mono ?_
    rintro e w12 ⟨rfl, hg12, hs12, -⟩
    have HG12 := Lib.hid (HG11.out.trans hg12)
    have HX12 := Lib.hid (HX11.out.grown hg12 (by simp))
    have HX212 := Lib.hid (HX211.out.grown hg12 (by simp))
    have HN12 := Lib.hid (show numVct w12 _ k 1 LL D.length from Vct.grown HN11.out hg12)
    have HS12 := Lib.hid hs12
    clear hg12 hs12
    go_wp2_with fail
    refine (H2.out _ _ w12 HS12.out).mono ?_
    rintro e w13 ⟨u13, rfl, hg13, ho13⟩
    obtain ⟨A6, m6, c6, B6, n6, e6, rfl⟩ := vct3 ho13.vct
    have ga := World.grownBy_alloc w13 (.cells #[.int .i64 k, .slice A6 m6 c6, .slice B6 n6 e6] 34) none
    have HG13 := Lib.hid (HG12.out.trans (hg13.trans ga))
    have HO13 := Lib.hid (ho13.grown ga)
    have HX13 := Lib.hid (HX12.out.grown (hg13.trans ga) (by simp))
    have HX213 := Lib.hid (HX212.out.grown (hg13.trans ga) (by simp))
    have HN13 := Lib.hid (show numVct _ _ k 1 LL D.length from Vct.grown HN12.out (hg13.trans ga))
    clear hg13 ho13 ga
    have p0 := HX213.out.c0
    have p1 := HX213.out.c1
    have p2 := HX213.out.c2
    go_wp2_with fail
    generalize w13.alloc (.cells #[.int .i64 k, .slice A6 m6 c6, .slice B6 n6 e6] 34) = v13 at HG13 HO13 HX13 HX213 HN13 p0 p1 p2 ⊢
    refine (HE.out _ _ v13 HO13.out.vct (HV2.out.grown HG13.out)).mono ?_
    rintro e w14 ⟨rfl, hg14⟩
    have HG14 := Lib.hid (HG13.out.trans hg14)
    have HX14 := Lib.hid (HX13.out.grown hg14 (by simp))
    have HN14 := Lib.hid (show numVct w14 _ k 1 LL D.length from Vct.grown HN13.out hg14)
    clear hg14 p0 p1 p2
    have p0 := HX14.out.c0
    have p1 := HX14.out.c1
    have p2 := HX14.out.c2
    go_wp2_with fail
    refine (HHD.out _ w14 HN14.out).mono ?_
    rintro e w15 ⟨rfl, hg15⟩
    have HG15 := Lib.hid (HG2.out.trans (HG14.out.trans hg15))
    clear hg15 p0 p1 p2
    go_wp2_with fail
    go_ret
    exact ⟨rfl, HG15.out⟩

theorem cellsS : Try.prog.cellsOf 9 = 1 := by kernel_rfl
theorem add_flat (b off i : Nat) : (⟨b, off, none⟩ : Addr).add i = ⟨b, off + i, none⟩ := by unfold Addr.add; split <;> simp_all

set_option maxRecDepth 100000 in
theorem packv_lifted (os : Os) (started : os.Started) (H : Type) (enc : TypeId × Value → H) :
    ReturnsInHanded {} Try.checked os 4 .any (Rows.fnExactPackVectorSpec.pre6 enc Try.prog Try.f4 Rows.fnExactPackVectorRow.domain false) (Rows.fnExactPackVectorSpec.post enc Try.prog Try.f4 false true false false) := by
  refine returnsInHanded_of_change (C := Try.checked) knob_own started (by kernel_rfl) Try.func4
    (ChangeSpec.witness6 (enc := enc) (C := Try.checked) false ⟨#[], #[.slice none 0 0, .int .i64 0], []⟩ 8 (by kernel_rfl) (by kernel_rfl) (by kernel_rfl) (by kernel_rfl)) ?_
  intro W base args ds gs before hval0 hW hcnd _
  have hval : ∀ (j : Nat) t v, Try.f4.params[j]? = some t → args[j]? = some v → Value.okWide Try.prog W .any base t v := hval0
  have hW' := hW
  obtain ⟨p, q, hA0, hV, rfl, hfz, hnd⟩ := hW
  have hA : DataW.TrodAll enc Try.prog W 0 (fun _ => true) true Try.f4.params.toList args.toList ds p := hA0
  rw [Try.params4] at hA hval
  obtain ⟨v0, v1, d0, d1, p0, p1, rfl, rfl, rfl, h0, h1⟩ := trodAll_two hA
  obtain ⟨rfl, rfl⟩ := trodVars_none hV
  obtain ⟨a0, len, cap, rfl⟩ := okWide_slice Try.underlying31 (hval 0 31 v0 rfl rfl)
  obtain ⟨n, rfl, rfl, rfl, wn⟩ := open_int Try.underlying3 (hval 1 3 v1 rfl rfl) h1
  have h0k := h0
  obtain ⟨fuel, hf⟩ := h0
  clear hA0 hval0
  simp only [List.append_nil] at hW'
  have hlt : ∀ x ∈ p0, x.block < W.heap.size := fun x hx => by simpa using hW'.lt x hx
  have fin : ∀ e W', (e = Ending.returned (.bool true) ∧ W.grownBy W' none) → ∃ v, e = Ending.returned v ∧ Rows.fnExactPackVectorSpec.post enc Try.checked.prog Try.f4 false true false false W #[.slice a0 len cap, .int .i64 n] v W' := by
    intro e W' ⟨he, hg⟩
    subst he
    refine ⟨_, rfl, _, _, _, [], p0, [], hW', ?_, ?_, rfl, (below_of hg).frame _, fun h => by cases h⟩
    · exact trodAll_mk1 (shut_bool Try.underlying4 _)
    · have := trodAll_mk2 (Below.trod laid_out (by kernel_rfl) (of_decide_eq_true (by kernel_rfl)) h0k (below_of hg) hlt) (shut_int (spare := fun b => decide (b < W.heap.size)) (held := true) Try.underlying3 wn)
      rw [List.append_nil] at this
      exact this
  rcases open_strings Try.underlying31 Try.underlying9 cellsS hf with ⟨hcs, hx⟩ | ⟨a, len', cap', ss, hcs, _, hl, hm, hz, hx, hcell, hws⟩
  · simp [Value.cells] at hcs
    obtain ⟨rfl, rfl, rfl⟩ := hcs
    exact (law_packv none 0 n [] W (fun h => by simp at h) (by simp) (by simp)).mono fin
  · simp [Value.cells] at hcs
    obtain ⟨rfl, rfl, rfl⟩ := hcs
    simp only [if_true] at hz
    have hle : (ss.take len).length = len := by rw [List.length_take]; omega
    have hS : Strs W (some a) (ss.take len) := by
      intro hpos
      obtain ⟨b, off, spot⟩ := a
      have hspot : spot = none := by simpa [Addr.add] using World.cell?_spot (hcell 0 (by omega))
      subst hspot
      have hc0 := hcell 0 (by omega)
      rw [add_flat] at hc0
      refine ⟨b, off, rfl, World.block_lt_of_cell? W _ hc0, fun j s hj => ?_⟩
      have hjl : j < len := by
        rcases Nat.lt_or_ge j (ss.take len).length with h | h
        · omega
        · rw [List.getElem?_eq_none h] at hj; cases hj
      rw [List.getElem?_take, if_pos hjl] at hj
      have := hcell j (by omega)
      rw [add_flat] at this
      rw [this]
      simp [List.getD, hj]
    have hw := law_packv (some a) cap n (ss.take len) W hS (by unfold maxLen at hm; omega) (fun s hs => by have := hws s (List.mem_of_mem_take hs); unfold maxLen at this; omega)
    rw [hle] at hw
    exact hw.mono fin

theorem packv_holds : Rows.FnExactPackVectorSaid :=
  OpenClaim.holds_of_wide 4 Try.f4 rfl rfl rfl rfl rfl rfl rfl ⟨rfl, rfl, rfl, rfl, rfl⟩ rfl rfl rfl rfl rfl (by kernel_rfl) Try.func4 (by kernel_rfl)
    (of_decide_eq_true (by kernel_rfl)) (by unfold Func.isWrapper; first | (rw [if_pos (by decide +kernel)]; kernel_rfl) | (rw [if_neg (by decide +kernel)]; exact ⟨rfl, rfl⟩))
    (fun os started H enc _ => packv_lifted os started H enc)

#print axioms packv_holds
end

end Go.Proofs.Ytdfanconjiiceaa
