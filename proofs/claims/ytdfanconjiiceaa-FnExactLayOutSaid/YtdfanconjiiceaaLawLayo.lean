/- The law on LayOut: for every text and every depth both functions answer alike, the answer owns its memory, and the arguments read as they did. No condition. -/
import Derived.Test.YtdfanconjiiceaaLytL
import Derived.Test.YtdfanconjiiceaaRawLay
import Derived.Test.YtdfanconjiiceaaMarkH
import Derived.Test.YtdfanconjiiceaaLytArg
namespace Go.Proofs.Ytdfanconjiiceaa
open Go.ChangeShapes Go.WideShapes Go.ChangeAt Go.RowKit
open Go.ChangeMaps (open_string shut_string)

theorem totL_le {B : Nat} : ∀ {LL : List (List Int)}, (∀ M ∈ LL, M.length ≤ B) → totL LL ≤ LL.length * B
  | [], _ => by simp [totL]
  | L :: LL, h => by
    have h1 := h L (by simp)
    have h2 := totL_le (LL := LL) (fun M hM => h M (by simp [hM]))
    simp only [totL, List.length_cons]
    rw [Nat.add_mul]
    omega
theorem OwnLyt.grown {w w' : World} {base : Nat} {u : Value} {LL : List (List Int)} {D : List Int} (h : OwnLyt w base u LL D) (hg : w.grownBy w' none) : OwnLyt w' base u LL D := by
  obtain ⟨A, c, d, vs, rfl, hc, ho, hf⟩ := h
  exact ⟨A, c, d, vs, rfl, hc, own_keep ho (fun g hb => hg.block g (ho.lt g hb).2 (by simp)), hf.grown hg⟩
theorem OwnLyt.zero (w : World) (base : Nat) : OwnLyt w base (.agg #[.slice none 0 0, .slice none 0 0]) [] [] := by
  refine ⟨none, 0, .slice none 0 0, [], rfl, Nat.le_refl _, World.ownsRow_nil _ _ _ _, fun i L hi hL => ?_, fun i i' v u L L' g hi hi' hne => ?_⟩
  · have h0 : i = 0 := by simpa using hi
    subst h0
    simp at hL
    subst hL
    exact ⟨_, rfl, none, 0, rfl, Nat.le_refl _, fun h => by simp at h⟩
  · simp at hi hi'
    omega

/-- Both answers at once. -/
theorem both_lay (s : ByteArray) (n : Int) : ∃ (LL : List (List Int)) (D : List Int) (b : Bool), LL.length + totL LL + D.length ≤ 10000 ∧
    (∀ w, Calls Try.prog 7 #[.string s, .int .i64 n] w fun e w' => ∃ u, e = .returned (.tuple #[u, .bool b]) ∧ w.grownBy w' none ∧ Lyt w' u LL D) ∧
    (∀ w, Calls Try.prog 8 #[.string s, .int .i64 n] w fun e w' => ∃ u, e = .returned (.tuple #[u, .bool b]) ∧ w.grownBy w' none ∧ OwnLyt w' w.heap.size u LL D) := by
  cases hb : isArr s n with
  | false =>
    refine ⟨[], [], false, by simp [totL], fun w => (slayout_any s n w).mono ?_, fun w => (layout_impl s n w).mono ?_⟩
    · rintro e w' ⟨hg, ⟨_, u, rfl, hl⟩ | ⟨h, _⟩⟩
      · exact ⟨u, rfl, hg, hl⟩
      · rw [hb] at h; cases h
    · rintro e w' (⟨_, rfl, hg⟩ | ⟨h, _⟩)
      · exact ⟨_, rfl, hg, OwnLyt.zero _ _⟩
      · rw [hb] at h; cases h
  | true =>
    have h0 : 0 ≤ n ∧ n ≤ 3 ∧ s.size ≤ 400 := by
      have := hb
      unfold isArr at this
      simp only [Bool.and_eq_true, decide_eq_true_eq] at this
      exact this.1
    obtain ⟨t, ht⟩ : ∃ t, readN s n.toNat = some t := by
      have := hb
      unfold isArr at this
      simp only [Bool.and_eq_true] at this
      exact Option.isSome_iff_exists.1 this.2
    have hx : txs n.toNat [t] ≤ 400 := by
      simp only [txs, Nat.add_zero]
      rw [← readN_text ht, Array.length_toList]
      have : s.data.size = s.size := rfl
      omega
    refine ⟨lv n.toNat [t], dat n.toNat [t], true, ?_, fun w => (slayout_any s n w).mono ?_, fun w => (layout_impl s n w).mono ?_⟩
    · have h1 := totL_le (B := 400) (LL := lv n.toNat [t]) (fun M hM => Nat.le_trans (lv_txs _ _ M hM) hx)
      have h2 := dat_txs n.toNat [t]
      rw [lv_len] at h1 ⊢
      have h3 : n.toNat ≤ 3 := by omega
      have h4 : n.toNat * 400 ≤ 1200 := by omega
      omega
    · rintro e w' ⟨hg, ⟨h, _⟩ | ⟨_, t', u, ht', rfl, hl⟩⟩
      · rw [hb] at h; cases h
      · rw [ht] at ht'; cases ht'
        exact ⟨u, rfl, hg, hl⟩
    · rintro e w' (⟨h, _⟩ | ⟨_, t', u, ht', rfl, hg, hl⟩)
      · rw [hb] at h; cases h
      · rw [ht] at ht'; cases ht'
        exact ⟨u, rfl, hg, hl⟩

set_option maxHeartbeats 2000000 in
theorem law_layo (s : ByteArray) (n : Int) (w : World) :
    Calls Try.prog 3 #[.string s, .int .i64 n] w fun e w' => e = .returned (.bool true) ∧ w.grownBy w' none := by
  obtain ⟨LL, D, b, hz, H1, H2⟩ := both_lay s n
  have HE := Lib.hid (fun u v w h h2 => eql_any u v LL D w h h2 (by omega))
  have HMK := Lib.hid (fun v base w h => markl_any v base LL D w h (by omega) (by omega))
  have HHD := Lib.hid (fun v w h => heldl_any v 1 LL D.length w h (by omega) (by omega))
  obtain ⟨y, hy⟩ : ∃ y, 1 + totL LL + D.length = y := ⟨_, rfl⟩
  have hy1 : y ≤ 1048576 := by omega
  rw [hy] at HMK HHD
  obtain ⟨na, hna⟩ : ∃ na, LL.length = na := ⟨_, rfl⟩
  obtain ⟨nd', hnd⟩ : ∃ nd', D.length = nd' := ⟨_, rfl⟩
  have HNA := Lib.hid hna
  have HND := Lib.hid hnd
  have H1 := Lib.hid H1
  have H2 := Lib.hid H2
  clear hz hy hna hnd
  by_cases hs : 1048576 < s.size
  · go_enter Try.func3, Try.ntmps3
    go_wp2_with fail
    go_ret
    exact ⟨rfl, gr_refl _ _⟩
  · have hyneg : ¬ ((y : Int) < 0) := by omega
    have hyy : ((y : Int) != (y : Int)) = false := by simp
    have hbb : (b != b) = false := by simp
    go_enter Try.func3, Try.ntmps3
    go_wp2_with fail
    refine (H1.out _).mono ?_
    rintro e w1 ⟨u1, rfl, hg1, hl1⟩
    obtain ⟨A1, m1, c1, B1, k1, e1, hu1⟩ : ∃ A m c B k e, u1 = .agg #[.slice A m c, .slice B k e] := by
      obtain ⟨A4, c4, B4, d4, hu, _⟩ := hl1
      exact ⟨_, _, _, _, _, _, hu⟩
    subst hu1
    have ga := World.grownBy_alloc w1 (.cells #[.slice A1 m1 c1, .slice B1 k1 e1] 25) none
    have HG1 := Lib.hid (hg1.trans ga)
    have HL1 := Lib.hid (hl1.grown ga)
    have HX1 := Lib.hid (Pr.new w1 25 (.slice A1 m1 c1) (.slice B1 k1 e1))
    clear hg1 hl1 ga
    go_wp2_with fail
    generalize w1.alloc (.cells #[.slice A1 m1 c1, .slice B1 k1 e1] 25) = v1 at HG1 HL1 HX1 ⊢
    refine (H2.out _).mono ?_
    rintro e w2 ⟨u2, rfl, hg2, ho2⟩
    obtain ⟨A2, m2, c2, B2, k2, e2, hu2⟩ : ∃ A m c B k e, u2 = .agg #[.slice A m c, .slice B k e] := by
      obtain ⟨A4, c4, B4, d4, hu, _⟩ := ho2.lyt
      exact ⟨_, _, _, _, _, _, hu⟩
    subst hu2
    have ga := World.grownBy_alloc w2 (.cells #[.slice A2 m2 c2, .slice B2 k2 e2] 25) none
    have HG2 := Lib.hid (hg2.trans ga)
    have HO2 := Lib.hid (ho2.grown ga)
    have HX2 := Lib.hid (Pr.new w2 25 (.slice A2 m2 c2) (.slice B2 k2 e2))
    have HX12 := Lib.hid (HX1.out.grown (hg2.trans ga) (by simp))
    clear hg2 ho2 ga
    have p0 := HX12.out.c0
    have p1 := HX12.out.c1
    go_wp2_with fail
    generalize w2.alloc (.cells #[.slice A2 m2 c2, .slice B2 k2 e2] 25) = v2 at HG2 HO2 HX2 HX12 p0 p1 ⊢
    refine (HE.out _ _ v2 HO2.out.lyt (HL1.out.grown HG2.out)).mono ?_
    rintro e v3 ⟨rfl, hg3⟩
    have HG3 := Lib.hid (HG2.out.trans hg3)
    have HO3 := Lib.hid (HO2.out.grown hg3)
    have HX3 := Lib.hid (HX2.out.grown hg3 (by simp))
    clear hg3 p0 p1
    have p0 := HX3.out.c0
    have p1 := HX3.out.c1
    go_wp2_with fail
    refine (HMK.out _ _ v3 HO3.out).mono ?_
    rintro e v4 ⟨rfl, hn4, hg4, hp4⟩
    have HG4 := Lib.hid (hg4 v1 HG3.out (Nat.le_refl _))
    have HX4 := Lib.hid (hp4 _ _ _ HX3.out)
    have HN4 := Lib.hid hn4
    clear hn4 hg4 hp4 p0 p1
    have p0 := HX4.out.c0
    have p1 := HX4.out.c1
    go_wp2_with fail
    refine (HHD.out _ v4 HN4.out).mono ?_
    rintro e v5 ⟨rfl, hg5⟩
    have HG5 := Lib.hid (HG4.out.trans hg5)
    have HX5 := Lib.hid (HX4.out.grown hg5 (by simp))
    have HN5 := Lib.hid (show numLyt v5 _ 1 LL D.length from Lyt.grown HN4.out hg5)
    clear hg5 p0 p1
    go_wp2_with fail
    refine (H2.out _).mono ?_
    rintro e w6 ⟨u6, rfl, hg6, ho6⟩
    obtain ⟨A6, m6, c6, B6, k6, e6, hu6⟩ : ∃ A m c B k e, u6 = .agg #[.slice A m c, .slice B k e] := by
      obtain ⟨A4, c4, B4, d4, hu, _⟩ := ho6.lyt
      exact ⟨_, _, _, _, _, _, hu⟩
    subst hu6
    have ga := World.grownBy_alloc w6 (.cells #[.slice A6 m6 c6, .slice B6 k6 e6] 25) none
    have HG6 := Lib.hid (HG5.out.trans (hg6.trans ga))
    have HO6 := Lib.hid (ho6.grown ga)
    have HX6 := Lib.hid (HX5.out.grown (hg6.trans ga) (by simp))
    have HN6 := Lib.hid (show numLyt _ _ 1 LL D.length from Lyt.grown HN5.out (hg6.trans ga))
    have HX16 := Lib.hid (HX1.out.grown HG6.out (by simp))
    clear hg6 ho6 ga
    have p0 := HX16.out.c0
    have p1 := HX16.out.c1
    go_wp2_with fail
    generalize w6.alloc (.cells #[.slice A6 m6 c6, .slice B6 k6 e6] 25) = v6 at HG6 HO6 HX6 HN6 HX16 p0 p1 ⊢
    refine (HE.out _ _ v6 HO6.out.lyt (HL1.out.grown HG6.out)).mono ?_
    rintro e v7 ⟨rfl, hg7⟩
    have HG7 := Lib.hid (HG6.out.trans hg7)
    have HX7 := Lib.hid (HX6.out.grown hg7 (by simp))
    have HN7 := Lib.hid (show numLyt v7 _ 1 LL D.length from Lyt.grown HN6.out hg7)
    clear hg7 p0 p1
    have p0 := HX7.out.c0
    have p1 := HX7.out.c1
    go_wp2_with fail
    refine (HHD.out _ v7 HN7.out).mono ?_
    rintro e v8 ⟨rfl, hg8⟩
    have HG8 := Lib.hid (HG1.out.trans (HG7.out.trans hg8))
    clear hg8 p0 p1
    go_wp2_with fail
    go_ret
    exact ⟨rfl, HG8.out⟩

set_option maxRecDepth 100000 in
theorem layo_lifted (os : Os) (started : os.Started) (H : Type) (enc : TypeId × Value → H) :
    ReturnsInHanded {} Try.checked os 3 .any (Rows.fnExactLayOutSpec.pre6 enc Try.prog Try.f3 Rows.fnExactLayOutRow.domain false) (Rows.fnExactLayOutSpec.post enc Try.prog Try.f3 false true false false) := by
  refine returnsInHanded_of_change (C := Try.checked) knob_own started (by kernel_rfl) Try.func3
    (ChangeSpec.witness6 (enc := enc) (C := Try.checked) false ⟨#[], #[.string .empty, .int .i64 0], []⟩ 8 (by kernel_rfl) (by kernel_rfl) (by kernel_rfl) (by kernel_rfl)) ?_
  intro W base args ds gs before hval0 hW hcnd _
  have hval : ∀ (j : Nat) t v, Try.f3.params[j]? = some t → args[j]? = some v → Value.okWide Try.prog W .any base t v := hval0
  have hW' := hW
  obtain ⟨p, q, hA0, hV, rfl, hfz, hnd⟩ := hW
  have hA : DataW.TrodAll enc Try.prog W 0 (fun _ => true) true Try.f3.params.toList args.toList ds p := hA0
  rw [Try.params3] at hA hval
  obtain ⟨v0, v1, d0, d1, p0, p1, rfl, rfl, rfl, h0, h1⟩ := trodAll_two hA
  obtain ⟨rfl, rfl⟩ := trodVars_none hV
  obtain ⟨s, rfl, rfl, rfl, hmax⟩ := open_string Try.underlying9 (hval 0 9 v0 rfl rfl) h0
  obtain ⟨n, rfl, rfl, rfl, wn⟩ := open_int Try.underlying3 (hval 1 3 v1 rfl rfl) h1
  clear hA0 hval0
  simp only [List.append_nil] at hW'
  refine (law_layo s n W).mono fun e W' ⟨he, hg⟩ => ?_
  subst he
  refine ⟨_, rfl, _, _, _, [], [], [], hW', ?_, ?_, rfl, (below_of hg).frame _, fun h => by cases h⟩
  · exact trodAll_mk1 (shut_bool Try.underlying4 _)
  · exact trodAll_mk2 (shut_string Try.underlying9 hmax) (shut_int Try.underlying3 wn)

theorem layo_holds : Rows.FnExactLayOutSaid :=
  OpenClaim.holds_of_wide 3 Try.f3 rfl rfl rfl rfl rfl rfl rfl ⟨rfl, rfl, rfl, rfl, rfl⟩ rfl rfl rfl rfl rfl (by kernel_rfl) Try.func3 (by kernel_rfl)
    (of_decide_eq_true (by kernel_rfl)) (by unfold Func.isWrapper; first | (rw [if_pos (by decide +kernel)]; kernel_rfl) | (rw [if_neg (by decide +kernel)]; exact ⟨rfl, rfl⟩))
    (fun os started H enc _ => layo_lifted os started H enc)

#print axioms layo_holds

end Go.Proofs.Ytdfanconjiiceaa
