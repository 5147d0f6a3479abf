/- depths.of of the program at whatever term; DepthOfTerm and IsFunction of the program. -/
import Derived.Test.YtmofoeljajdhmaaTDep
import Derived.Test.YtmofoeljajdhmaaTTerm
import Derived.Test.YtmofoeljajdhmaaTSize
namespace Go.Proofs.Ytmofoeljajdhmaa
section
open Go.RowKit Go.Maps

set_option maxRecDepth 100000 in
set_option maxHeartbeats 4000000 in
theorem of_two (c d1 d2 : Int) (b g : Nat) (x y : Value) (w : World) (hh : w.heap[g]? = some (.cells #[.int .u8 c, x, y] 176 (0, 0)))
    (ih1 : ∀ u : World, w.grownBy u none → Calls Try.prog 90 #[.map (some b), x] u (DepP d1 u))
    (ih2 : ∀ u : World, w.grownBy u none → Calls Try.prog 90 #[.map (some b), y] u (DepP d2 u)) :
    Calls Try.prog 90 #[.map (some b), .iface 174 (.pointer (some ⟨g, 0, none⟩))] w (DepP (dTwo c d1 d2) w) := by
  have ht1 := fun xT u => ta_two_dig (.pointer (some ⟨g, 0, none⟩)) xT u
  have ht2 := fun xT u => ta_two_var (.pointer (some ⟨g, 0, none⟩)) xT u
  have ht3 := fun xT u => ta_two_pre (.pointer (some ⟨g, 0, none⟩)) xT u
  have ht4 := fun xT u => ta_two_two (.pointer (some ⟨g, 0, none⟩)) xT u
  have HD := Lib.hid (fun w => dpair_any c d1 d2 w)
  generalize dTwo c d1 d2 = r at HD ⊢
  have c0 : w.cell? ⟨g, 0, none⟩ = some (.int .u8 c) := cell_of_row w g 0 _ _ (0, 0) hh
  have c1 : w.cell? ⟨g, 1, none⟩ = some x := cell_of_row w g 1 _ _ (0, 0) hh
  have c2 : w.cell? ⟨g, 2, none⟩ = some y := cell_of_row w g 2 _ _ (0, 0) hh
  have HI1 := Lib.hid ih1
  have HI2 := Lib.hid ih2
  clear ih1 ih2 hh
  go_enter Try.func90, Try.ntmps90
  go_wp2_with fail
  go_region_law (first
    | (go_simp
       go_at_call 147
       refine (HD.out _).mono ?_
       rintro e wb ⟨rfl, rfl⟩
       have HDONE := Lib.hid True.intro)
    | (go_simp
       go_at_call 90
       refine (HI2.out _ HGa.out).mono ?_
       rintro e wc ⟨rfl, hgc⟩
       have HGc := Lib.hid (HGa.out.trans hgc)
       have c0c := HGc.out.cell c0 (by simp)
       clear hgc)
    | (go_simp
       go_at_call 90
       refine (HI1.out _ (gr_drewN w 1 none)).mono ?_
       rintro e wa ⟨rfl, hga⟩
       have HGa := Lib.hid ((gr_drewN w 1 none).trans hga)
       have c0a := HGa.out.cell c0 (by simp)
       have c2a := HGa.out.cell c2 (by simp)
       clear hga))
  all_goals
    go_wp2_with fail
  all_goals
    go_ret
    exact ⟨rfl, HGc.out⟩

set_option maxRecDepth 100000 in
set_option maxHeartbeats 4000000 in
theorem of_loop (c i d1 d2 : Int) (b m g : Nat) (en : Int → Int) (x y : Value) (w : World) (hc : c = 91 ∨ c = 123) (hi0 : 0 ≤ i) (hi1 : i ≤ 255) (hd1 : -1 ≤ d1 ∧ d1 ≤ 3) (hd2 : -1 ≤ d2 ∧ d2 ≤ 3) (hm : m ≤ 1000000) (hmap : VMap w b m en)
    (hh : w.heap[g]? = some (.cells #[.int .u8 c, .int .u8 i, x, y] 163 (0, 0)))
    (ih1 : ∀ u : World, w.grownBy u none → Calls Try.prog 90 #[.map (some b), x] u (DepP d1 u))
    (ih2 : 1 ≤ d1 → ∀ (u : World) (b' : Nat), w.grownBy u none → VMap u b' (m + 1) (upd en i (d1 - 1)) → Calls Try.prog 90 #[.map (some b'), y] u (DepP d2 u)) :
    Calls Try.prog 90 #[.map (some b), .iface 161 (.pointer (some ⟨g, 0, none⟩))] w (DepP (if 1 ≤ d1 then dLoop c d1 d2 else -1) w) := by
  have ht1 := fun xT u => ta_loop_dig (.pointer (some ⟨g, 0, none⟩)) xT u
  have ht2 := fun xT u => ta_loop_var (.pointer (some ⟨g, 0, none⟩)) xT u
  have ht3 := fun xT u => ta_loop_pre (.pointer (some ⟨g, 0, none⟩)) xT u
  have ht4 := fun xT u => ta_loop_two (.pointer (some ⟨g, 0, none⟩)) xT u
  have ht5 := fun xT u => ta_loop_loop (.pointer (some ⟨g, 0, none⟩)) xT u
  have HD := Lib.hid (fun w => dloop_any c d1 d2 w hc hd2)
  obtain ⟨r, hr⟩ : ∃ r, dLoop c d1 d2 = r := ⟨_, rfl⟩
  rw [hr] at HD ⊢
  have c0 : w.cell? ⟨g, 0, none⟩ = some (.int .u8 c) := cell_of_row w g 0 _ _ (0, 0) hh
  have c1 : w.cell? ⟨g, 1, none⟩ = some (.int .u8 i) := cell_of_row w g 1 _ _ (0, 0) hh
  have c2 : w.cell? ⟨g, 2, none⟩ = some x := cell_of_row w g 2 _ _ (0, 0) hh
  have C0 := Lib.hid c0
  have C3 := Lib.hid (show w.cell? ⟨g, 3, none⟩ = some y from cell_of_row w g 3 _ _ (0, 0) hh)
  have HI1 := Lib.hid ih1
  have HI2 := Lib.hid ih2
  have HM := Lib.hid hmap
  have w1 : IntKind.i64.wrap (d1 - 1) = d1 - 1 := IntWalk.i64_in _ (by omega)
  clear ih1 ih2 hh hr hc hmap
  by_cases h1 : 1 ≤ d1
  · have hn : ¬ (d1 < 1) := by omega
    rw [if_pos h1]
    go_enter Try.func90, Try.ntmps90
    go_wp2_with fail
    refine (HI1.out _ (gr_refl _ _)).mono ?_
    rintro e wa ⟨rfl, hga⟩
    have HGa := Lib.hid hga
    have c0a := HGa.out.cell c0 (by simp)
    have c1a := HGa.out.cell c1 (by simp)
    have c3a := HGa.out.cell C3.out (by simp)
    clear hga c0 c1 c2
    go_wp2_with fail
    go_region_law (first
      | (go_simp
         go_at_call 148
         refine (HD.out _).mono ?_
         rintro e wb ⟨rfl, rfl⟩
         have HDONE := Lib.hid True.intro)
      | (go_simp
         go_at_call 90
         refine (HI2.out h1 _ _ HGb.out HVb.out).mono ?_
         rintro e wc ⟨rfl, hgc⟩
         have HGc := Lib.hid (HGb.out.trans hgc)
         have c0c := HGc.out.cell C0.out (by simp)
         clear hgc)
      | (go_simp
         go_at_call 149
         refine (with_any b m en i (d1 - 1) _ hi0 hi1 (by omega) hm ((HM.out.grown HGa.out).grown (gr_drewN wa 1 none))).mono ?_
         rintro e wb ⟨b', rfl, hgb, hvb⟩
         have HGb := Lib.hid ((HGa.out.trans (gr_drewN wa 1 none)).trans hgb)
         have HVb := Lib.hid hvb
         have c0b := ((gr_drewN wa 1 none).trans hgb).cell c0a (by simp)
         have c3b := ((gr_drewN wa 1 none).trans hgb).cell c3a (by simp)
         clear hgb hvb))
    all_goals
      go_wp2_with fail
    all_goals
      go_ret
      exact ⟨rfl, HGc.out⟩
  · rw [if_neg h1]
    have hn : d1 < 1 := by omega
    go_enter Try.func90, Try.ntmps90
    go_wp2_with fail
    refine (HI1.out _ (gr_refl _ _)).mono ?_
    rintro e wa ⟨rfl, hga⟩
    have HGa := Lib.hid hga
    have c0a := HGa.out.cell c0 (by simp)
    have c1a := HGa.out.cell c1 (by simp)
    have c3a := HGa.out.cell C3.out (by simp)
    clear hga c0 c1 c2
    go_wp2_with fail
    go_ret
    exact ⟨rfl, HGa.out⟩
end

section
open Go.RowKit Go.Maps

theorem of_any : ∀ (n : Nat) (t : Tm) (S : Nat → Prop) (v : Value) (b m : Nat) (e : Int → Int) (w : World), t.size ≤ n → n + m ≤ 1000000 → t.Ok → (∀ c, -1 ≤ e c ∧ e c ≤ 3) → PT w S t v → VMap w b m e →
    Calls Try.prog 90 #[.map (some b), v] w (DepP (t.depth e) w)
  | 0, t, _, _, _, _, _, _, hn, _, _, _, _, _ => by have := t.size_pos; omega
  | n + 1, .dig c, S, v, b, m, e, w, hn, hb, ho, he, h, hm => by cases h; exact of_dig c _ w
  | n + 1, .var c, S, v, b, m, e, w, hn, hb, ho, he, h, hm => by cases h; exact of_var c b m e w ho hm
  | n + 1, .pre c s, S, v, b, m, e, w, hn, hb, ho, he, h, hm => by
    obtain ⟨g, x, rfl, _, hh, hx⟩ := h
    simp only [Tm.size] at hn
    exact of_pre c _ b g x w ho.1 (s.depth_bd e he) hh (fun u hu => of_any n s S x b m e u (by omega) (by omega) ho.2 he (hx.grown hu) (hm.grown hu))
  | n + 1, .two c s t, S, v, b, m, e, w, hn, hb, ho, he, h, hm => by
    obtain ⟨g, x, y, rfl, _, hh, hx, hy⟩ := h
    simp only [Tm.size] at hn
    exact of_two c _ _ b g x y w hh (fun u hu => of_any n s S x b m e u (by omega) (by omega) ho.2.1 he (hx.grown hu) (hm.grown hu))
      (fun u hu => of_any n t S y b m e u (by omega) (by omega) ho.2.2 he (hy.grown hu) (hm.grown hu))
  | n + 1, .loop c i s t, S, v, b, m, e, w, hn, hb, ho, he, h, hm => by
    obtain ⟨g, x, y, rfl, _, hh, hx, hy⟩ := h
    simp only [Tm.size] at hn
    have hd1 := s.depth_bd e he
    have hbu := upd_bd he i (d := if 1 ≤ s.depth e then s.depth e - 1 else 0) (by split <;> omega)
    have hd2 := t.depth_bd _ hbu
    by_cases h1 : 1 ≤ s.depth e
    · rw [if_pos h1] at hbu hd2
      exact of_loop c i _ _ b m g e x y w ho.1 (lb ho.2.1).1 (lb ho.2.1).2 hd1 hd2 (by omega) hm hh (fun u hu => of_any n s S x b m e u (by omega) (by omega) ho.2.2.1 he (hx.grown hu) (hm.grown hu))
        (fun _ u b' hu hm' => of_any n t S y b' (m + 1) _ u (by omega) (by omega) ho.2.2.2 hbu (hy.grown hu) hm')
    · have := of_loop c i (s.depth e) 0 b m g e x y w ho.1 (lb ho.2.1).1 (lb ho.2.1).2 hd1 (by omega) (by omega) hm hh (fun u hu => of_any n s S x b m e u (by omega) (by omega) ho.2.2.1 he (hx.grown hu) (hm.grown hu))
        (fun h => absurd h h1)
      rw [if_neg h1] at this
      simp only [Tm.depth]
      rw [if_neg h1]
      exact this

/-- The depth of a text. -/
def depthA (s : ByteArray) : Int := match readT s with
  | some t => t.depth env0
  | none => -1
theorem depthA_bd (s : ByteArray) : -1 ≤ depthA s ∧ depthA s ≤ 3 := by
  unfold depthA
  cases readT s with
  | none => simp
  | some t => exact t.depth_bd env0 env0_bd

set_option maxRecDepth 100000 in
set_option maxHeartbeats 2000000 in
theorem tdepth_impl (s : ByteArray) (w : World) :
    Calls Try.prog 32 #[.string s] w (DepP (depthA s) w) := by
  have H := Lib.hid (term_any s w)
  have hmm := @run_makeMap Try.prog
  obtain ⟨r, hb⟩ : ∃ b, depthA s = b := ⟨_, rfl⟩
  rw [hb]
  have HB := Lib.hid hb
  clear hb
  go_enter Try.func32, Try.ntmps32
  go_wp2_with fail
  refine H.out.mono ?_
  intro e w0 hp
  unfold TermPost at hp
  have hb := HB.out
  unfold depthA at hb
  cases hr : readT s with
  | none =>
    rw [hr] at hp hb
    subst hb
    obtain ⟨rfl, hg⟩ := hp
    have HG := Lib.hid hg
    clear hg hr
    go_wp2_with fail
    go_ret
    exact ⟨rfl, HG.out⟩
  | some t =>
    rw [hr] at hp hb
    obtain ⟨v, rfl, hg, hpt⟩ := hp
    have HG := Lib.hid hg
    have HP := Lib.hid hpt
    have HSS := Lib.hid hb
    have HRT := Lib.hid hr
    have own0 := World.ownsMap_made w0 Try.prog 80 (plainElem (H := Unit) Try.prog 3)
    obtain ⟨w1, hr1, own1, hg1⟩ := own0.update keyedV Try.underlying103 (by decide) (keyV (v := 97) (by decide) (by decide)) (plainElem_int Try.underlying3 (i64wf (d := 1) (by decide) (by decide)))
    obtain ⟨w2, hr2, own2, hg2⟩ := own1.update keyedV Try.underlying103 (by decide) (keyV (v := 98) (by decide) (by decide)) (plainElem_int Try.underlying3 (i64wf (d := 2) (by decide) (by decide)))
    have hgr : w0.grownBy w2 none := gr_new (gr_new (World.grownBy_alloc w0 _ none) hg1 (Nat.le_refl _)) hg2 (Nat.le_refl _)
    have hvm : VMap w2 w0.heap.size 2 env0 := ⟨_, own2, by
      have h0 : Reads (.map []) (fun _ => -1) := ⟨⟨_, rfl⟩, fun v _ _ => .inl ⟨rfl, rfl⟩⟩
      have := (h0.put 97 1).put 98 2
      rw [show env0 = upd (upd (fun _ => -1) 97 1) 98 2 from by
        funext c
        unfold env0 upd
        by_cases h1 : c = 97
        · subst h1; rfl
        · simp [h1]]
      exact this⟩
    have hok := readT_some hr
    have HC := Lib.hid (of_any 80 t _ v _ 2 env0 w2 hok.2.2.2 (by omega) hok.2.2.1 env0_bd (hpt.grown hgr) hvm)
    rw [show t.depth env0 = r from hb] at HC
    have HGR := Lib.hid (hg.trans hgr)
    clear hg hpt hr hb own0 own1 own2 hg1 hg2 hgr hvm hok
    go_wp2_with fail
    refine HC.out.mono ?_
    rintro e w3 ⟨rfl, hg3⟩
    have HG3 := Lib.hid hg3
    clear hg3
    go_wp2_with fail
    go_ret
    exact ⟨rfl, HGR.out.trans HG3.out⟩

set_option maxRecDepth 100000 in
set_option maxHeartbeats 1000000 in
theorem tisfun_impl (s : ByteArray) (w : World) :
    Calls Try.prog 34 #[.string s] w fun e w' => e = .returned (.bool (decide (0 ≤ depthA s))) ∧ w.grownBy w' none := by
  have H := Lib.hid (tdepth_impl s w)
  have hbd := depthA_bd s
  obtain ⟨r, hr⟩ : ∃ r, depthA s = r := ⟨_, rfl⟩
  rw [hr] at H hbd ⊢
  obtain ⟨b, hb⟩ : ∃ b, (r != -1) = b := ⟨_, rfl⟩
  have HB : Hid (decide (0 ≤ r) = b) := Lib.hid (by
    rw [← hb]
    by_cases h : 0 ≤ r
    · have : r ≠ -1 := by omega
      simp [h, this]
    · have : r = -1 := by omega
      subst this; rfl)
  clear hr
  go_enter Try.func34, Try.ntmps34
  go_wp2_with fail
  refine H.out.mono ?_
  rintro e w1 ⟨rfl, hg1⟩
  have HG1 := Lib.hid hg1
  clear hg1
  go_wp2_with fail
  go_ret
  exact ⟨by rw [HB.out]; rfl, HG1.out⟩
end

end Go.Proofs.Ytmofoeljajdhmaa
