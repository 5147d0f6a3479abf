/- depths.of of the program at pairs and loops; at whatever term; DepthOfTerm and IsFunction of the program. -/
import Derived.Test.YtjcbhjldanakeaaTDep
import Derived.Test.YtjcbhjldanakeaaTTerm
namespace Go.Proofs.Ytjcbhjldanakeaa
open Go.RowKit Go.Maps

set_option maxRecDepth 100000 in
set_option maxHeartbeats 4000000 in
theorem of_two (c d1 d2 : Int) (b g : Nat) (x y : Value) (w : World) (hh : w.heap[g]? = some (.cells #[.int .u8 c, x, y] 100 (0, 0)))
    (ih1 : ∀ u : World, w.grownBy u none → Calls Try.prog 45 #[.map (some b), x] u (DepP d1 u))
    (ih2 : ∀ u : World, w.grownBy u none → Calls Try.prog 45 #[.map (some b), y] u (DepP d2 u)) :
    Calls Try.prog 45 #[.map (some b), .iface 98 (.pointer (some ⟨g, 0, none⟩))] w (DepP (dTwo c d1 d2) w) := by
  have ht1 := fun xT u => ta_two_dig (.pointer (some ⟨g, 0, none⟩)) xT u
  have ht2 := fun xT u => ta_two_var (.pointer (some ⟨g, 0, none⟩)) xT u
  have ht3 := fun xT u => ta_two_pre (.pointer (some ⟨g, 0, none⟩)) xT u
  have ht4 := fun xT u => ta_two_two (.pointer (some ⟨g, 0, none⟩)) xT u
  have HD := Lib.hid (fun w => dpair_any c d1 d2 w)
  generalize dTwo c d1 d2 = r at HD ⊢
  have c0 : w.cell? ⟨g, 0, none⟩ = some (.int .u8 c) := cell_of_row w g 0 _ _ (0, 0) hh
  have c1 : w.cell? ⟨g, 1, none⟩ = some x := cell_of_row w g 1 _ _ (0, 0) hh
  have c2 : w.cell? ⟨g, 2, none⟩ = some y := cell_of_row w g 2 _ _ (0, 0) hh
  have HI1 := Lib.hid ih1
  have HI2 := Lib.hid ih2
  clear ih1 ih2 hh
  go_enter Try.func45, Try.ntmps45
  go_wp2_with fail
  go_region_law (first
    | (go_simp
       go_at_call 73
       refine (HD.out _).mono ?_
       rintro e wb ⟨rfl, rfl⟩
       have HDONE := Lib.hid True.intro)
    | (go_simp
       go_at_call 45
       refine (HI2.out _ HGa.out).mono ?_
       rintro e wc ⟨rfl, hgc⟩
       have HGc := Lib.hid (HGa.out.trans hgc)
       have c0c := HGc.out.cell c0 (by simp)
       clear hgc)
    | (go_simp
       go_at_call 45
       refine (HI1.out _ (gr_drewN w 1 none)).mono ?_
       rintro e wa ⟨rfl, hga⟩
       have HGa := Lib.hid ((gr_drewN w 1 none).trans hga)
       have c0a := HGa.out.cell c0 (by simp)
       have c2a := HGa.out.cell c2 (by simp)
       clear hga))
  all_goals
    go_wp2_with fail
  all_goals
    go_ret
    exact ⟨rfl, HGc.out⟩

set_option maxRecDepth 100000 in
set_option maxHeartbeats 4000000 in
theorem of_loop (c i d1 d2 : Int) (b m g : Nat) (en : Int → Int) (x y : Value) (w : World) (hc : c = 91 ∨ c = 123) (hi0 : 0 ≤ i) (hi1 : i ≤ 255) (hd1 : -1 ≤ d1 ∧ d1 ≤ 3) (hd2 : -1 ≤ d2 ∧ d2 ≤ 3) (hm : m ≤ 1000000) (hmap : VMap w b m en)
    (hh : w.heap[g]? = some (.cells #[.int .u8 c, .int .u8 i, x, y] 103 (0, 0)))
    (ih1 : ∀ u : World, w.grownBy u none → Calls Try.prog 45 #[.map (some b), x] u (DepP d1 u))
    (ih2 : 1 ≤ d1 → ∀ (u : World) (b' : Nat), w.grownBy u none → VMap u b' (m + 1) (upd en i (d1 - 1)) → Calls Try.prog 45 #[.map (some b'), y] u (DepP d2 u)) :
    Calls Try.prog 45 #[.map (some b), .iface 101 (.pointer (some ⟨g, 0, none⟩))] w (DepP (if 1 ≤ d1 then dLoop c d1 d2 else -1) w) := by
  have ht1 := fun xT u => ta_loop_dig (.pointer (some ⟨g, 0, none⟩)) xT u
  have ht2 := fun xT u => ta_loop_var (.pointer (some ⟨g, 0, none⟩)) xT u
  have ht3 := fun xT u => ta_loop_pre (.pointer (some ⟨g, 0, none⟩)) xT u
  have ht4 := fun xT u => ta_loop_two (.pointer (some ⟨g, 0, none⟩)) xT u
  have ht5 := fun xT u => ta_loop_loop (.pointer (some ⟨g, 0, none⟩)) xT u
  have HD := Lib.hid (fun w => dloop_any c d1 d2 w hc hd2)
  obtain ⟨r, hr⟩ : ∃ r, dLoop c d1 d2 = r := ⟨_, rfl⟩
  rw [hr] at HD ⊢
  have c0 : w.cell? ⟨g, 0, none⟩ = some (.int .u8 c) := cell_of_row w g 0 _ _ (0, 0) hh
  have c1 : w.cell? ⟨g, 1, none⟩ = some (.int .u8 i) := cell_of_row w g 1 _ _ (0, 0) hh
  have c2 : w.cell? ⟨g, 2, none⟩ = some x := cell_of_row w g 2 _ _ (0, 0) hh
  have C0 := Lib.hid c0
  have C3 := Lib.hid (show w.cell? ⟨g, 3, none⟩ = some y from cell_of_row w g 3 _ _ (0, 0) hh)
  have HI1 := Lib.hid ih1
  have HI2 := Lib.hid ih2
  have HM := Lib.hid hmap
  have w1 : IntKind.i64.wrap (d1 - 1) = d1 - 1 := IntWalk.i64_in _ (by omega)
  clear ih1 ih2 hh hr hc hmap
  by_cases h1 : 1 ≤ d1
  · have hn : ¬ (d1 < 1) := by omega
    rw [if_pos h1]
    go_enter Try.func45, Try.ntmps45
    go_wp2_with fail
    refine (HI1.out _ (gr_refl _ _)).mono ?_
    rintro e wa ⟨rfl, hga⟩
    have HGa := Lib.hid hga
    have c0a := HGa.out.cell c0 (by simp)
    have c1a := HGa.out.cell c1 (by simp)
    have c3a := HGa.out.cell C3.out (by simp)
    clear hga c0 c1 c2
    go_wp2_with fail
    go_region_law (first
      | (go_simp
         go_at_call 74
         refine (HD.out _).mono ?_
         rintro e wb ⟨rfl, rfl⟩
         have HDONE := Lib.hid True.intro)
      | (go_simp
         go_at_call 45
         refine (HI2.out h1 _ _ HGb.out HVb.out).mono ?_
         rintro e wc ⟨rfl, hgc⟩
         have HGc := Lib.hid (HGb.out.trans hgc)
         have c0c := HGc.out.cell C0.out (by simp)
         clear hgc)
      | (go_simp
         go_at_call 75
         refine (with_any b m en i (d1 - 1) _ hi0 hi1 (by omega) hm ((HM.out.grown HGa.out).grown (gr_drewN wa 1 none))).mono ?_
         rintro e wb ⟨b', rfl, hgb, hvb⟩
         have HGb := Lib.hid ((HGa.out.trans (gr_drewN wa 1 none)).trans hgb)
         have HVb := Lib.hid hvb
         have c0b := ((gr_drewN wa 1 none).trans hgb).cell c0a (by simp)
         have c3b := ((gr_drewN wa 1 none).trans hgb).cell c3a (by simp)
         clear hgb hvb))
    all_goals
      go_wp2_with fail
    all_goals
      go_ret
      exact ⟨rfl, HGc.out⟩
  · rw [if_neg h1]
    have hn : d1 < 1 := by omega
    go_enter Try.func45, Try.ntmps45
    go_wp2_with fail
    refine (HI1.out _ (gr_refl _ _)).mono ?_
    rintro e wa ⟨rfl, hga⟩
    have HGa := Lib.hid hga
    have c0a := HGa.out.cell c0 (by simp)
    have c1a := HGa.out.cell c1 (by simp)
    have c3a := HGa.out.cell C3.out (by simp)
    clear hga c0 c1 c2
    go_wp2_with fail
    go_ret
    exact ⟨rfl, HGa.out⟩

end Go.Proofs.Ytjcbhjldanakeaa
