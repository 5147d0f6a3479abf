/- What the program's depths.of does: the depth of what a term gives. -/
import Derived.Test.YtboddoaekcchpaaGreatTmD
import Derived.Test.YtboddoaekcchpaaGreatTOkb
import Derived.Test.YtboddoaekcchpaaGreatSgn
import Derived.Test.YtboddoaekcchpaaGreatTMap
import Derived.Test.YtboddoaekcchpaaGreatTmM
import Derived.Test.YtboddoaekcchpaaGreatTAs
import Derived.Deep.RegionLaw
namespace Go.Proofs.YtboddoaekcchpaaGreat
section
open Go.RowKit

/-- The set of signs "SM". -/
def sSM : ByteArray := ⟨#[83, 77]⟩
theorem sSM_is {c : Int} (h0 : 0 ≤ c) (h1 : c ≤ 255) : decide (0 ≤ Lib.indexByte sSM.data.toList c.toNat.toUInt8) = decide (c = 83 ∨ c = 77) :=
  all256 (P := fun c => decide (0 ≤ Lib.indexByte sSM.data.toList c.toNat.toUInt8) = decide (c = 83 ∨ c = 77)) (by decide +kernel) h0 h1

theorem ret_i {x y : Int} (h : x = y) : Ending.returned (.int .i64 x) = .returned (.int .i64 y) := by rw [h]

set_option maxRecDepth 100000 in
set_option maxHeartbeats 1000000 in
theorem dprefix_any (c d : Int) (w : World) (h0 : 0 ≤ c) (h1 : c ≤ 255) (hd : -1 ≤ d ∧ d ≤ 3) :
    Calls Tryz.prog 56 #[.int .u8 c, .int .i64 d] w fun e w' => e = .returned (.int .i64 (dOne c d)) ∧ w = w' := by
  have HO := Lib.hid (fun w => oneof_any sSM c _ (sSM_is h0 h1) w)
  have HD : Hid (∀ x, dOne c d = x ↔ dOne c d = x) := Lib.hid (fun _ => Iff.rfl)
  obtain ⟨b, hb⟩ : ∃ b, decide (c = 83 ∨ c = 77) = b := ⟨_, rfl⟩
  rw [hb] at HO
  unfold sSM at HO
  have w1 : IntKind.i64.wrap (d - 1) = d - 1 := IntWalk.i64_in _ (by omega)
  have HB := Lib.hid hb
  clear hb HD
  go_enter Tryz.func56, Tryz.ntmps56
  go_wp2_with fail
  refine (HO.out w).mono ?_
  rintro e w' ⟨rfl, rfl⟩
  cases b
  · have hb : ¬ (c = 83 ∨ c = 77) := by simpa using HB.out
    go_wp2_with fail
    all_goals
      go_ret
      refine ⟨ret_i ?_, rfl⟩
      try simp only [beq_iff_eq, beq_eq_false_iff_ne] at *
      unfold dOne
      rw [if_neg (fun h => hb h.1)]
      (repeat' split) <;> omega
  · have hb : c = 83 ∨ c = 77 := by simpa using HB.out
    go_wp2_with fail
    all_goals
      go_ret
      refine ⟨ret_i ?_, rfl⟩
      try simp only [beq_iff_eq, beq_eq_false_iff_ne] at *
      unfold dOne
      (repeat' split) <;> omega

set_option maxRecDepth 100000 in
set_option maxHeartbeats 1000000 in
theorem dpair_any (c x y : Int) (w : World) :
    Calls Tryz.prog 57 #[.int .u8 c, .int .i64 x, .int .i64 y] w fun e w' => e = .returned (.int .i64 (dTwo c x y)) ∧ w = w' := by
  go_enter Tryz.func57, Tryz.ntmps57
  go_wp2_with fail
  all_goals
    go_ret
    refine ⟨ret_i ?_, rfl⟩
    try simp only [beq_iff_eq, beq_eq_false_iff_ne, bne_iff_ne, bne_eq_false_iff_eq, ne_eq] at *
    unfold dTwo
    (repeat' split) <;> omega

set_option maxRecDepth 100000 in
set_option maxHeartbeats 1000000 in
theorem dloop_any (c x y : Int) (w : World) (hc : c = 91 ∨ c = 123) (hy : -1 ≤ y ∧ y ≤ 3) :
    Calls Tryz.prog 58 #[.int .u8 c, .int .i64 x, .int .i64 y] w fun e w' => e = .returned (.int .i64 (dLoop c x y)) ∧ w = w' := by
  have w1 : IntKind.i64.wrap (y + 1) = y + 1 := IntWalk.i64_in _ (by omega)
  go_enter Tryz.func58, Tryz.ntmps58
  go_wp2_with fail
  all_goals
    go_ret
    refine ⟨ret_i ?_, rfl⟩
    try simp only [beq_iff_eq, beq_eq_false_iff_ne] at *
    unfold dLoop
    (repeat' split) <;> omega
end

section
open Go.RowKit Go.Maps


/-- What a map holds for a variable, as the lookup gives it. -/
theorem Reads.look {D : DataW Unit} {e : Int → Int} (h : Reads D e) {v c : Int} (h0 : 0 ≤ v) (h1 : v ≤ 255) (hc : D.atKey (.int .u8 v) (.lit (.int .i64 0)) = .lit (.int .i64 c)) :
    (Maps.has D (.int .u8 v) = false ∧ e v = -1) ∨ (Maps.has D (.int .u8 v) = true ∧ e v = c) := by
  refine (h.2 v h0 h1).imp id (fun ⟨a, b⟩ => ⟨a, ?_⟩)
  have := (b (.lit (.int .i64 0))).symm.trans hc
  cases this
  rfl

/-- What of answers at a term. -/
def DepP (x : Int) (w : World) (e : Ending) (w' : World) : Prop := e = .returned (.int .i64 x) ∧ w.grownBy w' none

set_option maxRecDepth 100000 in
set_option maxHeartbeats 2000000 in
theorem of_var (c : Int) (b m : Nat) (e : Int → Int) (w : World) (hv : isV c = true) (hm : VMap w b m e) :
    Calls Tryz.prog 38 #[.map (some b), .iface 51 (.int .u8 c)] w (DepP (e c) w) := by
  obtain ⟨D, ho, hr⟩ := hm
  have HR := Lib.hid (fun k h => hr.look (c := k) (vb hv).1 (vb hv).2 h)
  have hkey := keyV (vb hv).1 (vb hv).2
  have ht1 := fun xT u => ta_var_dig (.int .u8 c) xT u
  have ht2 := fun xT u => ta_var_var (.int .u8 c) xT u
  have ht3 := fun xT u => ta_var_pre (.int .u8 c) xT u
  have ht4 := fun xT u => ta_var_two (.int .u8 c) xT u
  have ht5 := fun xT u => ta_var_loop (.int .u8 c) xT u
  obtain ⟨hb, hhb⟩ : ∃ hb, Maps.has D (.int .u8 c) = hb := ⟨_, rfl⟩
  rw [hhb] at HR
  clear hr hv
  go_enter Tryz.func38, Tryz.ntmps38
  go_wp2_with (at_lookup; refine wpList_lookup_own_ok_int _ rfl _ _ 73 rfl 51 3 _ keyedV Tryz.underlying73 Tryz.underlying3 (zeroI _) b m D rfl ho _ _ rfl hkey ?_)
  intro k hk _
  have HK := Lib.hid (HR.out k hk)
  clear ho hk hkey hhb
  cases hb
  · go_wp2_with fail
    go_ret
    refine ⟨ret_i ?_, gr_refl _ _⟩
    rcases HK.out with ⟨_, h⟩ | ⟨h, _⟩
    · exact h.symm
    · cases h
  · go_wp2_with fail
    go_ret
    refine ⟨ret_i ?_, gr_refl _ _⟩
    rcases HK.out with ⟨h, _⟩ | ⟨_, h⟩
    · cases h
    · exact h.symm

set_option maxRecDepth 100000 in
set_option maxHeartbeats 2000000 in
theorem of_dig (c : Int) (v : Value) (w : World) :
    Calls Tryz.prog 38 #[v, .iface 110 (.int .u8 c)] w (DepP 0 w) := by
  have ht1 := fun xT u => ta_dig_dig (.int .u8 c) xT u
  go_enter Tryz.func38, Tryz.ntmps38
  go_wp2_with fail
  go_ret
  exact ⟨rfl, gr_refl _ _⟩

set_option maxRecDepth 100000 in
set_option maxHeartbeats 2000000 in
theorem of_pre (c d : Int) (b g : Nat) (x : Value) (w : World) (hc : isP c = true) (hd : -1 ≤ d ∧ d ≤ 3) (hh : w.heap[g]? = some (.cells #[.int .u8 c, x] 115 (0, 0)))
    (ih : ∀ u : World, w.grownBy u none → Calls Tryz.prog 38 #[.map (some b), x] u (DepP d u)) :
    Calls Tryz.prog 38 #[.map (some b), .iface 112 (.pointer (some ⟨g, 0, none⟩))] w (DepP (dOne c d) w) := by
  have ht1 := fun xT u => ta_pre_dig (.pointer (some ⟨g, 0, none⟩)) xT u
  have ht2 := fun xT u => ta_pre_var (.pointer (some ⟨g, 0, none⟩)) xT u
  have ht3 := fun xT u => ta_pre_pre (.pointer (some ⟨g, 0, none⟩)) xT u
  have HD := Lib.hid (fun w => dprefix_any c d w (pb hc).1 (pb hc).2 hd)
  generalize dOne c d = r at HD ⊢
  have c0 : w.cell? ⟨g, 0, none⟩ = some (.int .u8 c) := cell_of_row w g 0 _ _ (0, 0) hh
  have c1 : w.cell? ⟨g, 1, none⟩ = some x := cell_of_row w g 1 _ _ (0, 0) hh
  have HI := Lib.hid ih
  clear ih hh
  go_enter Tryz.func38, Tryz.ntmps38
  go_wp2_with fail
  go_region_law (first
    | (go_simp
       go_at_call 56
       refine (HD.out _).mono ?_
       rintro e wb ⟨rfl, rfl⟩
       have HDONE := Lib.hid True.intro)
    | (go_simp
       go_at_call 38
       refine (HI.out _ (gr_drewN w 1 none)).mono ?_
       rintro e wa ⟨rfl, hga⟩
       have HGa := Lib.hid ((gr_drewN w 1 none).trans hga)
       have c0a := HGa.out.cell c0 (by simp)
       clear hga))
  all_goals
    go_wp2_with fail
  all_goals
    go_ret
    exact ⟨rfl, HGa.out⟩
end

end Go.Proofs.YtboddoaekcchpaaGreat
