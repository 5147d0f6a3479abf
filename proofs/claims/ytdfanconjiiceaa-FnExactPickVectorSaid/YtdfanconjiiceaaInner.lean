/- What inner of the program does: the arrays within an array. -/
import Derived.Test.YtdfanconjiiceaaArrs
import Derived.Test.YtdfanconjiiceaaTolQ
import Derived.Test.YtdfanconjiiceaaWrong
namespace Go.Proofs.Ytdfanconjiiceaa
open Go.RowKit

theorem own_slb {w : World} {base : Nat} {v : Value} {L : List Int} (h : w.ownsRow base 3 1 v L.length (L.map (Value.int .i64))) : SlB w.heap.size w v L := by
  obtain ⟨A, n, c, rfl⟩ := own_form h
  obtain ⟨rfl, h2, h3, h4⟩ := row_reads h
  refine ⟨A, c, rfl, h3, h4, fun a ha => ?_⟩
  subst ha
  have hcell := fun g => h.cells (g := g)
  rcases h.2 with ⟨hv, _⟩ | ⟨g, cap, cur, hv, _, hg, _⟩
  · cases hv
  · cases hv
    refine ⟨g, 0, rfl, (Array.getElem?_eq_some_iff.1 hg).1, (Array.getElem?_eq_some_iff.1 hg).1, fun j z hj => ?_⟩
    have := hcell g rfl j (.int .i64 z) (by rw [List.getElem?_map, hj]; rfl)
    rwa [addr_flat] at this
/-- A layout all of whose rows lie at known places. -/
def LytQ (w : World) (v : Value) (LL : List (List Int)) (D : List Int) : Prop :=
  ∃ (A : Option Addr) (c : Nat) (B : Option Addr) (e : Nat), v = .agg #[.slice A LL.length c, .slice B D.length e] ∧ LL.length ≤ c ∧ SlB w.heap.size w (.slice B D.length e) D ∧
    (0 < LL.length → ∃ (g off : Nat), A = some ⟨g, off, none⟩ ∧ g < w.heap.size ∧ ∀ (i : Nat) (L : List Int), LL[i]? = some L → ∃ x, w.cell? ⟨g, off + i, none⟩ = some x ∧ SlB w.heap.size w x L)
theorem LytQ.grown {w w' : World} {v : Value} {LL : List (List Int)} {D : List Int} (h : LytQ w v LL D) (hg : w.grownBy w' none) : LytQ w' v LL D := by
  obtain ⟨A, c, B, e, rfl, h1, h2, h3⟩ := h
  refine ⟨A, c, B, e, rfl, h1, slb_up (slb_gr h2 hg) hg.size, fun hl => ?_⟩
  obtain ⟨g, off, rfl, hgl, hc⟩ := h3 hl
  refine ⟨g, off, rfl, Nat.lt_of_lt_of_le hgl hg.size, fun i L hL => ?_⟩
  obtain ⟨x, hx, hs⟩ := hc i L hL
  exact ⟨x, hg.cell hx (by simp), slb_up (slb_gr hs hg) hg.size⟩
theorem OwnLytQ.lytq {w : World} {base : Nat} {v : Value} {LL : List (List Int)} {D : List Int} (h : OwnLytQ w base v LL D) : LytQ w v LL D := by
  obtain ⟨A, c, d, vs, rfl, hc, ho, hf⟩ := h
  have hlen : vs.length = LL.length := by have := ho.1; omega
  obtain ⟨d', hd', B, e, hdv, hec, hod⟩ := hf.1 LL.length D (by omega) (by simp)
  rw [List.getElem?_append_right (by omega), hlen] at hd'
  simp only [Nat.sub_self, List.getElem?_cons_zero, Option.some.injEq] at hd'
  subst hd'
  refine ⟨A, c, B, e, by rw [hdv], hc, by rw [← hdv]; exact own_slb (hod trivial), fun hl => ?_⟩
  have hcell := fun g => ho.cells (g := g)
  rcases ho.2 with ⟨hv, hn⟩ | ⟨g, cap, cur, hv, _, hg, hnc, _⟩
  · omega
  · cases hv
    refine ⟨g, 0, rfl, (Array.getElem?_eq_some_iff.1 hg).1, fun i L hL => ?_⟩
    have hi := (List.getElem?_eq_some_iff.1 hL).1
    obtain ⟨v, hv, A2, c2, _, _, ho2⟩ := hf.1 i L (by omega) (by rw [List.getElem?_append_left hi]; exact hL)
    rw [List.getElem?_append_left (by omega)] at hv
    exact ⟨v, by have := hcell g rfl i v hv; rwa [addr_flat] at this, own_slb (ho2 trivial)⟩
theorem SlB.form {B : Nat} {w : World} {v : Value} {zs : List Int} (h : SlB B w v zs) : ∃ A c, v = .slice A zs.length c := by
  obtain ⟨A, c, h, _⟩ := h
  exact ⟨A, c, h⟩

set_option maxRecDepth 100000 in
set_option maxHeartbeats 4000000 in
theorem inner_any (d : Nat) (t : T (d + 1)) (A B : Option Addr) (c e : Nat) (w : World) (hd : d ≤ 3) (h : LytQ w (.agg #[.slice A (d + 1) c, .slice B (dat (d + 1) [t]).length e]) (lv (d + 1) [t]) (dat (d + 1) [t])) (hok : OkL (lv (d + 1) [t])) (hn : (prt t).length ≤ 1048576) :
    Calls Try.prog 60 #[.agg #[.slice B (dat (d + 1) [t]).length e, .slice A (d + 1) c]] w fun ee w' => ∃ b ga, ee = .returned (.slice (some ⟨ga, 0, none⟩) (prt t).length (prt t).length) ∧ w.grownBy w' none ∧ w.heap.size ≤ b ∧ b ≤ ga ∧ ArrsAt b b d (prt t) (prt t).length w' ga (prt t).length := by
  obtain ⟨A', c', B', e', hv, hc, hsd, hlv⟩ := h
  simp only [lv_len, Value.agg.injEq, Array.mk.injEq, List.cons.injEq, Value.slice.injEq, and_true, true_and] at hv
  obtain ⟨⟨rfl, rfl⟩, rfl, rfl⟩ := hv
  rw [lv_len] at hc hlv
  obtain ⟨g, off, rfl, hgl, hcell⟩ := hlv (by omega)
  rw [lv_one] at hcell hok
  rw [dat_one] at hsd ⊢
  obtain ⟨x0, hx0, hs0⟩ := hcell 0 _ rfl
  obtain ⟨A0, c0, rfl, hc0, hn0, ha0⟩ := hs0
  obtain ⟨a0, rfl⟩ : ∃ a, A0 = some a := by
    cases A0 with
    | none => have := hn0 rfl; simp at hc0; omega
    | some a => exact ⟨a, rfl⟩
  obtain ⟨b0, off0, rfl, hb0, _, hz0⟩ := ha0 _ rfl
  have hz := hz0 0 _ rfl
  have hok2 : OkL (lv d (prt t)) := fun j L hL => hok (j + 1) L (by simpa using hL)
  have HLV : ∀ u, w.grownBy u none → LvB u.heap.size u d (prt t) (some ⟨g, off + 1, none⟩) (c - 1) := fun u hg => by
    refine .inr ⟨g, off + 1, (List.range d).map (fun i => (w.cell? ⟨g, off + 1 + i, none⟩).getD (.int .i64 0)), rfl, Nat.lt_of_lt_of_le hgl hg.size, by simp, fun j v hj => ?_, fun i L hL => ?_⟩
    · have hjd : j < d := by have := (List.getElem?_eq_some_iff.1 hj).1; simpa using this
      rw [List.getElem?_map, List.getElem?_range hjd] at hj
      simp only [Option.map_some, Option.some.injEq] at hj
      obtain ⟨M, hM⟩ : ∃ M, (lv d (prt t))[j]? = some M := ⟨_, List.getElem?_eq_getElem (by rw [lv_len]; exact hjd)⟩
      obtain ⟨x, hx, _⟩ := hcell (j + 1) M (by simpa using hM)
      rw [show off + 1 + j = off + (j + 1) by omega, hx] at hj
      simp only [Option.getD_some] at hj
      subst hj
      rw [show off + 1 + j = off + (j + 1) by omega]
      exact hg.cell hx (by simp)
    · have hid : i < d := by have := (List.getElem?_eq_some_iff.1 hL).1; rwa [lv_len] at this
      obtain ⟨x, hx, hs⟩ := hcell (i + 1) L (by simpa using hL)
      refine ⟨x, ?_, slb_up (slb_gr hs hg) hg.size⟩
      rw [List.getElem?_map, List.getElem?_range hid]
      simp only [Option.map_some, Option.some.injEq]
      rw [show off + 1 + i = off + (i + 1) by omega, hx]
      rfl
  obtain ⟨o2, hR, hLV2⟩ : ∃ o2, (if c = 1 then (some ⟨g, off, none⟩ : Option Addr) else some ⟨g, off + 1, none⟩) = some ⟨g, o2, none⟩ ∧ ∀ u, w.grownBy u none → LvB u.heap.size u d (prt t) (some ⟨g, o2, none⟩) (c - 1) := by
    by_cases hc1 : c = 1
    · have hd0 : d = 0 := by omega
      subst hd0
      exact ⟨off, by rw [if_pos hc1], fun u hg => .inr ⟨g, off, [], rfl, Nat.lt_of_lt_of_le hgl hg.size, rfl, fun j v hj => by simp at hj, fun i L hL => by simp [lv] at hL⟩⟩
    · exact ⟨off + 1, by rw [if_neg hc1], HLV⟩
  have HA := Lib.hid (fun u (hg : w.grownBy u none) => arrays_any d (prt t) B (some ⟨g, o2, none⟩) e (c - 1) u hd (slb_up (slb_gr hsd hg) hg.size) (hLV2 u hg) hok2 hn)
  obtain ⟨m, hm⟩ : ∃ m, (dat d (prt t)).length = m := ⟨_, rfl⟩
  obtain ⟨n, hnn⟩ : ∃ n, (prt t).length = n := ⟨_, rfl⟩
  rw [hm, hnn] at HA
  rw [hnn] at hz hn
  rw [hm, hnn]
  simp only [List.length_cons, List.length_nil, Nat.zero_add, Nat.add_zero] at hx0 hz hc0
  have hg0 := World.grownBy_alloc w (.cells #[.slice B m e, .slice (some ⟨g, off, none⟩) (d + 1) c] 70) none
  have HG0 := Lib.hid hg0
  have HP := Lib.hid (Pr.new w 70 (.slice B m e) (.slice (some ⟨g, off, none⟩) (d + 1) c))
  have p0 := HP.out.c0
  have p1 := HP.out.c1
  have q0 := hg0.cell hx0 (by simp)
  have q1 := hg0.cell hz (by simp)
  clear hsd hcell hlv HLV hLV2 hok hok2 hz0 ha0 hx0 hz hg0 hm hnn
  go_enter Try.func60, Try.ntmps60
  go_upto_region 1 with fail
  generalize w.alloc (.cells #[.slice B m e, .slice (some ⟨g, off, none⟩) (d + 1) c] 70) = wo at HG0 HP p0 p1 q0 q1 ⊢
  have i1 : ¬ ((d : Int) + 1 < 1) := by omega
  have i2 : (1 : Int) ≤ (d : Int) + 1 := by omega
  go_region_with (go_at_call 56; refine (HA.out _ (HG0.out.trans (by first | exact gr_refl _ _ | exact gr_drewN wo _ none | exact gr_drew1 wo))).mono ?_; rintro ee w5 ⟨ga, rfl, hg5, hga, har⟩; have hg5w : w.grownBy w5 none := HG0.out.trans (World.grownBy.trans (by first | exact gr_refl _ _ | exact gr_drewN wo _ none | exact gr_drew1 wo) hg5); have HG5 := Lib.hid hg5w; have HA5 := Lib.hid (show ArrsAt wo.heap.size wo.heap.size d (prt t) n w5 ga n from har); have HGA := Lib.hid (show w.heap.size ≤ wo.heap.size ∧ wo.heap.size ≤ ga from ⟨HG0.out.size, hga⟩); clear hg5 hga har hg5w)
  all_goals
    go_wp2_with fail
    go_ret
    exact ⟨_, _, rfl, HG5.out, HGA.out.1, HGA.out.2, HA5.out⟩

end Go.Proofs.Ytdfanconjiiceaa
